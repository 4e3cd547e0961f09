/- The document's Widen, of any width. -/
import Derived.Test.YtkgejncolchobaaRefWiden
namespace Go.Proofs.Ytkgejncolchobaa.nn
open Go.RowKit

theorem cl5_cases (E X M : Nat) : cl5 E X M = 0 ∨ (cl5 E X M = 1 ∧ 0 < M ∧ X = 0) ∨ (cl5 E X M = 2 ∧ 0 < X ∧ X ≠ 2 ^ E - 1) ∨ cl5 E X M = 3 ∨ cl5 E X M = 4 := by
  unfold cl5
  by_cases h1 : X = 2 ^ E - 1
  · rw [if_pos h1]
    split
    · exact .inr (.inr (.inr (.inl rfl)))
    · exact .inr (.inr (.inr (.inr rfl)))
  · rw [if_neg h1]
    split
    · rename_i h; exact .inr (.inr (.inl ⟨rfl, h, h1⟩))
    · split
      · rename_i h2 h3; exact .inr (.inl ⟨rfl, h3, by omega⟩)
      · exact .inl rfl
theorem class_ok (k : Int) (x : Nat) (hx : x < 18446744073709551616) (hf : fits k x) (w : World) :
    Calls Try.prog 11 #[.int .i64 k, .int .u64 (x : Int)] w fun e W' => e = .returned (.tuple #[.int .i64 (clk k.toNat x : Int), .int .i64 0]) ∧ Below w.heap.size w W' := by
  refine (rclass_any k x w hx).mono ?_
  rintro e W' ⟨he, hb⟩
  have e3 : paE k x = 0 := by unfold paE; rw [if_pos hf]
  have e4 : clC k x = clk k.toNat x := by unfold clC; rw [if_pos hf]; rfl
  rw [e3, e4] at he
  exact ⟨he, hb⟩
set_option maxRecDepth 100000 in
theorem rwiden_any (k : Int) (x : Nat) (w : World) (hx : x < 18446744073709551616) :
    Calls Try.prog 16 #[.int .i64 k, .int .u64 (x : Int)] w (WiAns k x w) := by
  unfold WiAns
  by_cases hf : fits k x
  · have e3 : paE k x = 0 := by unfold paE; rw [if_pos hf]
    have e4 : wiV k x = wdV k.toNat x := by unfold wiV; rw [if_pos hf]
    rw [e3, e4]
    have HP := Lib.hid (rparts_ok k x w hx hf)
    have HW := Lib.hid (widths_ok hf.1)
    have HC := Lib.hid (class_ok k x hx hf)
    have hc := cl5_cases (xb k.toNat) (ex k.toNat x) (fr k.toNat x)
    have h1 := ex_lt (w := k.toNat) (x := x)
    have h2 := fr_lt (w := k.toNat) (x := x)
    have hk := hf.1
    unfold wOk at hk
    rcases hk with rfl | rfl | rfl
    · rw [show 2 ^ xb (Int.toNat 16) = 32 from rfl] at h1
      rw [show 2 ^ fb (Int.toNat 16) = 1024 from rfl] at h2
      rw [show 2 ^ xb (Int.toNat 16) - 1 = 31 from rfl] at hc
      exact widen_16 x w _ _ (clk 16 x) _ (by omega) h2 hx HP HW HC (by rcases hc with h | h | h | h | h; exact .inl h; exact .inr (.inl h); exact .inr (.inr (.inl ⟨h.1, h.2.1, by omega⟩)); exact .inr (.inr (.inr (.inl h))); exact .inr (.inr (.inr (.inr h))))
    · rw [show 2 ^ xb (Int.toNat 32) = 256 from rfl] at h1
      rw [show 2 ^ fb (Int.toNat 32) = 8388608 from rfl] at h2
      rw [show 2 ^ xb (Int.toNat 32) - 1 = 255 from rfl] at hc
      exact widen_32 x w _ _ (clk 32 x) _ (by omega) h2 hx HP HW HC (by rcases hc with h | h | h | h | h; exact .inl h; exact .inr (.inl h); exact .inr (.inr (.inl ⟨h.1, h.2.1, by omega⟩)); exact .inr (.inr (.inr (.inl h))); exact .inr (.inr (.inr (.inr h))))
    · rw [show 2 ^ xb (Int.toNat 64) = 2048 from rfl] at h1
      rw [show 2 ^ fb (Int.toNat 64) = 4503599627370496 from rfl] at h2
      rw [show 2 ^ xb (Int.toNat 64) - 1 = 2047 from rfl] at hc
      exact widen_64 x w _ _ (clk 64 x) _ (by omega) h2 hx HP HW HC (by rcases hc with h | h | h | h | h; exact .inl h; exact .inr (.inl h); exact .inr (.inr (.inl ⟨h.1, h.2.1, by omega⟩)); exact .inr (.inr (.inr (.inl h))); exact .inr (.inr (.inr (.inr h))))
  · have e3 : paE k x = 1 := by unfold paE; rw [if_neg hf]
    have e4 : wiV k x = 0 := by unfold wiV; rw [if_neg hf]
    rw [e3, e4]
    have HP := Lib.hid (rparts_no k x w hx hf)
    clear e3 e4 hf
    go_enter Try.func16, Try.ntmps16
    go_wp2_with fail
    refine HP.out.mono ?_
    rintro e w1 ⟨rfl, hb⟩
    go_wp2_with fail
    go_ret2
    exact ⟨rfl, hb⟩
end Go.Proofs.Ytkgejncolchobaa.nn
