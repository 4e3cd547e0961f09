/- The walks of the document's Class, join, shift. -/
import Derived.Below
import Derived.Test.YtkgejncolchobaaRefParts
namespace Go.Proofs.Ytkgejncolchobaa.nn
open Go.RowKit

theorem drewN_below {B : Nat} {a w : World} (h : Below B a w) (j : Nat) : Below B a (w.drewN j) := ⟨h.os, h.tape, h.output, h.size, h.block⟩
def wx (k : Int) : Nat := if wOk k then xb k.toNat else 0
def wf (k : Int) : Nat := if wOk k then fb k.toNat else 0
theorem widths_all (k : Int) (w : World) :
    Calls Try.prog 29 #[.int .i64 k] w fun e w' => e = .returned (.tuple #[.int .i64 (wx k : Int), .int .i64 (wf k : Int)]) ∧ w = w' := by
  by_cases hk : wOk k
  · unfold wx wf
    rw [if_pos hk, if_pos hk]
    have h0 : 0 ≤ k := by unfold wOk at hk; omega
    obtain ⟨n, rfl⟩ := Int.eq_ofNat_of_zero_le h0
    rw [Int.toNat_natCast]
    exact widths_any n w (by unfold wOk at hk; omega)
  · unfold wx wf
    rw [if_neg hk, if_neg hk]
    exact widths_no k w hk
theorem fr_lt {w x : Nat} : fr w x < 2 ^ fb w := Nat.mod_lt _ (Nat.two_pow_pos _)
theorem ex_lt {w x : Nat} : ex w x < 2 ^ xb w := Nat.mod_lt _ (Nat.two_pow_pos _)
def ClAns (k : Int) (x : Nat) (W : World) (e : Ending) (W' : World) : Prop := e = .returned (.tuple #[.int .i64 (clC k x : Int), .int .i64 (paE k x : Int)]) ∧ Below W.heap.size W W'
theorem ret_cl {a b c d : Int} (h1 : a = c) (h2 : b = d) : Ending.returned (.tuple #[.int .i64 a, .int .i64 b]) = .returned (.tuple #[.int .i64 c, .int .i64 d]) := by rw [h1, h2]

def cl5 (E X M : Nat) : Nat := if X = 2 ^ E - 1 then (if M = 0 then 3 else 4) else if 0 < X then 2 else if 0 < M then 1 else 0
set_option maxRecDepth 100000 in
set_option maxHeartbeats 1000000 in
theorem class_core (k : Int) (x : Nat) (w : World) (X M E F : Nat) (S : Bool) (hE : E = 5 ∨ E = 8 ∨ E = 11) (hX : X < 2048) (hM : M < 18446744073709551616)
    (HP : Hid (Calls Try.prog 13 #[.int .i64 k, .int .u64 (x : Int)] w fun e W' => e = .returned (.tuple #[.bool S, .int .i64 (X : Int), .int .u64 (M : Int), .int .i64 0]) ∧ Below w.heap.size w W'))
    (HW : Hid (∀ w, Calls Try.prog 29 #[.int .i64 k] w fun e w' => e = .returned (.tuple #[.int .i64 (E : Int), .int .i64 (F : Int)]) ∧ w = w')) :
    Calls Try.prog 11 #[.int .i64 k, .int .u64 (x : Int)] w fun e W' => e = .returned (.tuple #[.int .i64 (cl5 E X M : Int), .int .i64 0]) ∧ Below w.heap.size w W' := by
  obtain ⟨R, hR⟩ : ∃ R, cl5 E X M = R := ⟨_, rfl⟩
  rw [hR]
  unfold cl5 at hR
  rcases hE with rfl | rfl | rfl
  all_goals
    first
      | (obtain ⟨T, hT⟩ : ∃ T : Nat, 2 ^ 5 - 1 = T ∧ T = 31 := ⟨31, rfl, rfl⟩; rw [hT.1] at hR; have hTv := hT.2; clear hT)
      | (obtain ⟨T, hT⟩ : ∃ T : Nat, 2 ^ 8 - 1 = T ∧ T = 255 := ⟨255, rfl, rfl⟩; rw [hT.1] at hR; have hTv := hT.2; clear hT)
      | (obtain ⟨T, hT⟩ : ∃ T : Nat, 2 ^ 11 - 1 = T ∧ T = 2047 := ⟨2047, rfl, rfl⟩; rw [hT.1] at hR; have hTv := hT.2; clear hT)
    by_cases h1 : X = T
    · have q1 : ((X : Int) == (T : Int)) = true := by rw [h1]; simp
      rw [hTv] at q1
      rw [if_pos h1] at hR
      by_cases h2 : M = 0
      · rw [if_pos h2] at hR
        have q2 : ((M : Int) == 0) = true := by rw [h2]; rfl
        subst hR
        clear h1 h2 hTv
        go_enter Try.func11, Try.ntmps11
        go_wp2_with fail
        refine HP.out.mono ?_
        rintro e w1 ⟨rfl, hb⟩
        go_wp2_with fail
        refine (HW.out _).mono ?_
        rintro e w2 ⟨rfl, rfl⟩
        go_wp2_with fail
        go_ret2
        exact ⟨rfl, hb⟩
      · rw [if_neg h2] at hR
        have q2 : ((M : Int) == 0) = false := by simp; omega
        subst hR
        clear h1 h2 hTv
        go_enter Try.func11, Try.ntmps11
        go_wp2_with fail
        refine HP.out.mono ?_
        rintro e w1 ⟨rfl, hb⟩
        go_wp2_with fail
        refine (HW.out _).mono ?_
        rintro e w2 ⟨rfl, rfl⟩
        go_wp2_with fail
        go_ret2
        exact ⟨rfl, hb⟩
    · have q1 : ((X : Int) == (T : Int)) = false := by simp; omega
      rw [hTv] at q1
      rw [if_neg h1] at hR
      by_cases h2 : 0 < X
      · rw [if_pos h2] at hR
        subst hR
        clear h1 hTv
        go_enter Try.func11, Try.ntmps11
        go_wp2_with fail
        refine HP.out.mono ?_
        rintro e w1 ⟨rfl, hb⟩
        go_wp2_with fail
        refine (HW.out _).mono ?_
        rintro e w2 ⟨rfl, rfl⟩
        go_wp2_with fail
        go_ret2
        exact ⟨rfl, hb⟩
      · rw [if_neg h2] at hR
        obtain rfl : X = 0 := by omega
        by_cases h3 : 0 < M
        · rw [if_pos h3] at hR
          subst hR
          clear h1 h2 hTv
          go_enter Try.func11, Try.ntmps11
          go_wp2_with fail
          refine HP.out.mono ?_
          rintro e w1 ⟨rfl, hb⟩
          go_wp2_with fail
          refine (HW.out _).mono ?_
          rintro e w2 ⟨rfl, rfl⟩
          go_wp2_with fail
          go_ret2
          exact ⟨rfl, hb⟩
        · rw [if_neg h3] at hR
          obtain rfl : M = 0 := by omega
          subst hR
          clear h1 h2 h3 hTv
          go_enter Try.func11, Try.ntmps11
          go_wp2_with fail
          refine HP.out.mono ?_
          rintro e w1 ⟨rfl, hb⟩
          go_wp2_with fail
          refine (HW.out _).mono ?_
          rintro e w2 ⟨rfl, rfl⟩
          go_wp2_with fail
          go_ret2
          exact ⟨rfl, hb⟩

/-- Parts where the bits fit, and where they don't -/
theorem rparts_ok (k : Int) (x : Nat) (w : World) (hx : x < 18446744073709551616) (hf : fits k x) :
    Calls Try.prog 13 #[.int .i64 k, .int .u64 (x : Int)] w fun e W' => e = .returned (.tuple #[.bool (sg k.toNat x), .int .i64 (ex k.toNat x : Int), .int .u64 (fr k.toNat x : Int), .int .i64 0]) ∧ Below w.heap.size w W' := by
  refine (rparts_any k x w hx).mono ?_
  rintro e W' ⟨he, n, rfl⟩
  unfold paS paX paF paE at he
  rw [if_pos hf, if_pos hf, if_pos hf, if_pos hf] at he
  exact ⟨he, drewN_below (Below.refl _ _) n⟩
theorem rparts_no (k : Int) (x : Nat) (w : World) (hx : x < 18446744073709551616) (hf : ¬ fits k x) :
    Calls Try.prog 13 #[.int .i64 k, .int .u64 (x : Int)] w fun e W' => e = .returned (.tuple #[.bool false, .int .i64 0, .int .u64 0, .int .i64 1]) ∧ Below w.heap.size w W' := by
  refine (rparts_any k x w hx).mono ?_
  rintro e W' ⟨he, n, rfl⟩
  unfold paS paX paF paE at he
  rw [if_neg hf, if_neg hf, if_neg hf, if_neg hf] at he
  exact ⟨he, drewN_below (Below.refl _ _) n⟩
theorem widths_ok {k : Int} (hk : wOk k) (w : World) :
    Calls Try.prog 29 #[.int .i64 k] w fun e w' => e = .returned (.tuple #[.int .i64 (xb k.toNat : Int), .int .i64 (fb k.toNat : Int)]) ∧ w = w' := by
  have := widths_all k w
  unfold wx wf at this
  rw [if_pos hk, if_pos hk] at this
  exact this
theorem xb_cases {k : Int} (hk : wOk k) : (k = 16 ∧ xb k.toNat = 5 ∧ fb k.toNat = 10) ∨ (k = 32 ∧ xb k.toNat = 8 ∧ fb k.toNat = 23) ∨ (k = 64 ∧ xb k.toNat = 11 ∧ fb k.toNat = 52) := by
  unfold wOk at hk
  rcases hk with rfl | rfl | rfl
  · exact .inl ⟨rfl, rfl, rfl⟩
  · exact .inr (.inl ⟨rfl, rfl, rfl⟩)
  · exact .inr (.inr ⟨rfl, rfl, rfl⟩)
theorem pow_up {a b : Nat} (h : a ≤ b) : 2 ^ a ≤ 2 ^ b := Nat.pow_le_pow_right (by decide) h
set_option maxRecDepth 100000 in
theorem rclass_any (k : Int) (x : Nat) (w : World) (hx : x < 18446744073709551616) :
    Calls Try.prog 11 #[.int .i64 k, .int .u64 (x : Int)] w (ClAns k x w) := by
  unfold ClAns
  by_cases hf : fits k x
  · have e3 : paE k x = 0 := by unfold paE; rw [if_pos hf]
    have e4 : clC k x = cl5 (xb k.toNat) (ex k.toNat x) (fr k.toNat x) := by unfold clC; rw [if_pos hf]; rfl
    rw [e3, e4]
    have hc := xb_cases hf.1
    have h1 := ex_lt (w := k.toNat) (x := x)
    have h2 := fr_lt (w := k.toNat) (x := x)
    have h3 : 2 ^ xb k.toNat ≤ 2 ^ 11 := pow_up (by omega)
    have h4 : 2 ^ fb k.toNat ≤ 2 ^ 52 := pow_up (by omega)
    exact class_core k x w _ _ _ _ _ (by omega) (by omega) (by omega) (Lib.hid (rparts_ok k x w hx hf)) (Lib.hid (widths_ok hf.1))
  · have e3 : paE k x = 1 := by unfold paE; rw [if_neg hf]
    have e4 : clC k x = 0 := by unfold clC; rw [if_neg hf]
    rw [e3, e4]
    have HP := Lib.hid (rparts_no k x w hx hf)
    have HW := Lib.hid (widths_all k)
    clear e3 e4 hf
    go_enter Try.func11, Try.ntmps11
    go_wp2_with fail
    refine HP.out.mono ?_
    rintro e w1 ⟨rfl, hb⟩
    go_wp2_with fail
    refine (HW.out _).mono ?_
    rintro e w2 ⟨rfl, rfl⟩
    go_wp2_with fail
    go_ret2
    exact ⟨rfl, hb⟩
end Go.Proofs.Ytkgejncolchobaa.nn
