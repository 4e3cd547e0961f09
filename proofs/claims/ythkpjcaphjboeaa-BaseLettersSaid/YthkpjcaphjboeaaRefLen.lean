/- The document's Encode and Len (base) of any kind. -/
import Derived.Test.YthkpjcaphjboeaaRefEncode
namespace Go.Proofs.Ythkpjcaphjboeaa.nn
open Go.RowKit

/-- the letters of n bytes by a kind; none of a kind that is none -/
def enK (kind : Int) (f : Nat → Nat) (n : Nat) : List UInt8 := if 0 ≤ kind ∧ kind < 4 then encB (alp kind.toNat) (wid kind.toNat) (mlt kind.toNat) f n (nl kind.toNat n) else []
def erK (kind : Int) : Int := if 0 ≤ kind ∧ kind < 4 then 0 else 1
def lnK (kind n : Int) : Int := if (0 ≤ kind ∧ kind < 4) ∧ 0 ≤ n ∧ n ≤ 1048576 then (up (mlt kind.toNat) (nl kind.toNat n.toNat) : Int) else 0
theorem wid_cases {k : Nat} (h : k < 4) : wid k = 4 ∧ mlt k = 1 ∨ wid k = 6 ∧ mlt k = 4 ∨ wid k = 6 ∧ mlt k = 1 ∨ wid k = 5 ∧ mlt k = 8 := by
  rcases (show k = 0 ∨ k = 1 ∨ k = 2 ∨ k = 3 by omega) with rfl | rfl | rfl | rfl
  · exact .inl ⟨rfl, rfl⟩
  · exact .inr (.inl ⟨rfl, rfl⟩)
  · exact .inr (.inr (.inl ⟨rfl, rfl⟩))
  · exact .inr (.inr (.inr ⟨rfl, rfl⟩))
theorem alp_size {k : Nat} (h : k < 4) : 2 ^ wid k ≤ (alp k).size ∧ (alp k).size ≤ 1000 := by
  rcases (show k = 0 ∨ k = 1 ∨ k = 2 ∨ k = 3 by omega) with rfl | rfl | rfl | rfl <;> decide
theorem rencode_any (kind : Int) (A : Option Addr) (n c : Nat) (f : Nat → Nat) (w : World) (hA : Rd w .u8 A n f) (hf : ∀ j, j < n → f j < 256) (hn : n ≤ 16777216) :
    Calls Try.prog 7 #[.int .i64 kind, .slice A n c] w (EncAns (enK kind f n) (erK kind) w) := by
  by_cases hk : 0 ≤ kind ∧ kind < 4
  · obtain ⟨k, rfl⟩ := Int.eq_ofNat_of_zero_le hk.1
    have hk4 : k < 4 := by omega
    have e1 : enK (k : Int) f n = encB (alp k) (wid k) (mlt k) f n (nl k n) := by unfold enK; rw [if_pos hk, Int.toNat_natCast]
    have e2 : erK (k : Int) = 0 := by unfold erK; rw [if_pos hk]
    rw [e1, e2]
    exact rencode_core (k : Int) (alp k) (wid k) (mlt k) (nl k n) (wid_cases hk4) (alp_size hk4).1 (alp_size hk4).2 (Lib.hid fun w => alphabet_any k w hk4) A n c f w hA hf hn rfl
  · have e1 : enK kind f n = [] := by unfold enK; rw [if_neg hk]
    have e2 : erK kind = 1 := by unfold erK; rw [if_neg hk]
    rw [e1, e2]
    have HA := Lib.hid (fun w => alphabet_no kind w hk)
    clear hk e1 e2 hf hA
    go_enter Try.func7, Try.ntmps7
    go_wp2_with fail
    refine (HA.out _).mono ?_
    rintro e w1 ⟨rfl, rfl⟩
    go_wp2_with fail
    exact bodyPost_ret (v := .tuple #[.string ⟨#[]⟩, .int .i64 1]) (by simp [results, Try.results7, go_sem]) rfl ⟨rfl, Below.refl _ _⟩
set_option maxRecDepth 100000 in
set_option maxHeartbeats 1000000 in
theorem rlen_any (kind n : Int) (w : World) :
    Calls Try.prog 9 #[.int .i64 kind, .int .i64 n] w fun e w' => e = .returned (.int .i64 (lnK kind n)) ∧ w = w' := by
  by_cases hk : 0 ≤ kind ∧ kind < 4
  · obtain ⟨k, rfl⟩ := Int.eq_ofNat_of_zero_le hk.1
    have hk4 : k < 4 := by omega
    have HA := Lib.hid (fun w => alphabet_any k w hk4)
    by_cases hn : 0 ≤ n ∧ n ≤ 1048576
    · obtain ⟨N, rfl⟩ := Int.eq_ofNat_of_zero_le hn.1
      have e : lnK (k : Int) (N : Int) = (up (mlt k) (nl k N) : Int) := by unfold lnK; rw [if_pos ⟨hk, hn⟩, Int.toNat_natCast, Int.toNat_natCast]
      rw [e]
      have hw := wid_cases hk4
      obtain ⟨n1, n2⟩ := hn
      obtain ⟨W, hW⟩ : ∃ W, wid k = W := ⟨_, rfl⟩
      obtain ⟨M, hM⟩ : ∃ M, mlt k = M := ⟨_, rfl⟩
      have hl : nl k N = (8 * N + W - 1) / W := by unfold nl; rw [hW]
      have hu : up (mlt k) (nl k N) = ((8 * N + W - 1) / W + M - 1) / M * M := by unfold up; rw [hl, hM]
      rw [hu]
      rw [hW, hM] at hw HA
      clear e hl hu hW hM
      rcases hw with ⟨rfl, rfl⟩ | ⟨rfl, rfl⟩ | ⟨rfl, rfl⟩ | ⟨rfl, rfl⟩
      all_goals
        go_enter Try.func9, Try.ntmps9
        go_wp2_with fail
        refine (HA.out _).mono ?_
        rintro e w1 ⟨rfl, rfl⟩
        go_wp2_with fail
        go_ret
        exact ⟨ret_i (by omega), rfl⟩
    · have e : lnK (k : Int) n = 0 := by unfold lnK; rw [if_neg fun h => hn h.2]
      rw [e]
      have hw := wid_cases hk4
      have q0 : ((wid k : Int) == 0) = false := by simp; omega
      clear e
      by_cases h0 : n < 0
      · clear hn hw
        go_enter Try.func9, Try.ntmps9
        go_wp2_with fail
        refine (HA.out _).mono ?_
        rintro e w1 ⟨rfl, rfl⟩
        go_wp2_with fail
        go_ret
        exact ⟨rfl, rfl⟩
      · have h1 : 1048576 < n := by omega
        clear hn hw
        go_enter Try.func9, Try.ntmps9
        go_wp2_with fail
        refine (HA.out _).mono ?_
        rintro e w1 ⟨rfl, rfl⟩
        go_wp2_with fail
        go_ret
        exact ⟨rfl, rfl⟩
  · have e : lnK kind n = 0 := by unfold lnK; rw [if_neg fun h => hk h.1]
    rw [e]
    have HA := Lib.hid (fun w => alphabet_no kind w hk)
    clear e hk
    go_enter Try.func9, Try.ntmps9
    go_wp2_with fail
    refine (HA.out _).mono ?_
    rintro e w1 ⟨rfl, rfl⟩
    go_wp2_with fail
    go_ret
    exact ⟨rfl, rfl⟩
end Go.Proofs.Ythkpjcaphjboeaa.nn
