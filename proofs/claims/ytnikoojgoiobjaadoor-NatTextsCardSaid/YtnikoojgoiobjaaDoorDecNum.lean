/- Decimal digits: joined from pieces of 19, and read back. No program is named here. -/
import Derived.Test.YtnikoojgoiobjaaDoorFromDigits
import Derived.Test.YtnikoojgoiobjaaDoorChunks
import Derived.Lib.ItoaNum
namespace Go.Proofs.YtnikoojgoiobjaaDoor.nn
open Go.RowKit

/-- the last m digits of b, zeros ahead -/
def fw : Nat → Nat → List UInt8
  | 0, _ => []
  | m + 1, b => fw m (b / 10) ++ [UInt8.ofNat (48 + b % 10)]
theorem dec_big {u : Nat} (h : ¬ u < 10) : Lib.decDigits u = Lib.decDigits (u / 10) ++ [UInt8.ofNat (48 + u % 10)] := by rw [Lib.decDigits, dif_neg h]
theorem dec_join (m : Nat) : ∀ a b, a ≠ 0 → b < 10 ^ m → Lib.decDigits (a * 10 ^ m + b) = Lib.decDigits a ++ fw m b := by
  induction m with
  | zero => intro a b _ hb
            obtain rfl : b = 0 := by simpa using hb
            simp [fw]
  | succ m ih =>
    intro a b ha hb
    rw [Nat.pow_succ] at hb
    have hp : 1 ≤ a * 10 ^ m := Nat.mul_pos (by omega) (Nat.pow_pos (by decide))
    have e : a * 10 ^ (m + 1) + b = (a * 10 ^ m) * 10 + b := by rw [Nat.pow_succ, Nat.mul_assoc]
    rw [e, dec_big (by omega), show ((a * 10 ^ m) * 10 + b) / 10 = a * 10 ^ m + b / 10 by omega, show ((a * 10 ^ m) * 10 + b) % 10 = b % 10 by omega, ih a (b / 10) ha (by omega), fw, List.append_assoc]
theorem fw_zero (m : Nat) : fw m 0 = List.replicate m 48 := by
  induction m with
  | zero => rfl
  | succ m ih => rw [fw, Nat.zero_div, ih, List.replicate_succ']; rfl
theorem nd_le (m : Nat) : ∀ u, 1 ≤ m → u < 10 ^ m → Lib.nDigits u ≤ m := by
  induction m with
  | zero => intro u h; omega
  | succ m ih =>
    intro u _ hu
    by_cases h : u < 10
    · rw [Lib.nDigits_small h]; omega
    · rw [Lib.nDigits_big h]
      rw [Nat.pow_succ] at hu
      have hm : 1 ≤ m := by
        rcases Nat.eq_zero_or_pos m with e | e
        · subst e; simp at hu; omega
        · exact e
      have := ih (u / 10) hm (by omega)
      omega
theorem fw_pad (m : Nat) : ∀ b, 1 ≤ m → b < 10 ^ m → fw m b = List.replicate (m - Lib.nDigits b) 48 ++ Lib.decDigits b := by
  induction m with
  | zero => intro b h; omega
  | succ m ih =>
    intro b _ hb
    by_cases h : b < 10
    · rw [fw, show b / 10 = 0 by omega, fw_zero, Lib.nDigits_small h, Lib.decDigits_one h, Nat.add_sub_cancel, Nat.mod_eq_of_lt h]
    · rw [Nat.pow_succ] at hb
      have hm : 1 ≤ m := by
        rcases Nat.eq_zero_or_pos m with e | e
        · subst e; simp at hb; omega
        · exact e
      rw [fw, ih (b / 10) hm (by omega), dec_big h, Lib.nDigits_big h, List.append_assoc, Nat.add_sub_add_right]
theorem dec_next {V t u : Nat} (h : V / D19 ^ (t + 1) ≠ 0) (hu : u = V / D19 ^ t % D19) : Lib.decDigits (V / D19 ^ (t + 1)) ++ (List.replicate (19 - Lib.nDigits u) 48 ++ Lib.decDigits u) = Lib.decDigits (V / D19 ^ t) := by
  have hu19 : u < 10 ^ 19 := by rw [hu]; exact Nat.mod_lt _ (by decide)
  rw [← fw_pad 19 u (by decide) hu19, ← dec_join 19 _ _ h hu19, div_pow]
  congr 1
  rw [hu, show (10 : Nat) ^ 19 = D19 from rfl, Nat.mul_comm]
  exact Nat.div_add_mod _ _
theorem dec_first {V t u : Nat} (h : V / D19 ^ (t + 1) = 0) (hu : u = V / D19 ^ t % D19) : Lib.decDigits u = Lib.decDigits (V / D19 ^ t) := by
  rw [div_pow] at h
  have h2 : V / D19 ^ t < D19 := by
    rcases Nat.lt_or_ge (V / D19 ^ t) D19 with h1 | h1
    · exact h1
    · have := Nat.div_pos h1 d19_pos; omega
  rw [hu, Nat.mod_eq_of_lt h2]
theorem div_mono {V D a b : Nat} (h : V / D ^ b ≠ 0) (hab : a ≤ b) (hD : 0 < D) : V / D ^ a ≠ 0 := by
  intro e
  apply h
  have h1 : D ^ a ≤ D ^ b := Nat.pow_le_pow_right hD hab
  have h2 := Nat.div_le_div_left h1 (Nat.pow_pos hD) (a := V)
  rw [e] at h2
  exact Nat.le_zero.1 h2

/-- read back -/
def lf_ (l : List UInt8) (i : Nat) : Nat := (l.getD i 0).toNat
theorem lf_lo {l m : List UInt8} {i : Nat} (h : i < l.length) : lf_ (l ++ m) i = lf_ l i := by
  unfold lf_
  rw [List.getD_eq_getElem?_getD, List.getD_eq_getElem?_getD, List.getElem?_append_left h]
theorem lf_hi (l : List UInt8) (c : UInt8) : lf_ (l ++ [c]) l.length = c.toNat := by
  unfold lf_
  rw [List.getD_eq_getElem?_getD, List.getElem?_append_right (Nat.le_refl _), Nat.sub_self]
  rfl
theorem digit_nat {d : Nat} (h : d < 10) : (UInt8.ofNat (48 + d)).toNat = 48 + d := by
  rw [UInt8.toNat_ofNat']
  omega
theorem dec_read (u : Nat) : dgs (lf_ (Lib.decDigits u)) (Lib.decDigits u).length = true ∧ dv (lf_ (Lib.decDigits u)) (Lib.decDigits u).length = u := by
  induction u using Nat.strongRecOn with
  | _ u ih =>
    by_cases h : u < 10
    · rw [Lib.decDigits_one h]
      have e : lf_ [UInt8.ofNat (48 + u)] 0 = 48 + u := digit_nat h
      refine ⟨?_, ?_⟩
      · show (dgs _ 0 && dg _) = true
        rw [e]
        exact decide_eq_true (by omega)
      · show dv _ 0 * 10 + (lf_ _ 0 - 48) = u
        rw [e]
        show 0 * 10 + (48 + u - 48) = u
        omega
    · obtain ⟨h1, h2⟩ := ih (u / 10) (by omega)
      rw [dec_big h, List.length_append, List.length_singleton]
      have el : ∀ i, i < (Lib.decDigits (u / 10)).length → lf_ (Lib.decDigits (u / 10) ++ [UInt8.ofNat (48 + u % 10)]) i = lf_ (Lib.decDigits (u / 10)) i := fun i hi => lf_lo hi
      have eh := lf_hi (Lib.decDigits (u / 10)) (UInt8.ofNat (48 + u % 10))
      rw [digit_nat (Nat.mod_lt _ (by decide))] at eh
      refine ⟨?_, ?_⟩
      · rw [dgs, dgs_congr el, h1, eh, Bool.true_and]
        exact decide_eq_true (by omega)
      · rw [dv, dv_congr el, h2, eh]
        omega
end Go.Proofs.YtnikoojgoiobjaaDoor.nn
