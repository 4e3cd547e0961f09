/- Plain facts on dividing two words by one, by halves of words. No program is named here. -/
import Derived.Test.YtfdgpfkjpjhmjaaShiftNum
namespace Go.Proofs.Ytfdgpfkjpjhmjaa.nn

/-- the base of half words -/
def W32 : Nat := 4294967296

/-- a guess q with the rest r of U by the high half y1; Y is the divisor, d the next half -/
structure Half (U d y1 y0 q r : Nat) : Prop where
  eq : q * y1 + r = U
  lt : U * W32 + d < (q + 1) * (y1 * W32 + y0)

theorem half_start {U d y1 y0 : Nat} (h1 : 0 < y1) (hd : d < W32) : Half U d y1 y0 (U / y1) (U % y1) := by
  refine ⟨by rw [Nat.mul_comm]; exact Nat.div_add_mod U y1, ?_⟩
  have e := Nat.div_add_mod U y1
  have hr := Nat.mod_lt U h1
  have h2 : U + 1 ≤ (U / y1 + 1) * y1 := by rw [Nat.add_mul, Nat.mul_comm (U / y1)]; omega
  have h3 : (U + 1) * W32 ≤ (U / y1 + 1) * y1 * W32 := Nat.mul_le_mul_right _ h2
  have h4 : (U / y1 + 1) * y1 * W32 ≤ (U / y1 + 1) * (y1 * W32 + y0) := by rw [Nat.mul_assoc]; exact Nat.mul_le_mul_left _ (Nat.le_add_right _ _)
  rw [Nat.add_mul] at h3
  omega

theorem half_first {U y1 y0 : Nat} (hU : U < y1 * W32 + y0) (hy1 : 2147483648 ≤ y1) (hy0 : y0 < W32) : U / y1 ≤ W32 + 1 := by
  have h : U < (W32 + 2) * y1 := by
    rw [Nat.add_mul, Nat.mul_comm W32]
    unfold W32 at *
    omega
  have := (Nat.div_lt_iff_lt_mul (by omega)).2 h
  omega

/-- the guess is too great -/
theorem Half.next {U d y1 y0 q r : Nat} (h : Half U d y1 y0 q r) (hU : U < y1 * W32 + y0) (hd : d < W32) (hc : W32 ≤ q ∨ r * W32 + d < q * y0) : 0 < q ∧ Half U d y1 y0 (q - 1) (r + y1) := by
  have hlt : U * W32 + d < q * (y1 * W32 + y0) := by
    rcases hc with hc | hc
    · have h1 : W32 * (y1 * W32 + y0) ≤ q * (y1 * W32 + y0) := Nat.mul_le_mul_right _ hc
      have h2 : W32 * (U + 1) ≤ W32 * (y1 * W32 + y0) := Nat.mul_le_mul_left _ hU
      rw [Nat.mul_add, Nat.mul_comm W32 U] at h2
      omega
    · rw [← h.eq, Nat.mul_add, Nat.add_mul, ← Nat.mul_assoc]
      omega
  have h0 : 0 < q := by
    rcases Nat.eq_zero_or_pos q with h0 | h0
    · rw [h0, Nat.zero_mul] at hlt; omega
    · exact h0
  obtain ⟨p, rfl⟩ : ∃ p, q = p + 1 := ⟨q - 1, by omega⟩
  refine ⟨h0, ?_, by rw [Nat.add_sub_cancel]; exact hlt⟩
  rw [Nat.add_sub_cancel, ← h.eq, Nat.add_mul]
  omega

theorem Half.fits {U d y1 y0 q r : Nat} (h : Half U d y1 y0 q r) (hc : q * y0 ≤ r * W32 + d) : q = (U * W32 + d) / (y1 * W32 + y0) ∧ q * (y1 * W32 + y0) ≤ U * W32 + d := by
  have h1 : q * (y1 * W32 + y0) ≤ U * W32 + d := by
    rw [← h.eq, Nat.mul_add, Nat.add_mul, ← Nat.mul_assoc]
    omega
  exact ⟨(Nat.div_eq_of_lt_le h1 h.lt).symm, h1⟩

/-- a rest as great as a half word ends it -/
theorem Half.wide {U d y1 y0 q r : Nat} (h : Half U d y1 y0 q r) (hq : q ≤ W32) (hy0 : y0 < W32) (hr : W32 ≤ r) : q = (U * W32 + d) / (y1 * W32 + y0) ∧ q * (y1 * W32 + y0) ≤ U * W32 + d := by
  refine h.fits ?_
  have h1 : q * y0 ≤ W32 * W32 := Nat.mul_le_mul hq (Nat.le_of_lt hy0)
  have h2 : W32 * W32 ≤ r * W32 := Nat.mul_le_mul_right _ hr
  omega

/-- two halves of a quotient -/
theorem two_halves {U d1 d0 Y q1 q0 : Nat} (h1 : q1 = (U * W32 + d1) / Y) (h0 : q0 = ((U * W32 + d1) % Y * W32 + d0) / Y) (hY : 0 < Y) :
    ((U * W32 + d1) * W32 + d0) / Y = q1 * W32 + q0 ∧ ((U * W32 + d1) * W32 + d0) % Y = ((U * W32 + d1) % Y * W32 + d0) % Y := by
  have e1 := Nat.div_add_mod (U * W32 + d1) Y
  rw [← h1] at e1
  have e2 : (U * W32 + d1) * W32 + d0 = (U * W32 + d1) % Y * W32 + d0 + Y * (q1 * W32) := by
    have := congrArg (· * W32) e1
    simp only [Nat.add_mul] at this ⊢
    rw [← this, Nat.mul_assoc Y]
    omega
  rw [e2, Nat.add_mul_div_left _ _ hY, Nat.add_mul_mod_self_left, ← h0]
  exact ⟨by omega, rfl⟩

theorem div_lt_half {R d Y : Nat} (hR : R < Y) (hd : d < W32) : (R * W32 + d) / Y < W32 := by
  rw [Nat.div_lt_iff_lt_mul (by omega), Nat.mul_comm W32]
  have h : (R + 1) * W32 ≤ Y * W32 := Nat.mul_le_mul_right _ hR
  rw [Nat.add_mul] at h
  omega

/-- both sides times two to a power -/
theorem scaled {N y s R : Nat} (h : N * 2 ^ s % (y * 2 ^ s) = R) : N % y = R / 2 ^ s := by
  rw [Nat.mul_mod_mul_right] at h
  rw [← h, Nat.mul_div_cancel _ (Nat.two_pow_pos s)]
theorem scaled_div (N y s : Nat) : N * 2 ^ s / (y * 2 ^ s) = N / y := Nat.mul_div_mul_right _ _ (Nat.two_pow_pos s)
end Go.Proofs.Ytfdgpfkjpjhmjaa.nn
