/- Plain facts on dividing two words by one, by halves of words, and on the guess of one limb of a quotient by the highest limbs. No program is named here. -/
import Derived.Test.YtnikoojgoiobjaaDoorShiftNum
namespace Go.Proofs.YtnikoojgoiobjaaDoor.nn

theorem Nat.mul_add_mod_of_lt' {q y r : Nat} (h : r < y) (_ : 0 < y) : (q * y + r) % y = r := by
  rw [Nat.add_comm, Nat.add_mul_mod_self_right, Nat.mod_eq_of_lt h]
theorem Nat.mul_add_div' {q y r : Nat} (h : r < y) (h0 : 0 < y) : (q * y + r) / y = q := by
  rw [Nat.add_comm, Nat.add_mul_div_right _ _ h0, Nat.div_eq_of_lt h, Nat.zero_add]

/-- the base of half words -/
def W32 : Nat := 4294967296

/-- a guess q with the rest r of U by the high half y1; Y is the divisor, d the next half -/
structure Half (U d y1 y0 q r : Nat) : Prop where
  eq : q * y1 + r = U
  lt : U * W32 + d < (q + 1) * (y1 * W32 + y0)

theorem half_start {U d y1 y0 : Nat} (h1 : 0 < y1) (hd : d < W32) : Half U d y1 y0 (U / y1) (U % y1) := by
  refine ⟨by rw [Nat.mul_comm]; exact Nat.div_add_mod U y1, ?_⟩
  have e := Nat.div_add_mod U y1
  have hr := Nat.mod_lt U h1
  have h2 : U + 1 ≤ (U / y1 + 1) * y1 := by rw [Nat.add_mul, Nat.mul_comm (U / y1)]; omega
  have h3 : (U + 1) * W32 ≤ (U / y1 + 1) * y1 * W32 := Nat.mul_le_mul_right _ h2
  have h4 : (U / y1 + 1) * y1 * W32 ≤ (U / y1 + 1) * (y1 * W32 + y0) := by rw [Nat.mul_assoc]; exact Nat.mul_le_mul_left _ (Nat.le_add_right _ _)
  rw [Nat.add_mul] at h3
  omega

theorem half_first {U y1 y0 : Nat} (hU : U < y1 * W32 + y0) (hy1 : 2147483648 ≤ y1) (hy0 : y0 < W32) : U / y1 ≤ W32 + 1 := by
  have h : U < (W32 + 2) * y1 := by
    rw [Nat.add_mul, Nat.mul_comm W32]
    unfold W32 at *
    omega
  have := (Nat.div_lt_iff_lt_mul (by omega)).2 h
  omega

/-- the guess is too great -/
theorem Half.next {U d y1 y0 q r : Nat} (h : Half U d y1 y0 q r) (hU : U < y1 * W32 + y0) (hd : d < W32) (hc : W32 ≤ q ∨ r * W32 + d < q * y0) : 0 < q ∧ Half U d y1 y0 (q - 1) (r + y1) := by
  have hlt : U * W32 + d < q * (y1 * W32 + y0) := by
    rcases hc with hc | hc
    · have h1 : W32 * (y1 * W32 + y0) ≤ q * (y1 * W32 + y0) := Nat.mul_le_mul_right _ hc
      have h2 : W32 * (U + 1) ≤ W32 * (y1 * W32 + y0) := Nat.mul_le_mul_left _ hU
      rw [Nat.mul_add, Nat.mul_comm W32 U] at h2
      omega
    · rw [← h.eq, Nat.mul_add, Nat.add_mul, ← Nat.mul_assoc]
      omega
  have h0 : 0 < q := by
    rcases Nat.eq_zero_or_pos q with h0 | h0
    · rw [h0, Nat.zero_mul] at hlt; omega
    · exact h0
  obtain ⟨p, rfl⟩ : ∃ p, q = p + 1 := ⟨q - 1, by omega⟩
  refine ⟨h0, ?_, by rw [Nat.add_sub_cancel]; exact hlt⟩
  rw [Nat.add_sub_cancel, ← h.eq, Nat.add_mul]
  omega

theorem Half.fits {U d y1 y0 q r : Nat} (h : Half U d y1 y0 q r) (hc : q * y0 ≤ r * W32 + d) : q = (U * W32 + d) / (y1 * W32 + y0) ∧ q * (y1 * W32 + y0) ≤ U * W32 + d := by
  have h1 : q * (y1 * W32 + y0) ≤ U * W32 + d := by
    rw [← h.eq, Nat.mul_add, Nat.add_mul, ← Nat.mul_assoc]
    omega
  exact ⟨(Nat.div_eq_of_lt_le h1 h.lt).symm, h1⟩

/-- a rest as great as a half word ends it -/
theorem Half.wide {U d y1 y0 q r : Nat} (h : Half U d y1 y0 q r) (hq : q ≤ W32) (hy0 : y0 < W32) (hr : W32 ≤ r) : q = (U * W32 + d) / (y1 * W32 + y0) ∧ q * (y1 * W32 + y0) ≤ U * W32 + d := by
  refine h.fits ?_
  have h1 : q * y0 ≤ W32 * W32 := Nat.mul_le_mul hq (Nat.le_of_lt hy0)
  have h2 : W32 * W32 ≤ r * W32 := Nat.mul_le_mul_right _ hr
  omega

/-- two halves of a quotient -/
theorem two_halves {U d1 d0 Y q1 q0 : Nat} (h1 : q1 = (U * W32 + d1) / Y) (h0 : q0 = ((U * W32 + d1) % Y * W32 + d0) / Y) (hY : 0 < Y) :
    ((U * W32 + d1) * W32 + d0) / Y = q1 * W32 + q0 ∧ ((U * W32 + d1) * W32 + d0) % Y = ((U * W32 + d1) % Y * W32 + d0) % Y := by
  have e1 := Nat.div_add_mod (U * W32 + d1) Y
  rw [← h1] at e1
  have e2 : (U * W32 + d1) * W32 + d0 = (U * W32 + d1) % Y * W32 + d0 + Y * (q1 * W32) := by
    have := congrArg (· * W32) e1
    simp only [Nat.add_mul] at this ⊢
    rw [← this, Nat.mul_assoc Y]
    omega
  rw [e2, Nat.add_mul_div_left _ _ hY, Nat.add_mul_mod_self_left, ← h0]
  exact ⟨by omega, rfl⟩

theorem div_lt_half {R d Y : Nat} (hR : R < Y) (hd : d < W32) : (R * W32 + d) / Y < W32 := by
  rw [Nat.div_lt_iff_lt_mul (by omega), Nat.mul_comm W32]
  have h : (R + 1) * W32 ≤ Y * W32 := Nat.mul_le_mul_right _ hR
  rw [Nat.add_mul] at h
  omega

/-- both sides times two to a power -/
theorem scaled {N y s R : Nat} (h : N * 2 ^ s % (y * 2 ^ s) = R) : N % y = R / 2 ^ s := by
  rw [Nat.mul_mod_mul_right] at h
  rw [← h, Nat.mul_div_cancel _ (Nat.two_pow_pos s)]
theorem scaled_div (N y s : Nat) : N * 2 ^ s / (y * 2 ^ s) = N / y := Nat.mul_div_mul_right _ _ (Nat.two_pow_pos s)
section
/-- the base of wide limbs, as in AddTimes; B is any base here -/
structure Guess (B U d y1 y0 q r : Nat) : Prop where
  eq : q * y1 + r = U
  lt : U * B + d < (q + 1) * (y1 * B + y0)

variable {B U d y1 y0 q r : Nat}

theorem guess_start (h1 : 0 < y1) (hd : d < B) : Guess B U d y1 y0 (U / y1) (U % y1) := by
  refine ⟨by rw [Nat.mul_comm]; exact Nat.div_add_mod U y1, ?_⟩
  have e := Nat.div_add_mod U y1
  have hr := Nat.mod_lt U h1
  have h2 : U + 1 ≤ (U / y1 + 1) * y1 := by rw [Nat.add_mul, Nat.mul_comm (U / y1)]; omega
  have h3 : (U + 1) * B ≤ (U / y1 + 1) * y1 * B := Nat.mul_le_mul_right _ h2
  have h4 : (U / y1 + 1) * y1 * B ≤ (U / y1 + 1) * (y1 * B + y0) := by rw [Nat.mul_assoc]; exact Nat.mul_le_mul_left _ (Nat.le_add_right _ _)
  rw [Nat.add_mul] at h3
  omega

/-- the guess is too great -/
theorem Guess.next (h : Guess B U d y1 y0 q r) (hc : r * B + d < q * y0) : 0 < q ∧ Guess B U d y1 y0 (q - 1) (r + y1) := by
  have hlt : U * B + d < q * (y1 * B + y0) := by
    rw [← h.eq, Nat.mul_add, Nat.add_mul, ← Nat.mul_assoc]
    omega
  have h0 : 0 < q := by
    rcases Nat.eq_zero_or_pos q with h0 | h0
    · rw [h0, Nat.zero_mul] at hlt; omega
    · exact h0
  obtain ⟨p, rfl⟩ : ∃ p, q = p + 1 := ⟨q - 1, by omega⟩
  refine ⟨h0, ?_, by rw [Nat.add_sub_cancel]; exact hlt⟩
  rw [Nat.add_sub_cancel, ← h.eq, Nat.add_mul]
  omega

theorem Guess.fits (h : Guess B U d y1 y0 q r) (hc : q * y0 ≤ r * B + d) : q = (U * B + d) / (y1 * B + y0) := by
  have h1 : q * (y1 * B + y0) ≤ U * B + d := by
    rw [← h.eq, Nat.mul_add, Nat.add_mul, ← Nat.mul_assoc]
    omega
  exact (Nat.div_eq_of_lt_le h1 h.lt).symm

/-- a rest as great as the base ends it -/
theorem Guess.wide (h : Guess B U d y1 y0 q r) (hq : q ≤ B) (hy0 : y0 < B) (hr : B ≤ r) : q = (U * B + d) / (y1 * B + y0) := by
  refine h.fits ?_
  have h1 : q * y0 ≤ B * B := Nat.mul_le_mul hq (Nat.le_of_lt hy0)
  have h2 : B * B ≤ r * B := Nat.mul_le_mul_right _ hr
  omega

/-- what is guessed -/
def gs (B x2 x1 x0 y1 y0 : Nat) : Nat := if y1 ≤ x2 then B - 1 else ((x2 * B + x1) * B + x0) / (y1 * B + y0)

/-- THE GUESS IS JUST RIGHT, OR ONE TOO GREAT: A = (x2, x1, x0) · P + a, D = (y1, y0) · P + b with the power P of the places below -/
theorem guess_right {P x2 x1 x0 a b A D : Nat} (hA : A = ((x2 * B + x1) * B + x0) * P + a) (hD : D = (y1 * B + y0) * P + b) (ha : a < P) (hb : b < P)
    (hx1 : x1 < B) (hx0 : x0 < B) (hy0 : y0 < B) (hy1 : B ≤ 2 * y1) (hy1' : y1 < B) (hAD : A < D * B) (hB : 2 ≤ B) :
    A / D ≤ gs B x2 x1 x0 y1 y0 ∧ gs B x2 x1 x0 y1 y0 ≤ A / D + 1 ∧ gs B x2 x1 x0 y1 y0 < B := by
  have hD0 : 0 < D := by
    rcases Nat.eq_zero_or_pos D with h | h
    · rw [h] at hAD; omega
    · exact h
  have hq : A / D < B := (Nat.div_lt_iff_lt_mul hD0).2 (by rw [Nat.mul_comm]; exact hAD)
  have hP : 0 < P := by omega
  unfold gs
  by_cases hc : y1 ≤ x2
  · rw [if_pos hc]
    refine ⟨by omega, ?_, by omega⟩
    have h1 : (B - 2) * D ≤ A := by
      have e1 : D ≤ (y1 + 1) * (B * P) := by
        rw [hD]
        have : (y1 * B + y0 + 1) * P ≤ (y1 + 1) * B * P := Nat.mul_le_mul_right _ (by rw [Nat.add_mul]; omega)
        rw [Nat.add_mul (y1 * B + y0)] at this
        rw [← Nat.mul_assoc]
        omega
      have e2 : x2 * B * (B * P) ≤ A := by
        rw [hA, ← Nat.mul_assoc]
        have : x2 * B * B * P ≤ ((x2 * B + x1) * B + x0) * P := Nat.mul_le_mul_right _ (by rw [Nat.add_mul]; omega)
        omega
      have e3 : (B - 2) * (y1 + 1) ≤ x2 * B := by
        have h3 : (B - 2) * (y1 + 1) ≤ y1 * B := by
          obtain ⟨c, rfl⟩ : ∃ c, B = c + 2 := ⟨B - 2, by omega⟩
          rw [Nat.add_sub_cancel, Nat.mul_add, Nat.mul_add, Nat.mul_comm c y1]
          omega
        exact Nat.le_trans h3 (Nat.mul_le_mul_right _ hc)
      calc (B - 2) * D ≤ (B - 2) * ((y1 + 1) * (B * P)) := Nat.mul_le_mul_left _ e1
        _ = (B - 2) * (y1 + 1) * (B * P) := (Nat.mul_assoc _ _ _).symm
        _ ≤ x2 * B * (B * P) := Nat.mul_le_mul_right _ e3
        _ ≤ A := e2
    have h2 := (Nat.le_div_iff_mul_le hD0).2 h1
    omega
  · rw [if_neg hc]
    obtain ⟨A3, hA3⟩ : ∃ A3, (x2 * B + x1) * B + x0 = A3 := ⟨_, rfl⟩
    obtain ⟨D2, hD2⟩ : ∃ D2, y1 * B + y0 = D2 := ⟨_, rfl⟩
    rw [hA3] at hA ⊢
    rw [hD2] at hD ⊢
    have hD20 : 0 < D2 := by
      have : 1 * 1 ≤ y1 * B := Nat.mul_le_mul (by omega) (by omega)
      omega
    have hg : A3 / D2 < B := by
      rw [Nat.div_lt_iff_lt_mul hD20, ← hA3, ← hD2]
      have h1 : (x2 * B + x1 + 1) * B ≤ B * (y1 * B) := by
        rw [Nat.mul_comm B]
        refine Nat.mul_le_mul_right _ ?_
        have : (x2 + 1) * B ≤ y1 * B := Nat.mul_le_mul_right _ (by omega)
        rw [Nat.add_mul] at this
        omega
      rw [Nat.add_mul] at h1
      rw [Nat.mul_add]
      omega
    have hle : A3 / D2 * D2 ≤ A3 := Nat.div_mul_le_self _ _
    refine ⟨?_, ?_, hg⟩
    · rw [Nat.le_div_iff_mul_le hD20]
      have h1 : A / D * D ≤ A := Nat.div_mul_le_self _ _
      have h2 : A / D * (D2 * P) ≤ A / D * D := Nat.mul_le_mul_left _ (by omega)
      have h3 : A / D * D2 * P < (A3 + 1) * P := by rw [Nat.mul_assoc, Nat.add_mul]; omega
      exact Nat.le_of_lt_succ (Nat.lt_of_mul_lt_mul_right h3)
    · have h4 : A3 / D2 - 1 ≤ A / D := by
        rw [Nat.le_div_iff_mul_le hD0]
        obtain ⟨t, ht⟩ : ∃ t, A3 / D2 = t := ⟨_, rfl⟩
        rw [ht] at hle hg ⊢
        rcases Nat.eq_zero_or_pos t with h0 | h0
        · rw [h0]; simp
        · obtain ⟨s, rfl⟩ : ∃ s, t = s + 1 := ⟨t - 1, by omega⟩
          rw [Nat.add_sub_cancel]
          have h5 : (s + 1) * D2 * P ≤ A3 * P := Nat.mul_le_mul_right _ hle
          have h6 : s * b ≤ s * P := Nat.mul_le_mul_left _ (Nat.le_of_lt hb)
          have h7 : s * P ≤ D2 * P := Nat.mul_le_mul_right _ (by
            have : 1 * B ≤ y1 * B := Nat.mul_le_mul_right _ (by omega)
            omega)
          rw [hA, hD, Nat.mul_add, ← Nat.mul_assoc]
          rw [Nat.add_mul, Nat.add_mul, Nat.one_mul] at h5
          omega
      omega
end
end Go.Proofs.YtnikoojgoiobjaaDoor.nn
