/- Plain facts on how many bits a number has. No program is named here. -/
import Derived.Lib.BitFns
import Derived.Test.YtnikoojgoiobjaaDoorShiftNum
namespace Go.Proofs.YtnikoojgoiobjaaDoor.nn

/-- how many bits a number has -/
def bl (N : Nat) : Nat := if N = 0 then 0 else N.log2 + 1

theorem bl_zero : bl 0 = 0 := rfl
theorem bl_lt (N : Nat) : N < 2 ^ bl N := by
  unfold bl
  split
  · omega
  · exact Nat.lt_log2_self
theorem bl_ge {N : Nat} (h : N ≠ 0) : 2 ^ (bl N - 1) ≤ N ∧ 0 < bl N := by
  unfold bl
  rw [if_neg h, Nat.add_sub_cancel]
  exact ⟨Nat.log2_self_le h, by omega⟩
theorem bl_uniq {N k : Nat} (h1 : N < 2 ^ k) (h2 : 0 < k → 2 ^ (k - 1) ≤ N) : bl N = k := by
  rcases Nat.eq_zero_or_pos N with h0 | h0
  · subst h0
    rcases Nat.eq_zero_or_pos k with hk | hk
    · subst hk; rfl
    · have := h2 hk; have := Nat.two_pow_pos (k - 1); omega
  · obtain ⟨h3, h4⟩ := bl_ge (N := N) (by omega)
    have h5 := bl_lt N
    have a1 : ∀ a b : Nat, 2 ^ a < 2 ^ b → a < b := fun a b h => (Nat.pow_lt_pow_iff_right (by decide)).1 h
    rcases Nat.eq_zero_or_pos k with hk | hk
    · subst hk; simp at h1; omega
    · have := h2 hk
      have l1 := a1 (k - 1) (bl N) (by omega)
      have l2 := a1 (bl N - 1) k (by omega)
      omega
theorem bl_le {N k : Nat} (h : N < 2 ^ k) : bl N ≤ k := by
  rcases Nat.eq_zero_or_pos N with h0 | h0
  · subst h0; rw [bl_zero]; omega
  · obtain ⟨h3, h4⟩ := bl_ge (N := N) (by omega)
    have l := (Nat.pow_lt_pow_iff_right (a := 2) (by decide)).1 (Nat.lt_of_le_of_lt h3 h)
    omega
theorem bl_mul {N : Nat} (h : N ≠ 0) (k : Nat) : bl (N * 2 ^ k) = bl N + k := by
  obtain ⟨h3, h4⟩ := bl_ge h
  refine bl_uniq ?_ (fun _ => ?_)
  · rw [Nat.pow_add]; exact Nat.mul_lt_mul_of_pos_right (bl_lt N) (Nat.two_pow_pos k)
  · have e : bl N + k - 1 = bl N - 1 + k := by omega
    rw [e, Nat.pow_add]; exact Nat.mul_le_mul_right _ h3
theorem bl_div (N k : Nat) : bl (N / 2 ^ k) = bl N - k := by
  have h5 := bl_lt N
  rcases Nat.lt_or_ge k (bl N) with hk | hk
  · have h0 : N ≠ 0 := by rintro rfl; simp [bl] at hk
    obtain ⟨h3, h4⟩ := bl_ge h0
    refine bl_uniq ?_ (fun _ => ?_)
    · rw [Nat.div_lt_iff_lt_mul (Nat.two_pow_pos k), ← Nat.pow_add]
      rwa [Nat.sub_add_cancel (Nat.le_of_lt hk)]
    · rw [Nat.le_div_iff_mul_le (Nat.two_pow_pos k), ← Nat.pow_add]
      have e : bl N - k - 1 + k = bl N - 1 := by omega
      rwa [e]
  · have h6 : 2 ^ bl N ≤ 2 ^ k := Nat.pow_le_pow_right (by decide) hk
    rw [Nat.div_eq_of_lt (by omega), bl_zero]
    omega

theorem bl_half {x : Nat} (h : x ≠ 0) : bl x = 1 + bl (x / 2) := by
  have h1 := bl_div x 1
  rw [Nat.pow_one] at h1
  have := (bl_ge h).2
  omega

theorem bitLen_bl : ∀ (f x : Nat), x < 2 ^ f → f ≤ 64 → Lib.bitLen x = bl x := by
  intro f
  induction f with
  | zero => intro x h _; obtain rfl : x = 0 := by simpa using h
            decide
  | succ f ih =>
    intro x h hf
    by_cases h0 : x = 0
    · subst h0; decide
    · have hx : x < 2 ^ 64 := Nat.lt_of_lt_of_le h (Nat.pow_le_pow_right (by decide) hf)
      rw [Lib.bitLen_half x h0 hx, bl_half h0, ih (x / 2) (by rw [Nat.pow_succ] at h; omega) (by omega)]

/-- the bits of limbs: those of the last, and all of the others -/
theorem bl_sm (wd : Nat) {f : Nat → Nat} {n : Nat} (lf : Lt (2 ^ wd) f (n + 1)) (h : f n ≠ 0) : bl (sm (2 ^ wd) f (n + 1)) = wd * n + bl (f n) := by
  have h1 := sm_lt (lf.mono (by omega : n ≤ n + 1))
  obtain ⟨h3, h4⟩ := bl_ge h
  have h5 : f n + 1 ≤ 2 ^ bl (f n) := bl_lt (f n)
  have e : (2 ^ wd) ^ n = 2 ^ (wd * n) := by rw [Nat.pow_mul]
  have er : sm (2 ^ wd) f (n + 1) = sm (2 ^ wd) f n + f n * (2 ^ wd) ^ n := rfl
  rw [e] at h1 er
  rw [er]
  refine bl_uniq ?_ (fun _ => ?_)
  · have h6 : (f n + 1) * 2 ^ (wd * n) ≤ 2 ^ bl (f n) * 2 ^ (wd * n) := Nat.mul_le_mul_right _ h5
    rw [Nat.add_mul] at h6
    rw [Nat.pow_add, Nat.mul_comm (2 ^ (wd * n))]
    omega
  · have e2 : wd * n + bl (f n) - 1 = bl (f n) - 1 + wd * n := by omega
    have h6 : 2 ^ (bl (f n) - 1) * 2 ^ (wd * n) ≤ f n * 2 ^ (wd * n) := Nat.mul_le_mul_right _ h3
    rw [e2, Nat.pow_add]
    omega
end Go.Proofs.YtnikoojgoiobjaaDoor.nn
