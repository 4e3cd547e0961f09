/- Plain facts on shifts of limbs of wd bits, and on how many bits a number has. No program is named here. -/
import Derived.Laws.BitsAllLaws
import Derived.Test.YtnikoojgoiobjaaDoorNum
namespace Go.Proofs.YtnikoojgoiobjaaDoor.nn

theorem pow_split (wd r : Nat) (h : r ≤ wd) : 2 ^ wd = 2 ^ (wd - r) * 2 ^ r := by rw [← Nat.pow_add]; congr 1; omega

/-- a limb shifted up: what stays in it, and what goes into the next -/
theorem shl_parts (wd r x y : Nat) (hr : r ≤ wd) (hx : x < 2 ^ wd) (hy : y < 2 ^ r) :
    y ||| (x * 2 ^ r % 2 ^ wd) = y + x * 2 ^ r % 2 ^ wd ∧ y + x * 2 ^ r % 2 ^ wd < 2 ^ wd ∧ x / 2 ^ (wd - r) < 2 ^ r ∧ x * 2 ^ r = x * 2 ^ r % 2 ^ wd + x / 2 ^ (wd - r) * 2 ^ wd := by
  have hp := pow_split wd r hr
  have hr0 := Nat.two_pow_pos r
  have hd0 := Nat.two_pow_pos (wd - r)
  have e1 : x * 2 ^ r % 2 ^ wd = x % 2 ^ (wd - r) * 2 ^ r := by rw [hp, Nat.mul_mod_mul_right]
  have e2 : x % 2 ^ (wd - r) + 1 ≤ 2 ^ (wd - r) := Nat.mod_lt _ hd0
  have e3 : (x % 2 ^ (wd - r) + 1) * 2 ^ r ≤ 2 ^ (wd - r) * 2 ^ r := Nat.mul_le_mul_right _ e2
  rw [Nat.add_mul] at e3
  refine ⟨?_, ?_, ?_, ?_⟩
  · rw [Nat.or_comm, e1, nat_join r _ _ (Nat.mul_mod_left _ _) hy, Nat.add_comm]
  · rw [e1, hp]; omega
  · exact Nat.div_lt_of_lt_mul (by rw [← hp]; exact hx)
  · rw [e1, hp]
    have h := Nat.div_add_mod x (2 ^ (wd - r))
    have h2 : (2 ^ (wd - r) * (x / 2 ^ (wd - r)) + x % 2 ^ (wd - r)) * 2 ^ r = x * 2 ^ r := by rw [h]
    rw [Nat.add_mul] at h2
    have h3 : x / 2 ^ (wd - r) * (2 ^ (wd - r) * 2 ^ r) = 2 ^ (wd - r) * (x / 2 ^ (wd - r)) * 2 ^ r := by rw [← Nat.mul_assoc, Nat.mul_comm (x / 2 ^ (wd - r))]
    omega

/-- one limb more is shifted up -/
theorem up_val (wd : Nat) {f f' : Nat → Nat} {q r i lo hi X : Nat} (hv : sm (2 ^ wd) f' (q + i + 1) = sm (2 ^ wd) f i * 2 ^ (wd * q + r)) (hlo : lo = f' (q + i) + X) (hX : f i * 2 ^ r = X + hi * 2 ^ wd) :
    sm (2 ^ wd) (upd (upd f' (q + i) lo) (q + i + 1) hi) (q + (i + 1) + 1) = sm (2 ^ wd) f (i + 1) * 2 ^ (wd * q + r) := by
  have e0 : q + (i + 1) + 1 = (q + i + 1) + 1 := by omega
  rw [e0, sm_snoc]
  have e1 := sm_upd (2 ^ wd) f' (n := q + i + 1) (k := q + i) lo (by omega)
  have er : sm (2 ^ wd) f (i + 1) * 2 ^ (wd * q + r) = sm (2 ^ wd) f i * 2 ^ (wd * q + r) + f i * (2 ^ wd) ^ i * 2 ^ (wd * q + r) := by rw [sm, Nat.add_mul]
  rw [er]
  have e2 : f i * (2 ^ wd) ^ i * 2 ^ (wd * q + r) = (X + hi * 2 ^ wd) * (2 ^ wd) ^ (q + i) := by
    rw [← hX, Nat.pow_add 2 (wd * q) r, Nat.pow_mul, Nat.pow_add (2 ^ wd) q i]
    ac_rfl
  have e3 : hi * (2 ^ wd) ^ (q + i + 1) = hi * 2 ^ wd * (2 ^ wd) ^ (q + i) := by
    rw [Nat.pow_succ (2 ^ wd) (q + i), Nat.mul_assoc, Nat.mul_comm ((2 ^ wd) ^ (q + i))]
  rw [e2, e3, Nat.add_mul]
  rw [hlo, Nat.add_mul] at e1
  rw [hv] at e1
  rw [hlo]
  omega

/-- a limb shifted down, with what comes from the next -/
theorem shr_parts (wd r x y : Nat) (hr : r ≤ wd) (hx : x < 2 ^ wd) :
    (x / 2 ^ r) ||| (y * 2 ^ (wd - r) % 2 ^ wd) = x / 2 ^ r + y % 2 ^ r * 2 ^ (wd - r) ∧ x / 2 ^ r + y % 2 ^ r * 2 ^ (wd - r) < 2 ^ wd ∧ (x / 2 ^ r + y % 2 ^ r * 2 ^ (wd - r)) * 2 ^ r + x % 2 ^ r = x + y % 2 ^ r * 2 ^ wd := by
  have hp := pow_split wd r hr
  have hr0 := Nat.two_pow_pos r
  have hd0 := Nat.two_pow_pos (wd - r)
  have e1 : y * 2 ^ (wd - r) % 2 ^ wd = y % 2 ^ r * 2 ^ (wd - r) := by rw [hp, Nat.mul_comm (2 ^ (wd - r)) (2 ^ r), Nat.mul_mod_mul_right]
  have e2 : x / 2 ^ r < 2 ^ (wd - r) := Nat.div_lt_of_lt_mul (by rw [Nat.mul_comm, ← hp]; exact hx)
  have e3 : y % 2 ^ r + 1 ≤ 2 ^ r := Nat.mod_lt _ hr0
  have e4 : (y % 2 ^ r + 1) * 2 ^ (wd - r) ≤ 2 ^ r * 2 ^ (wd - r) := Nat.mul_le_mul_right _ e3
  rw [Nat.add_mul, Nat.mul_comm (2 ^ r) (2 ^ (wd - r)), ← hp] at e4
  refine ⟨?_, by omega, ?_⟩
  · rw [e1, Nat.or_comm, nat_join (wd - r) _ _ (Nat.mul_mod_left _ _) e2, Nat.add_comm]
  · have h := Nat.div_add_mod x (2 ^ r)
    have h2 : y % 2 ^ r * 2 ^ (wd - r) * 2 ^ r = y % 2 ^ r * 2 ^ wd := by rw [Nat.mul_assoc, ← hp]
    rw [Nat.add_mul, h2, Nat.mul_comm (x / 2 ^ r)]
    omega

/-- one limb more is shifted down -/
theorem down_val (wd : Nat) {F f' : Nat → Nat} {r i v : Nat} (hv : sm (2 ^ wd) f' i * 2 ^ r + F 0 % 2 ^ r = sm (2 ^ wd) F i + F i % 2 ^ r * (2 ^ wd) ^ i) (hx : v * 2 ^ r + F i % 2 ^ r = F i + F (i + 1) % 2 ^ r * 2 ^ wd) :
    sm (2 ^ wd) (upd f' i v) (i + 1) * 2 ^ r + F 0 % 2 ^ r = sm (2 ^ wd) F (i + 1) + F (i + 1) % 2 ^ r * (2 ^ wd) ^ (i + 1) := by
  rw [sm_snoc]
  have er : sm (2 ^ wd) F (i + 1) = sm (2 ^ wd) F i + F i * (2 ^ wd) ^ i := rfl
  rw [er, Nat.pow_succ (2 ^ wd) i, Nat.add_mul]
  have h1 := congrArg (· * (2 ^ wd) ^ i) hx
  simp only [Nat.add_mul] at h1
  have h2 : v * (2 ^ wd) ^ i * 2 ^ r = v * 2 ^ r * (2 ^ wd) ^ i := by ac_rfl
  have h3 : F (i + 1) % 2 ^ r * ((2 ^ wd) ^ i * 2 ^ wd) = F (i + 1) % 2 ^ r * 2 ^ wd * (2 ^ wd) ^ i := by ac_rfl
  rw [h2, h3]
  omega

/-- the quotient by a power of two, whole limbs first -/
theorem down_end (wd : Nat) {f F f' : Nat → Nat} {q r L : Nat} (lf : Lt (2 ^ wd) f (q + L)) (hF : ∀ i, i < L → F i = f (q + i)) (h0 : F L = 0) (hv : sm (2 ^ wd) f' L * 2 ^ r + F 0 % 2 ^ r = sm (2 ^ wd) F L + F L % 2 ^ r * (2 ^ wd) ^ L) :
    sm (2 ^ wd) f' L = sm (2 ^ wd) f (q + L) / 2 ^ (wd * q + r) := by
  rw [h0] at hv
  simp only [Nat.zero_mod, Nat.zero_mul, Nat.add_zero] at hv
  have hr0 := Nat.two_pow_pos r
  have h1 : sm (2 ^ wd) F L / 2 ^ r = sm (2 ^ wd) f' L := by
    rw [← hv, Nat.add_comm, Nat.add_mul_div_right _ _ hr0, Nat.div_eq_of_lt (Nat.mod_lt _ hr0), Nat.zero_add]
  have h2 : sm (2 ^ wd) (fun i => f (q + i)) L = sm (2 ^ wd) F L := sm_congr _ fun i hi => (hF i hi).symm
  have hq := sm_lt (lf.mono (by omega : q ≤ q + L))
  rw [sm_split, h2, Nat.pow_add, Nat.pow_mul, ← Nat.div_div_eq_div_mul, Nat.add_mul_div_right _ _ (Nat.pow_pos (Nat.two_pow_pos wd)), Nat.div_eq_of_lt hq, Nat.zero_add, h1]

/-- a power of two beyond the number -/
theorem down_none (wd : Nat) {f : Nat → Nat} {q r n : Nat} (lf : Lt (2 ^ wd) f n) (h : n ≤ q) : sm (2 ^ wd) f n / 2 ^ (wd * q + r) = 0 := by
  apply Nat.div_eq_of_lt
  have h1 := sm_lt lf
  have h2 : (2 ^ wd) ^ n ≤ 2 ^ (wd * q + r) := by
    rw [← Nat.pow_mul]
    exact Nat.pow_le_pow_right (by decide) (Nat.le_trans (Nat.mul_le_mul_left wd h) (Nat.le_add_right _ _))
  omega
end Go.Proofs.YtnikoojgoiobjaaDoor.nn
