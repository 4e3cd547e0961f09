/- Plain facts on a long division by the highest limbs. No program is named here. -/
import Derived.Test.YtfdgpfkjpjhmjaaDivNum
import Derived.Test.YtfdgpfkjpjhmjaaBitsNum
namespace Go.Proofs.Ytfdgpfkjpjhmjaa.nn

theorem sm_above {B : Nat} {f : Nat → Nat} {k n : Nat} (h : ∀ j, k ≤ j → j < n → f j = 0) (hk : k ≤ n) : sm B f n = sm B f k := by
  obtain ⟨m, rfl⟩ : ∃ m, n = k + m := ⟨n - k, by omega⟩
  rw [sm_split, sm_congr B (f := fun i => f (k + i)) (g := fun _ => 0) (fun i hi => h (k + i) (by omega) (by omega))]
  have : sm B (fun _ => 0) m = 0 := by
    clear h hk
    induction m with
    | zero => rfl
    | succ m ih => rw [sm, ih]; simp
  rw [this]
  simp

theorem sm_small {B : Nat} {f : Nat → Nat} {n : Nat} (h : sm B f (n + 1) < B ^ n) : f n = 0 := by
  rcases Nat.eq_zero_or_pos (f n) with h0 | h0
  · exact h0
  · have := sm_ge (B := B) (f := f) (n := n) (by omega); omega

theorem sm_first (B : Nat) (f : Nat → Nat) (i n : Nat) : sm B (fun j => f (i + j)) (n + 1) = f i + sm B (fun j => f (i + 1 + j)) n * B := by
  rw [Nat.add_comm n 1, sm_split]
  have e1 : sm B (fun j => f (i + j)) 1 = f i := by simp [sm]
  rw [e1, Nat.pow_one]
  congr 3
  funext j
  rw [← Nat.add_assoc]

/-- the stretch from i on, of n limbs, replaced -/
def put (f : Nat → Nat) (i n : Nat) (f1 : Nat → Nat) : Nat → Nat := fun j => if i ≤ j ∧ j < i + n then f1 (j - i) else f j
theorem put_in (f : Nat → Nat) {i n j : Nat} (f1 : Nat → Nat) (h : j < n) : put f i n f1 (i + j) = f1 j := by
  simp only [put]
  rw [if_pos (by omega), Nat.add_sub_cancel_left]
theorem put_out (f : Nat → Nat) {i n j : Nat} (f1 : Nat → Nat) (h : j < i ∨ i + n ≤ j) : put f i n f1 j = f j := by
  simp only [put]
  rw [if_neg (by omega)]
theorem Lt.put {B : Nat} {f f1 : Nat → Nat} {i n N : Nat} (h : Lt B f N) (h1 : Lt B f1 n) : Lt B (put f i n f1) N := fun j hj => by
  by_cases c : i ≤ j ∧ j < i + n
  · obtain ⟨m, rfl⟩ : ∃ m, j = i + m := ⟨j - i, by omega⟩
    rw [put_in f f1 (by omega)]
    exact h1 m (by omega)
  · rw [put_out f f1 (by omega)]
    exact h j hj

/-- what holds of the numbers when the limbs from i on of the quotient are there: fr the rest (N limbs), fq the quotient (Q limbs) -/
structure Long (B S D n Q : Nat) (fr fq : Nat → Nat) (i : Nat) : Prop where
  hr : Lt B fr (Q + n)
  hq : Lt B fq Q
  zr : ∀ j, i + n ≤ j → j < Q + n → fr j = 0
  zq : ∀ j, j < i → fq j = 0
  val : sm B fr (Q + n) + D * sm B fq Q = S
  lt : sm B (fun j => fr (i + j)) n < D

theorem Long.first {B S D n Q : Nat} {fr fq : Nat → Nat} {i : Nat} (H : Long B S D n Q fr fq (i + 1)) (hi : i < Q) : sm B (fun j => fr (i + j)) (n + 1) < D * B := by
  rw [sm_first]
  have h1 := H.hr i (by omega)
  have h2 : (sm B (fun j => fr (i + 1 + j)) n + 1) * B ≤ D * B := Nat.mul_le_mul_right _ H.lt
  rw [Nat.add_mul] at h2
  omega

theorem Long.step {B S D n Q : Nat} {fr fq : Nat → Nat} {i : Nat} (H : Long B S D n Q fr fq (i + 1)) (hi : i < Q) {f1 : Nat → Nat} (l1 : Lt B f1 (n + 1)) (hD : D < B ^ n) (hD0 : 0 < D)
    (h1 : sm B f1 (n + 1) = sm B (fun j => fr (i + j)) (n + 1) % D) : Long B S D n Q (put fr i (n + 1) f1) (upd fq i (sm B (fun j => fr (i + j)) (n + 1) / D)) i := by
  have hq := (Nat.div_lt_iff_lt_mul hD0).2 (by rw [Nat.mul_comm]; exact H.first hi)
  have hm := Nat.mod_lt (sm B (fun j => fr (i + j)) (n + 1)) hD0
  have hz := H.zr
  have e1 : sm B fr (Q + n) = sm B fr (i + (n + 1)) := sm_above (fun j a b => hz j (by omega) b) (by omega)
  have e2 : sm B (put fr i (n + 1) f1) (Q + n) = sm B (put fr i (n + 1) f1) (i + (n + 1)) := sm_above (fun j a b => by rw [put_out fr f1 (by omega)]; exact hz j (by omega) b) (by omega)
  have e3 : sm B (fun j => put fr i (n + 1) f1 (i + j)) (n + 1) = sm B f1 (n + 1) := sm_congr B fun j hj => put_in fr f1 hj
  have e4 : sm B (put fr i (n + 1) f1) i = sm B fr i := sm_congr B fun j hj => put_out fr f1 (by omega)
  have hf1 : f1 n = 0 := sm_small (by rw [h1]; omega)
  have hv := H.val
  rw [e1, sm_split] at hv
  rw [sm_split B (put fr i (n + 1) f1) i (n + 1), e3, e4, h1] at e2
  have e5 := sm_upd B fq (sm B (fun j => fr (i + j)) (n + 1) / D) hi
  rw [H.zq i (by omega)] at e5
  have e6 := Nat.div_add_mod (sm B (fun j => fr (i + j)) (n + 1)) D
  have e7 : sm B (fun j => put fr i (n + 1) f1 (i + j)) n = sm B f1 (n + 1) := by
    rw [sm_congr B (g := f1) (fun j hj => put_in fr f1 (by omega)), sm, hf1]; simp
  refine ⟨H.hr.put l1, H.hq.upd hq, fun j a b => ?_, fun j a => ?_, ?_, ?_⟩
  · by_cases c : j = i + n
    · subst c
      rw [put_in fr f1 (by omega)]; exact hf1
    · rw [put_out fr f1 (by omega)]; exact hz j (by omega) b
  · rw [upd_ne fq (by omega)]; exact H.zq j (by omega)
  · rw [e2]
    generalize sm B (fun j => fr (i + j)) (n + 1) = A at *
    generalize A / D = q at *
    generalize A % D = r at *
    generalize sm B (upd fq i q) Q = Z at *
    have c1 := congrArg (D * ·) e5
    simp only [Nat.mul_add, Nat.zero_mul, Nat.add_zero] at c1
    have c2 := congrArg (· * B ^ i) e6
    simp only [Nat.add_mul] at c2
    rw [c1, ← Nat.mul_assoc]
    omega
  · rw [e7, h1]; exact hm

theorem Long.last {B S D n Q : Nat} {fr fq : Nat → Nat} (H : Long B S D n Q fr fq 0) : sm B fq Q = S / D ∧ sm B fr (Q + n) = S % D := by
  have hl := H.lt
  simp only [Nat.zero_add] at hl
  have e1 : sm B fr (Q + n) = sm B fr n := sm_above (fun j a b => H.zr j (by omega) b) (by omega)
  have hv := H.val
  rw [e1] at hv ⊢
  have h0 : 0 < D := by omega
  rw [← hv, Nat.add_mul_mod_self_left, Nat.mod_eq_of_lt hl, Nat.add_mul_div_left _ _ h0, Nat.div_eq_of_lt hl]
  exact ⟨by omega, rfl⟩

/-- at the start: the highest limbs are below the divisor -/
theorem Long.start {B A s D n Q : Nat} {fr fq : Nat → Nat} (hB : 0 < B) (hr : Lt B fr (Q + n)) (hz : ∀ j, j < Q → fq j = 0) (hv : sm B fr (Q + n) = A * 2 ^ s) (hA : A < B ^ (Q + n - 1)) (hn : 0 < n) (hD : 2 ^ s * B ^ (n - 1) ≤ D) : Long B (A * 2 ^ s) D n Q fr fq Q := by
  have hq0 : sm B fq Q = 0 := by
    rw [sm_above (k := 0) (fun j _ b => hz j b) (Nat.zero_le _)]; rfl
  refine ⟨hr, fun j hj => by rw [hz j hj]; exact hB, fun j a b => absurd b (by omega), hz, by rw [hv, hq0]; simp, ?_⟩
  obtain ⟨m, rfl⟩ : ∃ m, n = m + 1 := ⟨n - 1, by omega⟩
  rw [show Q + (m + 1) - 1 = Q + m by omega, Nat.pow_add] at hA
  rw [Nat.add_sub_cancel] at hD
  rw [sm_split] at hv
  have h1 : A * 2 ^ s < B ^ Q * B ^ m * 2 ^ s := Nat.mul_lt_mul_of_pos_right hA (Nat.two_pow_pos s)
  have e : B ^ Q * B ^ m * 2 ^ s = 2 ^ s * B ^ m * B ^ Q := by ac_rfl
  have h2 : sm B (fun i => fr (Q + i)) (m + 1) * B ^ Q < 2 ^ s * B ^ m * B ^ Q := by rw [← e]; omega
  exact Nat.lt_of_lt_of_le (Nat.lt_of_mul_lt_mul_right h2) hD

/-- the divisor shifted up: its highest bit is set, and it is no longer -/
theorem up_full {wd s : Nat} {h : Nat → Nat} {m : Nat} (lh : Lt (2 ^ wd) h (m + 1)) (h0 : h m ≠ 0) (hs : bl (h m) + s = wd) :
    2 ^ (wd - 1) * (2 ^ wd) ^ m ≤ sm (2 ^ wd) h (m + 1) * 2 ^ s ∧ sm (2 ^ wd) h (m + 1) * 2 ^ s < (2 ^ wd) ^ (m + 1) := by
  obtain ⟨h3, h4⟩ := bl_ge h0
  have h5 : h m + 1 ≤ 2 ^ bl (h m) := bl_lt (h m)
  have hl := sm_lt (lh.mono (by omega : m ≤ m + 1))
  have e : sm (2 ^ wd) h (m + 1) = sm (2 ^ wd) h m + h m * (2 ^ wd) ^ m := rfl
  rw [e]
  constructor
  · have e1 : 2 ^ (wd - 1) = 2 ^ (bl (h m) - 1) * 2 ^ s := by rw [← Nat.pow_add]; congr 1; omega
    have h6 : 2 ^ (bl (h m) - 1) * 2 ^ s * (2 ^ wd) ^ m ≤ h m * 2 ^ s * (2 ^ wd) ^ m := Nat.mul_le_mul_right _ (Nat.mul_le_mul_right _ h3)
    rw [e1, Nat.add_mul, Nat.mul_right_comm (h m)]
    omega
  · have h6 : (h m + 1) * (2 ^ wd) ^ m * 2 ^ s ≤ 2 ^ bl (h m) * (2 ^ wd) ^ m * 2 ^ s := Nat.mul_le_mul_right _ (Nat.mul_le_mul_right _ h5)
    have h7 : (sm (2 ^ wd) h m + h m * (2 ^ wd) ^ m) * 2 ^ s < (h m + 1) * (2 ^ wd) ^ m * 2 ^ s := Nat.mul_lt_mul_of_pos_right (by rw [Nat.add_mul]; omega) (Nat.two_pow_pos s)
    have e2 : 2 ^ bl (h m) * (2 ^ wd) ^ m * 2 ^ s = (2 ^ wd) ^ (m + 1) := by
      rw [Nat.mul_right_comm, ← Nat.pow_add, hs, Nat.pow_succ, Nat.mul_comm]
    omega

/-- the length of a trimmed number from its value -/
theorem len_of {B : Nat} (hB : 0 < B) {f : Nat → Nat} {n m : Nat} (lf : Lt B f n) (tf : Trm f n) (h1 : B ^ m ≤ sm B f n) (h2 : sm B f n < B ^ (m + 1)) : n = m + 1 := by
  rcases Nat.lt_trichotomy n (m + 1) with h | h | h
  · have a := sm_lt lf
    have b : B ^ n ≤ B ^ m := Nat.pow_le_pow_right hB (by omega)
    omega
  · exact h
  · obtain ⟨k, rfl⟩ : ∃ k, n = k + 1 := ⟨n - 1, by omega⟩
    rcases tf with tf | tf
    · omega
    · have a := sm_ge (B := B) (f := f) (n := k) (by simpa using tf)
      have b : B ^ (m + 1) ≤ B ^ k := Nat.pow_le_pow_right hB (by omega)
      omega

/-- the highest limb from the value -/
theorem top_of {B : Nat} {f : Nat → Nat} {m k : Nat} (lf : Lt B f (m + 1)) (h1 : k * B ^ m ≤ sm B f (m + 1)) : k ≤ f m := by
  have a := sm_lt (lf.mono (by omega : m ≤ m + 1))
  have e : sm B f (m + 1) = sm B f m + f m * B ^ m := rfl
  have h2 : k * B ^ m < (f m + 1) * B ^ m := by rw [Nat.add_mul]; omega
  exact Nat.le_of_lt_succ (Nat.lt_of_mul_lt_mul_right h2)

/-- trimmed from the value -/
theorem trm_of {B : Nat} {f : Nat → Nat} {m : Nat} (lf : Lt B f (m + 1)) (h1 : B ^ m ≤ sm B f (m + 1)) : Trm f (m + 1) := by
  right
  have := top_of (k := 1) lf (by omega)
  rw [Nat.add_sub_cancel]
  omega

/-- quotient and rest of the numbers themselves -/
theorem unscale {A B s q r : Nat} (hq : q = A * 2 ^ s / (B * 2 ^ s)) (hr : r = A * 2 ^ s % (B * 2 ^ s)) : q = A / B ∧ r / 2 ^ s = A % B := by
  subst hq
  subst hr
  exact ⟨scaled_div A B s, (scaled rfl).symm⟩
end Go.Proofs.Ytfdgpfkjpjhmjaa.nn
