/- Plain facts on numbers that are written in limbs: no program is named here. A number is a function f from places to limbs and a length n; sm B f n is its value at base B; tr f n its length without the zero limbs at the end. -/
import Derived.Below
namespace Go.Proofs.Ythkpjcaphjboeaa.nn

/-- the value of n limbs of f at base B, the lowest first -/
def sm (B : Nat) (f : Nat → Nat) : Nat → Nat
  | 0 => 0
  | n + 1 => sm B f n + f n * B ^ n

/-- the length without zero limbs at the end -/
def tr (f : Nat → Nat) : Nat → Nat
  | 0 => 0
  | n + 1 => if f n = 0 then tr f n else n + 1

/-- all limbs below B -/
def Lt (B : Nat) (f : Nat → Nat) (n : Nat) : Prop := ∀ i, i < n → f i < B

/-- trimmed: no zero limb at the end -/
def Trm (f : Nat → Nat) (n : Nat) : Prop := n = 0 ∨ f (n - 1) ≠ 0

/-- f with x at place k -/
def upd (f : Nat → Nat) (k x : Nat) : Nat → Nat := fun i => if i = k then x else f i

theorem upd_at (f : Nat → Nat) (k x : Nat) : upd f k x k = x := by simp [upd]
theorem upd_ne (f : Nat → Nat) {k x i : Nat} (h : i ≠ k) : upd f k x i = f i := by simp [upd, h]

theorem tr_le (f : Nat → Nat) (n : Nat) : tr f n ≤ n := by
  induction n with
  | zero => simp [tr]
  | succ n ih => rw [tr]; split <;> omega

theorem tr_zero (f : Nat → Nat) {n : Nat} (h : f n = 0) : tr f (n + 1) = tr f n := by rw [tr, if_pos h]
theorem tr_full (f : Nat → Nat) {n : Nat} (h : f n ≠ 0) : tr f (n + 1) = n + 1 := by rw [tr, if_neg h]

theorem tr_trm (f : Nat → Nat) (n : Nat) : Trm f (tr f n) := by
  induction n with
  | zero => left; rfl
  | succ n ih =>
    by_cases h : f n = 0
    · rw [tr_zero f h]; exact ih
    · rw [tr_full f h]; right; simpa using h

theorem tr_of_trm (f : Nat → Nat) (n : Nat) (h : Trm f n) : tr f n = n := by
  cases n with
  | zero => rfl
  | succ n =>
    rcases h with h | h
    · omega
    · exact tr_full f (by simpa using h)

theorem sm_tr (B : Nat) (f : Nat → Nat) (n : Nat) : sm B f (tr f n) = sm B f n := by
  induction n with
  | zero => rfl
  | succ n ih =>
    by_cases h : f n = 0
    · rw [tr_zero f h, ih, sm, h]; simp
    · rw [tr_full f h]

theorem sm_congr (B : Nat) {f g : Nat → Nat} {n : Nat} (h : ∀ i, i < n → f i = g i) : sm B f n = sm B g n := by
  induction n with
  | zero => rfl
  | succ n ih => rw [sm, sm, ih (fun i hi => h i (by omega)), h n (by omega)]

theorem tr_congr {f g : Nat → Nat} {n : Nat} (h : ∀ i, i < n → f i = g i) : tr f n = tr g n := by
  induction n with
  | zero => rfl
  | succ n ih => rw [tr, tr, ih (fun i hi => h i (by omega)), h n (by omega)]

theorem sm_lt {B : Nat} {f : Nat → Nat} {n : Nat} (h : Lt B f n) : sm B f n < B ^ n := by
  induction n with
  | zero => simp [sm]
  | succ n ih =>
    have h1 := ih (fun i hi => h i (by omega))
    have h2 : f n + 1 ≤ B := h n (by omega)
    have h3 : (f n + 1) * B ^ n ≤ B * B ^ n := Nat.mul_le_mul_right _ h2
    rw [sm, Nat.pow_succ, Nat.mul_comm (B ^ n) B]
    rw [Nat.add_mul] at h3
    omega

theorem Lt.mono {B : Nat} {f : Nat → Nat} {n m : Nat} (h : Lt B f n) (hm : m ≤ n) : Lt B f m := fun i hi => h i (by omega)

theorem Lt.upd {B : Nat} {f : Nat → Nat} {n k x : Nat} (h : Lt B f n) (hx : x < B) : Lt B (upd f k x) n := fun i hi => by
  by_cases e : i = k
  · subst e; rw [upd_at]; exact hx
  · rw [upd_ne f e]; exact h i hi

theorem Lt.snoc {B : Nat} {f : Nat → Nat} {n x : Nat} (h : Lt B f n) (hx : x < B) : Lt B (nn.upd f n x) (n + 1) := fun i hi => by
  by_cases e : i = n
  · subst e; rw [upd_at]; exact hx
  · rw [upd_ne f e]; exact h i (by omega)

theorem sm_upd_out (B : Nat) (f : Nat → Nat) {n k : Nat} (x : Nat) (h : n ≤ k) : sm B (upd f k x) n = sm B f n :=
  sm_congr B fun i hi => upd_ne f (by omega)

theorem sm_snoc (B : Nat) (f : Nat → Nat) (n x : Nat) : sm B (upd f n x) (n + 1) = sm B f n + x * B ^ n := by
  rw [sm, sm_upd_out B f x (Nat.le_refl n), upd_at]

/-- the value from place k on -/
theorem sm_split (B : Nat) (f : Nat → Nat) (k m : Nat) : sm B f (k + m) = sm B f k + sm B (fun i => f (k + i)) m * B ^ k := by
  induction m with
  | zero => simp [sm]
  | succ m ih =>
    rw [← Nat.add_assoc, sm, ih, sm, Nat.add_mul, Nat.pow_add, Nat.mul_assoc, Nat.mul_comm (B ^ m) (B ^ k)]
    omega

theorem sm_upd (B : Nat) (f : Nat → Nat) {n k : Nat} (x : Nat) (h : k < n) : sm B (upd f k x) n + f k * B ^ k = sm B f n + x * B ^ k := by
  induction n with
  | zero => omega
  | succ n ih =>
    by_cases e : k = n
    · subst e
      rw [sm, sm_upd_out B f x (Nat.le_refl k), upd_at, sm]
      omega
    · rw [sm, sm, upd_ne f (by omega : n ≠ k)]
      have := ih (by omega)
      omega

theorem sm_ge {B : Nat} {f : Nat → Nat} {n : Nat} (h : f n ≠ 0) : B ^ n ≤ sm B f (n + 1) := by
  have : 1 * B ^ n ≤ f n * B ^ n := Nat.mul_le_mul_right _ (by omega)
  rw [sm]
  omega

theorem sm_pos {B : Nat} (hB : 0 < B) {f : Nat → Nat} {n : Nat} (h : Trm f n) (hn : n ≠ 0) : 0 < sm B f n := by
  cases n with
  | zero => exact absurd rfl hn
  | succ n =>
    rcases h with h | h
    · omega
    · have := sm_ge (B := B) (f := f) (n := n) (by simpa using h)
      have := Nat.pow_pos (n := n) hB
      omega

/-- a longer trimmed number is greater -/
theorem sm_len {B : Nat} (hB : 0 < B) {f g : Nat → Nat} {n m : Nat} (hf : Lt B f n) (hg : Trm g m) (h : n < m) : sm B f n < sm B g m := by
  cases m with
  | zero => omega
  | succ m =>
    rcases hg with hg | hg
    · omega
    · have h1 := sm_ge (B := B) (f := g) (n := m) (by simpa using hg)
      have h2 := sm_lt hf
      have h3 : B ^ n ≤ B ^ m := Nat.pow_le_pow_right hB (by omega)
      omega

/-- of numbers of one length whose limbs from k + 1 on are the same, the limb at k decides -/
theorem sm_top {B : Nat} {f g : Nat → Nat} {n k : Nat} (hf : Lt B f n) (hk : k < n) (hs : ∀ i, k < i → i < n → f i = g i) (h : f k < g k) : sm B f n < sm B g n := by
  induction n with
  | zero => omega
  | succ n ih =>
    by_cases e : k = n
    · subst e
      have h1 := sm_lt (hf.mono (by omega : k ≤ k + 1))
      have h2 : (f k + 1) * B ^ k ≤ g k * B ^ k := Nat.mul_le_mul_right _ h
      rw [Nat.add_mul] at h2
      rw [sm, sm]
      omega
    · have := ih (hf.mono (by omega)) (by omega) (fun i h1 h2 => hs i h1 (by omega))
      rw [sm, sm, hs n (by omega) (by omega)]
      omega

theorem sm_inj_len {B : Nat} (hB : 0 < B) {f g : Nat → Nat} {n m : Nat} (hf : Lt B f n) (hg : Lt B g m) (tf : Trm f n) (tg : Trm g m) (h : sm B f n = sm B g m) : n = m := by
  rcases Nat.lt_trichotomy n m with h1 | h1 | h1
  · have := sm_len hB hf tg h1; omega
  · exact h1
  · have := sm_len hB hg tf h1; omega

theorem sm_inj {B : Nat} (hB : 0 < B) {f g : Nat → Nat} {n : Nat} (hf : Lt B f n) (hg : Lt B g n) (h : sm B f n = sm B g n) : ∀ i, i < n → f i = g i := by
  induction n with
  | zero => intro i hi; omega
  | succ n ih =>
    have h1 := sm_lt (hf.mono (by omega : n ≤ n + 1))
    have h2 := sm_lt (hg.mono (by omega : n ≤ n + 1))
    rw [sm, sm] at h
    have hp := Nat.pow_pos (n := n) hB
    have e : f n = g n := by
      have d1 : (sm B f n + f n * B ^ n) / B ^ n = f n := by rw [Nat.add_mul_div_right _ _ hp, Nat.div_eq_of_lt h1]; omega
      have d2 : (sm B g n + g n * B ^ n) / B ^ n = g n := by rw [Nat.add_mul_div_right _ _ hp, Nat.div_eq_of_lt h2]; omega
      rw [← d1, ← d2, h]
    have e2 : sm B f n = sm B g n := by rw [e] at h; omega
    intro i hi
    by_cases ei : i = n
    · subst ei; exact e
    · exact ih (hf.mono (by omega)) (hg.mono (by omega)) e2 i (by omega)

end Go.Proofs.Ythkpjcaphjboeaa.nn
