/- Joined texts, what is wanted of them: Num, ShiftNum, DivNum, BitsNum, DivFacts, Mem, Append, Clone, Write, AddRel, AddTimes, AddInto, Plus, Trim, Long, Add, Awake, Cmp, RefTrim, RefSum, RefAdd, RefCmp, ShiftUp, Widen, Clone64, Cmp64, Div64. -/
import Derived.Below
import Derived.Laws.BitsAllLaws
import Derived.Lib.BitFns
import Derived.Laws.OwnMore
import Derived.Deep.AppendLies
import Derived.Deep.Draws
import Derived.Maps.AppendAt
import Derived.RegionTactic
import Derived.OwnWalk
import Derived.Deep.RegionLaw
import Derived.WalkKit
import Derived.Test.YtljbnnpmnoejeaaGreatDoorProg
import Derived.WalkSpells
import Derived.Lib.Hide
import Derived.Laws.Rows
import Derived.Test.YtljbnnpmnoejeaaGreatDoorShelf
import Derived.Laws.Externs
import Derived.Deep.RegionHeld3
import Derived.Deep.QuietTactic
import Derived.BigQuiet
import Derived.Deep.RegionWith
import Derived.IntWalk
import Derived.Deep.CutBlock
import Derived.Deep.CutRange
import Derived.Deep.LoopGhost
namespace Go.Proofs.YtljbnnpmnoejeaaGreatDoor.nn

/-- the value of n limbs of f at base B, the lowest first -/
def sm (B : Nat) (f : Nat → Nat) : Nat → Nat
  | 0 => 0
  | n + 1 => sm B f n + f n * B ^ n

/-- the length without zero limbs at the end -/
def tr (f : Nat → Nat) : Nat → Nat
  | 0 => 0
  | n + 1 => if f n = 0 then tr f n else n + 1

/-- all limbs below B -/
def Lt (B : Nat) (f : Nat → Nat) (n : Nat) : Prop := ∀ i, i < n → f i < B

/-- trimmed: no zero limb at the end -/
def Trm (f : Nat → Nat) (n : Nat) : Prop := n = 0 ∨ f (n - 1) ≠ 0

/-- f with x at place k -/
def upd (f : Nat → Nat) (k x : Nat) : Nat → Nat := fun i => if i = k then x else f i

theorem upd_at (f : Nat → Nat) (k x : Nat) : upd f k x k = x := by simp [upd]
theorem upd_ne (f : Nat → Nat) {k x i : Nat} (h : i ≠ k) : upd f k x i = f i := by simp [upd, h]

theorem tr_le (f : Nat → Nat) (n : Nat) : tr f n ≤ n := by
  induction n with
  | zero => simp [tr]
  | succ n ih => rw [tr]; split <;> omega

theorem tr_zero (f : Nat → Nat) {n : Nat} (h : f n = 0) : tr f (n + 1) = tr f n := by rw [tr, if_pos h]
theorem tr_full (f : Nat → Nat) {n : Nat} (h : f n ≠ 0) : tr f (n + 1) = n + 1 := by rw [tr, if_neg h]

theorem tr_trm (f : Nat → Nat) (n : Nat) : Trm f (tr f n) := by
  induction n with
  | zero => left; rfl
  | succ n ih =>
    by_cases h : f n = 0
    · rw [tr_zero f h]; exact ih
    · rw [tr_full f h]; right; simpa using h

theorem tr_of_trm (f : Nat → Nat) (n : Nat) (h : Trm f n) : tr f n = n := by
  cases n with
  | zero => rfl
  | succ n =>
    rcases h with h | h
    · omega
    · exact tr_full f (by simpa using h)

theorem sm_tr (B : Nat) (f : Nat → Nat) (n : Nat) : sm B f (tr f n) = sm B f n := by
  induction n with
  | zero => rfl
  | succ n ih =>
    by_cases h : f n = 0
    · rw [tr_zero f h, ih, sm, h]; simp
    · rw [tr_full f h]

theorem sm_congr (B : Nat) {f g : Nat → Nat} {n : Nat} (h : ∀ i, i < n → f i = g i) : sm B f n = sm B g n := by
  induction n with
  | zero => rfl
  | succ n ih => rw [sm, sm, ih (fun i hi => h i (by omega)), h n (by omega)]

theorem sm_lt {B : Nat} {f : Nat → Nat} {n : Nat} (h : Lt B f n) : sm B f n < B ^ n := by
  induction n with
  | zero => simp [sm]
  | succ n ih =>
    have h1 := ih (fun i hi => h i (by omega))
    have h2 : f n + 1 ≤ B := h n (by omega)
    have h3 : (f n + 1) * B ^ n ≤ B * B ^ n := Nat.mul_le_mul_right _ h2
    rw [sm, Nat.pow_succ, Nat.mul_comm (B ^ n) B]
    rw [Nat.add_mul] at h3
    omega

theorem Lt.mono {B : Nat} {f : Nat → Nat} {n m : Nat} (h : Lt B f n) (hm : m ≤ n) : Lt B f m := fun i hi => h i (by omega)

theorem Lt.upd {B : Nat} {f : Nat → Nat} {n k x : Nat} (h : Lt B f n) (hx : x < B) : Lt B (upd f k x) n := fun i hi => by
  by_cases e : i = k
  · subst e; rw [upd_at]; exact hx
  · rw [upd_ne f e]; exact h i hi

theorem sm_upd_out (B : Nat) (f : Nat → Nat) {n k : Nat} (x : Nat) (h : n ≤ k) : sm B (upd f k x) n = sm B f n :=
  sm_congr B fun i hi => upd_ne f (by omega)

theorem sm_snoc (B : Nat) (f : Nat → Nat) (n x : Nat) : sm B (upd f n x) (n + 1) = sm B f n + x * B ^ n := by
  rw [sm, sm_upd_out B f x (Nat.le_refl n), upd_at]

/-- the value from place k on -/
theorem sm_split (B : Nat) (f : Nat → Nat) (k m : Nat) : sm B f (k + m) = sm B f k + sm B (fun i => f (k + i)) m * B ^ k := by
  induction m with
  | zero => simp [sm]
  | succ m ih =>
    rw [← Nat.add_assoc, sm, ih, sm, Nat.add_mul, Nat.pow_add, Nat.mul_assoc, Nat.mul_comm (B ^ m) (B ^ k)]
    omega

theorem sm_upd (B : Nat) (f : Nat → Nat) {n k : Nat} (x : Nat) (h : k < n) : sm B (upd f k x) n + f k * B ^ k = sm B f n + x * B ^ k := by
  induction n with
  | zero => omega
  | succ n ih =>
    by_cases e : k = n
    · subst e
      rw [sm, sm_upd_out B f x (Nat.le_refl k), upd_at, sm]
      omega
    · rw [sm, sm, upd_ne f (by omega : n ≠ k)]
      have := ih (by omega)
      omega

theorem sm_ge {B : Nat} {f : Nat → Nat} {n : Nat} (h : f n ≠ 0) : B ^ n ≤ sm B f (n + 1) := by
  have : 1 * B ^ n ≤ f n * B ^ n := Nat.mul_le_mul_right _ (by omega)
  rw [sm]
  omega

theorem sm_pos {B : Nat} (hB : 0 < B) {f : Nat → Nat} {n : Nat} (h : Trm f n) (hn : n ≠ 0) : 0 < sm B f n := by
  cases n with
  | zero => exact absurd rfl hn
  | succ n =>
    rcases h with h | h
    · omega
    · have := sm_ge (B := B) (f := f) (n := n) (by simpa using h)
      have := Nat.pow_pos (n := n) hB
      omega

/-- a longer trimmed number is greater -/
theorem sm_len {B : Nat} (hB : 0 < B) {f g : Nat → Nat} {n m : Nat} (hf : Lt B f n) (hg : Trm g m) (h : n < m) : sm B f n < sm B g m := by
  cases m with
  | zero => omega
  | succ m =>
    rcases hg with hg | hg
    · omega
    · have h1 := sm_ge (B := B) (f := g) (n := m) (by simpa using hg)
      have h2 := sm_lt hf
      have h3 : B ^ n ≤ B ^ m := Nat.pow_le_pow_right hB (by omega)
      omega

/-- of numbers of one length whose limbs from k + 1 on are the same, the limb at k decides -/
theorem sm_top {B : Nat} {f g : Nat → Nat} {n k : Nat} (hf : Lt B f n) (hk : k < n) (hs : ∀ i, k < i → i < n → f i = g i) (h : f k < g k) : sm B f n < sm B g n := by
  induction n with
  | zero => omega
  | succ n ih =>
    by_cases e : k = n
    · subst e
      have h1 := sm_lt (hf.mono (by omega : k ≤ k + 1))
      have h2 : (f k + 1) * B ^ k ≤ g k * B ^ k := Nat.mul_le_mul_right _ h
      rw [Nat.add_mul] at h2
      rw [sm, sm]
      omega
    · have := ih (hf.mono (by omega)) (by omega) (fun i h1 h2 => hs i h1 (by omega))
      rw [sm, sm, hs n (by omega) (by omega)]
      omega

end Go.Proofs.YtljbnnpmnoejeaaGreatDoor.nn
namespace Go.Proofs.YtljbnnpmnoejeaaGreatDoor.nn

theorem pow_split (wd r : Nat) (h : r ≤ wd) : 2 ^ wd = 2 ^ (wd - r) * 2 ^ r := by rw [← Nat.pow_add]; congr 1; omega

/-- a limb shifted up: what stays in it, and what goes into the next -/
theorem shl_parts (wd r x y : Nat) (hr : r ≤ wd) (hx : x < 2 ^ wd) (hy : y < 2 ^ r) :
    y ||| (x * 2 ^ r % 2 ^ wd) = y + x * 2 ^ r % 2 ^ wd ∧ y + x * 2 ^ r % 2 ^ wd < 2 ^ wd ∧ x / 2 ^ (wd - r) < 2 ^ r ∧ x * 2 ^ r = x * 2 ^ r % 2 ^ wd + x / 2 ^ (wd - r) * 2 ^ wd := by
  have hp := pow_split wd r hr
  have hr0 := Nat.two_pow_pos r
  have hd0 := Nat.two_pow_pos (wd - r)
  have e1 : x * 2 ^ r % 2 ^ wd = x % 2 ^ (wd - r) * 2 ^ r := by rw [hp, Nat.mul_mod_mul_right]
  have e2 : x % 2 ^ (wd - r) + 1 ≤ 2 ^ (wd - r) := Nat.mod_lt _ hd0
  have e3 : (x % 2 ^ (wd - r) + 1) * 2 ^ r ≤ 2 ^ (wd - r) * 2 ^ r := Nat.mul_le_mul_right _ e2
  rw [Nat.add_mul] at e3
  refine ⟨?_, ?_, ?_, ?_⟩
  · rw [Nat.or_comm, e1, nat_join r _ _ (Nat.mul_mod_left _ _) hy, Nat.add_comm]
  · rw [e1, hp]; omega
  · exact Nat.div_lt_of_lt_mul (by rw [← hp]; exact hx)
  · rw [e1, hp]
    have h := Nat.div_add_mod x (2 ^ (wd - r))
    have h2 : (2 ^ (wd - r) * (x / 2 ^ (wd - r)) + x % 2 ^ (wd - r)) * 2 ^ r = x * 2 ^ r := by rw [h]
    rw [Nat.add_mul] at h2
    have h3 : x / 2 ^ (wd - r) * (2 ^ (wd - r) * 2 ^ r) = 2 ^ (wd - r) * (x / 2 ^ (wd - r)) * 2 ^ r := by rw [← Nat.mul_assoc, Nat.mul_comm (x / 2 ^ (wd - r))]
    omega

/-- one limb more is shifted up -/
theorem up_val (wd : Nat) {f f' : Nat → Nat} {q r i lo hi X : Nat} (hv : sm (2 ^ wd) f' (q + i + 1) = sm (2 ^ wd) f i * 2 ^ (wd * q + r)) (hlo : lo = f' (q + i) + X) (hX : f i * 2 ^ r = X + hi * 2 ^ wd) :
    sm (2 ^ wd) (upd (upd f' (q + i) lo) (q + i + 1) hi) (q + (i + 1) + 1) = sm (2 ^ wd) f (i + 1) * 2 ^ (wd * q + r) := by
  have e0 : q + (i + 1) + 1 = (q + i + 1) + 1 := by omega
  rw [e0, sm_snoc]
  have e1 := sm_upd (2 ^ wd) f' (n := q + i + 1) (k := q + i) lo (by omega)
  have er : sm (2 ^ wd) f (i + 1) * 2 ^ (wd * q + r) = sm (2 ^ wd) f i * 2 ^ (wd * q + r) + f i * (2 ^ wd) ^ i * 2 ^ (wd * q + r) := by rw [sm, Nat.add_mul]
  rw [er]
  have e2 : f i * (2 ^ wd) ^ i * 2 ^ (wd * q + r) = (X + hi * 2 ^ wd) * (2 ^ wd) ^ (q + i) := by
    rw [← hX, Nat.pow_add 2 (wd * q) r, Nat.pow_mul, Nat.pow_add (2 ^ wd) q i]
    ac_rfl
  have e3 : hi * (2 ^ wd) ^ (q + i + 1) = hi * 2 ^ wd * (2 ^ wd) ^ (q + i) := by
    rw [Nat.pow_succ (2 ^ wd) (q + i), Nat.mul_assoc, Nat.mul_comm ((2 ^ wd) ^ (q + i))]
  rw [e2, e3, Nat.add_mul]
  rw [hlo, Nat.add_mul] at e1
  rw [hv] at e1
  rw [hlo]
  omega

/-- a limb shifted down, with what comes from the next -/
theorem shr_parts (wd r x y : Nat) (hr : r ≤ wd) (hx : x < 2 ^ wd) :
    (x / 2 ^ r) ||| (y * 2 ^ (wd - r) % 2 ^ wd) = x / 2 ^ r + y % 2 ^ r * 2 ^ (wd - r) ∧ x / 2 ^ r + y % 2 ^ r * 2 ^ (wd - r) < 2 ^ wd ∧ (x / 2 ^ r + y % 2 ^ r * 2 ^ (wd - r)) * 2 ^ r + x % 2 ^ r = x + y % 2 ^ r * 2 ^ wd := by
  have hp := pow_split wd r hr
  have hr0 := Nat.two_pow_pos r
  have hd0 := Nat.two_pow_pos (wd - r)
  have e1 : y * 2 ^ (wd - r) % 2 ^ wd = y % 2 ^ r * 2 ^ (wd - r) := by rw [hp, Nat.mul_comm (2 ^ (wd - r)) (2 ^ r), Nat.mul_mod_mul_right]
  have e2 : x / 2 ^ r < 2 ^ (wd - r) := Nat.div_lt_of_lt_mul (by rw [Nat.mul_comm, ← hp]; exact hx)
  have e3 : y % 2 ^ r + 1 ≤ 2 ^ r := Nat.mod_lt _ hr0
  have e4 : (y % 2 ^ r + 1) * 2 ^ (wd - r) ≤ 2 ^ r * 2 ^ (wd - r) := Nat.mul_le_mul_right _ e3
  rw [Nat.add_mul, Nat.mul_comm (2 ^ r) (2 ^ (wd - r)), ← hp] at e4
  refine ⟨?_, by omega, ?_⟩
  · rw [e1, Nat.or_comm, nat_join (wd - r) _ _ (Nat.mul_mod_left _ _) e2, Nat.add_comm]
  · have h := Nat.div_add_mod x (2 ^ r)
    have h2 : y % 2 ^ r * 2 ^ (wd - r) * 2 ^ r = y % 2 ^ r * 2 ^ wd := by rw [Nat.mul_assoc, ← hp]
    rw [Nat.add_mul, h2, Nat.mul_comm (x / 2 ^ r)]
    omega

/-- one limb more is shifted down -/
theorem down_val (wd : Nat) {F f' : Nat → Nat} {r i v : Nat} (hv : sm (2 ^ wd) f' i * 2 ^ r + F 0 % 2 ^ r = sm (2 ^ wd) F i + F i % 2 ^ r * (2 ^ wd) ^ i) (hx : v * 2 ^ r + F i % 2 ^ r = F i + F (i + 1) % 2 ^ r * 2 ^ wd) :
    sm (2 ^ wd) (upd f' i v) (i + 1) * 2 ^ r + F 0 % 2 ^ r = sm (2 ^ wd) F (i + 1) + F (i + 1) % 2 ^ r * (2 ^ wd) ^ (i + 1) := by
  rw [sm_snoc]
  have er : sm (2 ^ wd) F (i + 1) = sm (2 ^ wd) F i + F i * (2 ^ wd) ^ i := rfl
  rw [er, Nat.pow_succ (2 ^ wd) i, Nat.add_mul]
  have h1 := congrArg (· * (2 ^ wd) ^ i) hx
  simp only [Nat.add_mul] at h1
  have h2 : v * (2 ^ wd) ^ i * 2 ^ r = v * 2 ^ r * (2 ^ wd) ^ i := by ac_rfl
  have h3 : F (i + 1) % 2 ^ r * ((2 ^ wd) ^ i * 2 ^ wd) = F (i + 1) % 2 ^ r * 2 ^ wd * (2 ^ wd) ^ i := by ac_rfl
  rw [h2, h3]
  omega

/-- the quotient by a power of two, whole limbs first -/
theorem down_end (wd : Nat) {f F f' : Nat → Nat} {q r L : Nat} (lf : Lt (2 ^ wd) f (q + L)) (hF : ∀ i, i < L → F i = f (q + i)) (h0 : F L = 0) (hv : sm (2 ^ wd) f' L * 2 ^ r + F 0 % 2 ^ r = sm (2 ^ wd) F L + F L % 2 ^ r * (2 ^ wd) ^ L) :
    sm (2 ^ wd) f' L = sm (2 ^ wd) f (q + L) / 2 ^ (wd * q + r) := by
  rw [h0] at hv
  simp only [Nat.zero_mod, Nat.zero_mul, Nat.add_zero] at hv
  have hr0 := Nat.two_pow_pos r
  have h1 : sm (2 ^ wd) F L / 2 ^ r = sm (2 ^ wd) f' L := by
    rw [← hv, Nat.add_comm, Nat.add_mul_div_right _ _ hr0, Nat.div_eq_of_lt (Nat.mod_lt _ hr0), Nat.zero_add]
  have h2 : sm (2 ^ wd) (fun i => f (q + i)) L = sm (2 ^ wd) F L := sm_congr _ fun i hi => (hF i hi).symm
  have hq := sm_lt (lf.mono (by omega : q ≤ q + L))
  rw [sm_split, h2, Nat.pow_add, Nat.pow_mul, ← Nat.div_div_eq_div_mul, Nat.add_mul_div_right _ _ (Nat.pow_pos (Nat.two_pow_pos wd)), Nat.div_eq_of_lt hq, Nat.zero_add, h1]

/-- a power of two beyond the number -/
theorem down_none (wd : Nat) {f : Nat → Nat} {q r n : Nat} (lf : Lt (2 ^ wd) f n) (h : n ≤ q) : sm (2 ^ wd) f n / 2 ^ (wd * q + r) = 0 := by
  apply Nat.div_eq_of_lt
  have h1 := sm_lt lf
  have h2 : (2 ^ wd) ^ n ≤ 2 ^ (wd * q + r) := by
    rw [← Nat.pow_mul]
    exact Nat.pow_le_pow_right (by decide) (Nat.le_trans (Nat.mul_le_mul_left wd h) (Nat.le_add_right _ _))
  omega
end Go.Proofs.YtljbnnpmnoejeaaGreatDoor.nn
namespace Go.Proofs.YtljbnnpmnoejeaaGreatDoor.nn

theorem Nat.mul_add_mod_of_lt' {q y r : Nat} (h : r < y) (_ : 0 < y) : (q * y + r) % y = r := by
  rw [Nat.add_comm, Nat.add_mul_mod_self_right, Nat.mod_eq_of_lt h]
theorem Nat.mul_add_div' {q y r : Nat} (h : r < y) (h0 : 0 < y) : (q * y + r) / y = q := by
  rw [Nat.add_comm, Nat.add_mul_div_right _ _ h0, Nat.div_eq_of_lt h, Nat.zero_add]

/-- the base of half words -/
def W32 : Nat := 4294967296

/-- a guess q with the rest r of U by the high half y1; Y is the divisor, d the next half -/
structure Half (U d y1 y0 q r : Nat) : Prop where
  eq : q * y1 + r = U
  lt : U * W32 + d < (q + 1) * (y1 * W32 + y0)

theorem half_start {U d y1 y0 : Nat} (h1 : 0 < y1) (hd : d < W32) : Half U d y1 y0 (U / y1) (U % y1) := by
  refine ⟨by rw [Nat.mul_comm]; exact Nat.div_add_mod U y1, ?_⟩
  have e := Nat.div_add_mod U y1
  have hr := Nat.mod_lt U h1
  have h2 : U + 1 ≤ (U / y1 + 1) * y1 := by rw [Nat.add_mul, Nat.mul_comm (U / y1)]; omega
  have h3 : (U + 1) * W32 ≤ (U / y1 + 1) * y1 * W32 := Nat.mul_le_mul_right _ h2
  have h4 : (U / y1 + 1) * y1 * W32 ≤ (U / y1 + 1) * (y1 * W32 + y0) := by rw [Nat.mul_assoc]; exact Nat.mul_le_mul_left _ (Nat.le_add_right _ _)
  rw [Nat.add_mul] at h3
  omega

theorem half_first {U y1 y0 : Nat} (hU : U < y1 * W32 + y0) (hy1 : 2147483648 ≤ y1) (hy0 : y0 < W32) : U / y1 ≤ W32 + 1 := by
  have h : U < (W32 + 2) * y1 := by
    rw [Nat.add_mul, Nat.mul_comm W32]
    unfold W32 at *
    omega
  have := (Nat.div_lt_iff_lt_mul (by omega)).2 h
  omega

/-- the guess is too great -/
theorem Half.next {U d y1 y0 q r : Nat} (h : Half U d y1 y0 q r) (hU : U < y1 * W32 + y0) (hd : d < W32) (hc : W32 ≤ q ∨ r * W32 + d < q * y0) : 0 < q ∧ Half U d y1 y0 (q - 1) (r + y1) := by
  have hlt : U * W32 + d < q * (y1 * W32 + y0) := by
    rcases hc with hc | hc
    · have h1 : W32 * (y1 * W32 + y0) ≤ q * (y1 * W32 + y0) := Nat.mul_le_mul_right _ hc
      have h2 : W32 * (U + 1) ≤ W32 * (y1 * W32 + y0) := Nat.mul_le_mul_left _ hU
      rw [Nat.mul_add, Nat.mul_comm W32 U] at h2
      omega
    · rw [← h.eq, Nat.mul_add, Nat.add_mul, ← Nat.mul_assoc]
      omega
  have h0 : 0 < q := by
    rcases Nat.eq_zero_or_pos q with h0 | h0
    · rw [h0, Nat.zero_mul] at hlt; omega
    · exact h0
  obtain ⟨p, rfl⟩ : ∃ p, q = p + 1 := ⟨q - 1, by omega⟩
  refine ⟨h0, ?_, by rw [Nat.add_sub_cancel]; exact hlt⟩
  rw [Nat.add_sub_cancel, ← h.eq, Nat.add_mul]
  omega

theorem Half.fits {U d y1 y0 q r : Nat} (h : Half U d y1 y0 q r) (hc : q * y0 ≤ r * W32 + d) : q = (U * W32 + d) / (y1 * W32 + y0) ∧ q * (y1 * W32 + y0) ≤ U * W32 + d := by
  have h1 : q * (y1 * W32 + y0) ≤ U * W32 + d := by
    rw [← h.eq, Nat.mul_add, Nat.add_mul, ← Nat.mul_assoc]
    omega
  exact ⟨(Nat.div_eq_of_lt_le h1 h.lt).symm, h1⟩

/-- a rest as great as a half word ends it -/
theorem Half.wide {U d y1 y0 q r : Nat} (h : Half U d y1 y0 q r) (hq : q ≤ W32) (hy0 : y0 < W32) (hr : W32 ≤ r) : q = (U * W32 + d) / (y1 * W32 + y0) ∧ q * (y1 * W32 + y0) ≤ U * W32 + d := by
  refine h.fits ?_
  have h1 : q * y0 ≤ W32 * W32 := Nat.mul_le_mul hq (Nat.le_of_lt hy0)
  have h2 : W32 * W32 ≤ r * W32 := Nat.mul_le_mul_right _ hr
  omega

/-- two halves of a quotient -/
theorem two_halves {U d1 d0 Y q1 q0 : Nat} (h1 : q1 = (U * W32 + d1) / Y) (h0 : q0 = ((U * W32 + d1) % Y * W32 + d0) / Y) (hY : 0 < Y) :
    ((U * W32 + d1) * W32 + d0) / Y = q1 * W32 + q0 ∧ ((U * W32 + d1) * W32 + d0) % Y = ((U * W32 + d1) % Y * W32 + d0) % Y := by
  have e1 := Nat.div_add_mod (U * W32 + d1) Y
  rw [← h1] at e1
  have e2 : (U * W32 + d1) * W32 + d0 = (U * W32 + d1) % Y * W32 + d0 + Y * (q1 * W32) := by
    have := congrArg (· * W32) e1
    simp only [Nat.add_mul] at this ⊢
    rw [← this, Nat.mul_assoc Y]
    omega
  rw [e2, Nat.add_mul_div_left _ _ hY, Nat.add_mul_mod_self_left, ← h0]
  exact ⟨by omega, rfl⟩

theorem div_lt_half {R d Y : Nat} (hR : R < Y) (hd : d < W32) : (R * W32 + d) / Y < W32 := by
  rw [Nat.div_lt_iff_lt_mul (by omega), Nat.mul_comm W32]
  have h : (R + 1) * W32 ≤ Y * W32 := Nat.mul_le_mul_right _ hR
  rw [Nat.add_mul] at h
  omega

/-- both sides times two to a power -/
theorem scaled {N y s R : Nat} (h : N * 2 ^ s % (y * 2 ^ s) = R) : N % y = R / 2 ^ s := by
  rw [Nat.mul_mod_mul_right] at h
  rw [← h, Nat.mul_div_cancel _ (Nat.two_pow_pos s)]
theorem scaled_div (N y s : Nat) : N * 2 ^ s / (y * 2 ^ s) = N / y := Nat.mul_div_mul_right _ _ (Nat.two_pow_pos s)
section
/-- the base of wide limbs, as in AddTimes; B is any base here -/
structure Guess (B U d y1 y0 q r : Nat) : Prop where
  eq : q * y1 + r = U
  lt : U * B + d < (q + 1) * (y1 * B + y0)

variable {B U d y1 y0 q r : Nat}

theorem guess_start (h1 : 0 < y1) (hd : d < B) : Guess B U d y1 y0 (U / y1) (U % y1) := by
  refine ⟨by rw [Nat.mul_comm]; exact Nat.div_add_mod U y1, ?_⟩
  have e := Nat.div_add_mod U y1
  have hr := Nat.mod_lt U h1
  have h2 : U + 1 ≤ (U / y1 + 1) * y1 := by rw [Nat.add_mul, Nat.mul_comm (U / y1)]; omega
  have h3 : (U + 1) * B ≤ (U / y1 + 1) * y1 * B := Nat.mul_le_mul_right _ h2
  have h4 : (U / y1 + 1) * y1 * B ≤ (U / y1 + 1) * (y1 * B + y0) := by rw [Nat.mul_assoc]; exact Nat.mul_le_mul_left _ (Nat.le_add_right _ _)
  rw [Nat.add_mul] at h3
  omega

/-- the guess is too great -/
theorem Guess.next (h : Guess B U d y1 y0 q r) (hc : r * B + d < q * y0) : 0 < q ∧ Guess B U d y1 y0 (q - 1) (r + y1) := by
  have hlt : U * B + d < q * (y1 * B + y0) := by
    rw [← h.eq, Nat.mul_add, Nat.add_mul, ← Nat.mul_assoc]
    omega
  have h0 : 0 < q := by
    rcases Nat.eq_zero_or_pos q with h0 | h0
    · rw [h0, Nat.zero_mul] at hlt; omega
    · exact h0
  obtain ⟨p, rfl⟩ : ∃ p, q = p + 1 := ⟨q - 1, by omega⟩
  refine ⟨h0, ?_, by rw [Nat.add_sub_cancel]; exact hlt⟩
  rw [Nat.add_sub_cancel, ← h.eq, Nat.add_mul]
  omega

theorem Guess.fits (h : Guess B U d y1 y0 q r) (hc : q * y0 ≤ r * B + d) : q = (U * B + d) / (y1 * B + y0) := by
  have h1 : q * (y1 * B + y0) ≤ U * B + d := by
    rw [← h.eq, Nat.mul_add, Nat.add_mul, ← Nat.mul_assoc]
    omega
  exact (Nat.div_eq_of_lt_le h1 h.lt).symm

/-- a rest as great as the base ends it -/
theorem Guess.wide (h : Guess B U d y1 y0 q r) (hq : q ≤ B) (hy0 : y0 < B) (hr : B ≤ r) : q = (U * B + d) / (y1 * B + y0) := by
  refine h.fits ?_
  have h1 : q * y0 ≤ B * B := Nat.mul_le_mul hq (Nat.le_of_lt hy0)
  have h2 : B * B ≤ r * B := Nat.mul_le_mul_right _ hr
  omega

/-- what is guessed -/
def gs (B x2 x1 x0 y1 y0 : Nat) : Nat := if y1 ≤ x2 then B - 1 else ((x2 * B + x1) * B + x0) / (y1 * B + y0)

/-- THE GUESS IS JUST RIGHT, OR ONE TOO GREAT: A = (x2, x1, x0) · P + a, D = (y1, y0) · P + b with the power P of the places below -/
theorem guess_right {P x2 x1 x0 a b A D : Nat} (hA : A = ((x2 * B + x1) * B + x0) * P + a) (hD : D = (y1 * B + y0) * P + b) (ha : a < P) (hb : b < P)
    (hx1 : x1 < B) (hx0 : x0 < B) (hy0 : y0 < B) (hy1 : B ≤ 2 * y1) (hy1' : y1 < B) (hAD : A < D * B) (hB : 2 ≤ B) :
    A / D ≤ gs B x2 x1 x0 y1 y0 ∧ gs B x2 x1 x0 y1 y0 ≤ A / D + 1 ∧ gs B x2 x1 x0 y1 y0 < B := by
  have hD0 : 0 < D := by
    rcases Nat.eq_zero_or_pos D with h | h
    · rw [h] at hAD; omega
    · exact h
  have hq : A / D < B := (Nat.div_lt_iff_lt_mul hD0).2 (by rw [Nat.mul_comm]; exact hAD)
  have hP : 0 < P := by omega
  unfold gs
  by_cases hc : y1 ≤ x2
  · rw [if_pos hc]
    refine ⟨by omega, ?_, by omega⟩
    have h1 : (B - 2) * D ≤ A := by
      have e1 : D ≤ (y1 + 1) * (B * P) := by
        rw [hD]
        have : (y1 * B + y0 + 1) * P ≤ (y1 + 1) * B * P := Nat.mul_le_mul_right _ (by rw [Nat.add_mul]; omega)
        rw [Nat.add_mul (y1 * B + y0)] at this
        rw [← Nat.mul_assoc]
        omega
      have e2 : x2 * B * (B * P) ≤ A := by
        rw [hA, ← Nat.mul_assoc]
        have : x2 * B * B * P ≤ ((x2 * B + x1) * B + x0) * P := Nat.mul_le_mul_right _ (by rw [Nat.add_mul]; omega)
        omega
      have e3 : (B - 2) * (y1 + 1) ≤ x2 * B := by
        have h3 : (B - 2) * (y1 + 1) ≤ y1 * B := by
          obtain ⟨c, rfl⟩ : ∃ c, B = c + 2 := ⟨B - 2, by omega⟩
          rw [Nat.add_sub_cancel, Nat.mul_add, Nat.mul_add, Nat.mul_comm c y1]
          omega
        exact Nat.le_trans h3 (Nat.mul_le_mul_right _ hc)
      calc (B - 2) * D ≤ (B - 2) * ((y1 + 1) * (B * P)) := Nat.mul_le_mul_left _ e1
        _ = (B - 2) * (y1 + 1) * (B * P) := (Nat.mul_assoc _ _ _).symm
        _ ≤ x2 * B * (B * P) := Nat.mul_le_mul_right _ e3
        _ ≤ A := e2
    have h2 := (Nat.le_div_iff_mul_le hD0).2 h1
    omega
  · rw [if_neg hc]
    obtain ⟨A3, hA3⟩ : ∃ A3, (x2 * B + x1) * B + x0 = A3 := ⟨_, rfl⟩
    obtain ⟨D2, hD2⟩ : ∃ D2, y1 * B + y0 = D2 := ⟨_, rfl⟩
    rw [hA3] at hA ⊢
    rw [hD2] at hD ⊢
    have hD20 : 0 < D2 := by
      have : 1 * 1 ≤ y1 * B := Nat.mul_le_mul (by omega) (by omega)
      omega
    have hg : A3 / D2 < B := by
      rw [Nat.div_lt_iff_lt_mul hD20, ← hA3, ← hD2]
      have h1 : (x2 * B + x1 + 1) * B ≤ B * (y1 * B) := by
        rw [Nat.mul_comm B]
        refine Nat.mul_le_mul_right _ ?_
        have : (x2 + 1) * B ≤ y1 * B := Nat.mul_le_mul_right _ (by omega)
        rw [Nat.add_mul] at this
        omega
      rw [Nat.add_mul] at h1
      rw [Nat.mul_add]
      omega
    have hle : A3 / D2 * D2 ≤ A3 := Nat.div_mul_le_self _ _
    refine ⟨?_, ?_, hg⟩
    · rw [Nat.le_div_iff_mul_le hD20]
      have h1 : A / D * D ≤ A := Nat.div_mul_le_self _ _
      have h2 : A / D * (D2 * P) ≤ A / D * D := Nat.mul_le_mul_left _ (by omega)
      have h3 : A / D * D2 * P < (A3 + 1) * P := by rw [Nat.mul_assoc, Nat.add_mul]; omega
      exact Nat.le_of_lt_succ (Nat.lt_of_mul_lt_mul_right h3)
    · have h4 : A3 / D2 - 1 ≤ A / D := by
        rw [Nat.le_div_iff_mul_le hD0]
        obtain ⟨t, ht⟩ : ∃ t, A3 / D2 = t := ⟨_, rfl⟩
        rw [ht] at hle hg ⊢
        rcases Nat.eq_zero_or_pos t with h0 | h0
        · rw [h0]; simp
        · obtain ⟨s, rfl⟩ : ∃ s, t = s + 1 := ⟨t - 1, by omega⟩
          rw [Nat.add_sub_cancel]
          have h5 : (s + 1) * D2 * P ≤ A3 * P := Nat.mul_le_mul_right _ hle
          have h6 : s * b ≤ s * P := Nat.mul_le_mul_left _ (Nat.le_of_lt hb)
          have h7 : s * P ≤ D2 * P := Nat.mul_le_mul_right _ (by
            have : 1 * B ≤ y1 * B := Nat.mul_le_mul_right _ (by omega)
            omega)
          rw [hA, hD, Nat.mul_add, ← Nat.mul_assoc]
          rw [Nat.add_mul, Nat.add_mul, Nat.one_mul] at h5
          omega
      omega
end
end Go.Proofs.YtljbnnpmnoejeaaGreatDoor.nn
namespace Go.Proofs.YtljbnnpmnoejeaaGreatDoor.nn

/-- how many bits a number has -/
def bl (N : Nat) : Nat := if N = 0 then 0 else N.log2 + 1

theorem bl_zero : bl 0 = 0 := rfl
theorem bl_lt (N : Nat) : N < 2 ^ bl N := by
  unfold bl
  split
  · omega
  · exact Nat.lt_log2_self
theorem bl_ge {N : Nat} (h : N ≠ 0) : 2 ^ (bl N - 1) ≤ N ∧ 0 < bl N := by
  unfold bl
  rw [if_neg h, Nat.add_sub_cancel]
  exact ⟨Nat.log2_self_le h, by omega⟩
theorem bl_uniq {N k : Nat} (h1 : N < 2 ^ k) (h2 : 0 < k → 2 ^ (k - 1) ≤ N) : bl N = k := by
  rcases Nat.eq_zero_or_pos N with h0 | h0
  · subst h0
    rcases Nat.eq_zero_or_pos k with hk | hk
    · subst hk; rfl
    · have := h2 hk; have := Nat.two_pow_pos (k - 1); omega
  · obtain ⟨h3, h4⟩ := bl_ge (N := N) (by omega)
    have h5 := bl_lt N
    have a1 : ∀ a b : Nat, 2 ^ a < 2 ^ b → a < b := fun a b h => (Nat.pow_lt_pow_iff_right (by decide)).1 h
    rcases Nat.eq_zero_or_pos k with hk | hk
    · subst hk; simp at h1; omega
    · have := h2 hk
      have l1 := a1 (k - 1) (bl N) (by omega)
      have l2 := a1 (bl N - 1) k (by omega)
      omega
theorem bl_le {N k : Nat} (h : N < 2 ^ k) : bl N ≤ k := by
  rcases Nat.eq_zero_or_pos N with h0 | h0
  · subst h0; rw [bl_zero]; omega
  · obtain ⟨h3, h4⟩ := bl_ge (N := N) (by omega)
    have l := (Nat.pow_lt_pow_iff_right (a := 2) (by decide)).1 (Nat.lt_of_le_of_lt h3 h)
    omega
theorem bl_mul {N : Nat} (h : N ≠ 0) (k : Nat) : bl (N * 2 ^ k) = bl N + k := by
  obtain ⟨h3, h4⟩ := bl_ge h
  refine bl_uniq ?_ (fun _ => ?_)
  · rw [Nat.pow_add]; exact Nat.mul_lt_mul_of_pos_right (bl_lt N) (Nat.two_pow_pos k)
  · have e : bl N + k - 1 = bl N - 1 + k := by omega
    rw [e, Nat.pow_add]; exact Nat.mul_le_mul_right _ h3
theorem bl_div (N k : Nat) : bl (N / 2 ^ k) = bl N - k := by
  have h5 := bl_lt N
  rcases Nat.lt_or_ge k (bl N) with hk | hk
  · have h0 : N ≠ 0 := by rintro rfl; simp [bl] at hk
    obtain ⟨h3, h4⟩ := bl_ge h0
    refine bl_uniq ?_ (fun _ => ?_)
    · rw [Nat.div_lt_iff_lt_mul (Nat.two_pow_pos k), ← Nat.pow_add]
      rwa [Nat.sub_add_cancel (Nat.le_of_lt hk)]
    · rw [Nat.le_div_iff_mul_le (Nat.two_pow_pos k), ← Nat.pow_add]
      have e : bl N - k - 1 + k = bl N - 1 := by omega
      rwa [e]
  · have h6 : 2 ^ bl N ≤ 2 ^ k := Nat.pow_le_pow_right (by decide) hk
    rw [Nat.div_eq_of_lt (by omega), bl_zero]
    omega

theorem bl_half {x : Nat} (h : x ≠ 0) : bl x = 1 + bl (x / 2) := by
  have h1 := bl_div x 1
  rw [Nat.pow_one] at h1
  have := (bl_ge h).2
  omega

theorem bitLen_bl : ∀ (f x : Nat), x < 2 ^ f → f ≤ 64 → Lib.bitLen x = bl x := by
  intro f
  induction f with
  | zero => intro x h _; obtain rfl : x = 0 := by simpa using h
            decide
  | succ f ih =>
    intro x h hf
    by_cases h0 : x = 0
    · subst h0; decide
    · have hx : x < 2 ^ 64 := Nat.lt_of_lt_of_le h (Nat.pow_le_pow_right (by decide) hf)
      rw [Lib.bitLen_half x h0 hx, bl_half h0, ih (x / 2) (by rw [Nat.pow_succ] at h; omega) (by omega)]

/-- the bits of limbs: those of the last, and all of the others -/
theorem bl_sm (wd : Nat) {f : Nat → Nat} {n : Nat} (lf : Lt (2 ^ wd) f (n + 1)) (h : f n ≠ 0) : bl (sm (2 ^ wd) f (n + 1)) = wd * n + bl (f n) := by
  have h1 := sm_lt (lf.mono (by omega : n ≤ n + 1))
  obtain ⟨h3, h4⟩ := bl_ge h
  have h5 : f n + 1 ≤ 2 ^ bl (f n) := bl_lt (f n)
  have e : (2 ^ wd) ^ n = 2 ^ (wd * n) := by rw [Nat.pow_mul]
  have er : sm (2 ^ wd) f (n + 1) = sm (2 ^ wd) f n + f n * (2 ^ wd) ^ n := rfl
  rw [e] at h1 er
  rw [er]
  refine bl_uniq ?_ (fun _ => ?_)
  · have h6 : (f n + 1) * 2 ^ (wd * n) ≤ 2 ^ bl (f n) * 2 ^ (wd * n) := Nat.mul_le_mul_right _ h5
    rw [Nat.add_mul] at h6
    rw [Nat.pow_add, Nat.mul_comm (2 ^ (wd * n))]
    omega
  · have e2 : wd * n + bl (f n) - 1 = bl (f n) - 1 + wd * n := by omega
    have h6 : 2 ^ (bl (f n) - 1) * 2 ^ (wd * n) ≤ f n * 2 ^ (wd * n) := Nat.mul_le_mul_right _ h3
    rw [e2, Nat.pow_add]
    omega
end Go.Proofs.YtljbnnpmnoejeaaGreatDoor.nn
namespace Go.Proofs.YtljbnnpmnoejeaaGreatDoor.nn

theorem sm_above {B : Nat} {f : Nat → Nat} {k n : Nat} (h : ∀ j, k ≤ j → j < n → f j = 0) (hk : k ≤ n) : sm B f n = sm B f k := by
  obtain ⟨m, rfl⟩ : ∃ m, n = k + m := ⟨n - k, by omega⟩
  rw [sm_split, sm_congr B (f := fun i => f (k + i)) (g := fun _ => 0) (fun i hi => h (k + i) (by omega) (by omega))]
  have : sm B (fun _ => 0) m = 0 := by
    clear h hk
    induction m with
    | zero => rfl
    | succ m ih => rw [sm, ih]; simp
  rw [this]
  simp

theorem sm_small {B : Nat} {f : Nat → Nat} {n : Nat} (h : sm B f (n + 1) < B ^ n) : f n = 0 := by
  rcases Nat.eq_zero_or_pos (f n) with h0 | h0
  · exact h0
  · have := sm_ge (B := B) (f := f) (n := n) (by omega); omega

theorem sm_first (B : Nat) (f : Nat → Nat) (i n : Nat) : sm B (fun j => f (i + j)) (n + 1) = f i + sm B (fun j => f (i + 1 + j)) n * B := by
  rw [Nat.add_comm n 1, sm_split]
  have e1 : sm B (fun j => f (i + j)) 1 = f i := by simp [sm]
  rw [e1, Nat.pow_one]
  congr 3
  funext j
  rw [← Nat.add_assoc]

/-- the stretch from i on, of n limbs, replaced -/
def put (f : Nat → Nat) (i n : Nat) (f1 : Nat → Nat) : Nat → Nat := fun j => if i ≤ j ∧ j < i + n then f1 (j - i) else f j
theorem put_in (f : Nat → Nat) {i n j : Nat} (f1 : Nat → Nat) (h : j < n) : put f i n f1 (i + j) = f1 j := by
  simp only [put]
  rw [if_pos (by omega), Nat.add_sub_cancel_left]
theorem put_out (f : Nat → Nat) {i n j : Nat} (f1 : Nat → Nat) (h : j < i ∨ i + n ≤ j) : put f i n f1 j = f j := by
  simp only [put]
  rw [if_neg (by omega)]
theorem Lt.put {B : Nat} {f f1 : Nat → Nat} {i n N : Nat} (h : Lt B f N) (h1 : Lt B f1 n) : Lt B (put f i n f1) N := fun j hj => by
  by_cases c : i ≤ j ∧ j < i + n
  · obtain ⟨m, rfl⟩ : ∃ m, j = i + m := ⟨j - i, by omega⟩
    rw [put_in f f1 (by omega)]
    exact h1 m (by omega)
  · rw [put_out f f1 (by omega)]
    exact h j hj

/-- what holds of the numbers when the limbs from i on of the quotient are there: fr the rest (N limbs), fq the quotient (Q limbs) -/
structure Long (B S D n Q : Nat) (fr fq : Nat → Nat) (i : Nat) : Prop where
  hr : Lt B fr (Q + n)
  hq : Lt B fq Q
  zr : ∀ j, i + n ≤ j → j < Q + n → fr j = 0
  zq : ∀ j, j < i → fq j = 0
  val : sm B fr (Q + n) + D * sm B fq Q = S
  lt : sm B (fun j => fr (i + j)) n < D

theorem Long.first {B S D n Q : Nat} {fr fq : Nat → Nat} {i : Nat} (H : Long B S D n Q fr fq (i + 1)) (hi : i < Q) : sm B (fun j => fr (i + j)) (n + 1) < D * B := by
  rw [sm_first]
  have h1 := H.hr i (by omega)
  have h2 : (sm B (fun j => fr (i + 1 + j)) n + 1) * B ≤ D * B := Nat.mul_le_mul_right _ H.lt
  rw [Nat.add_mul] at h2
  omega

theorem Long.step {B S D n Q : Nat} {fr fq : Nat → Nat} {i : Nat} (H : Long B S D n Q fr fq (i + 1)) (hi : i < Q) {f1 : Nat → Nat} (l1 : Lt B f1 (n + 1)) (hD : D < B ^ n) (hD0 : 0 < D)
    (h1 : sm B f1 (n + 1) = sm B (fun j => fr (i + j)) (n + 1) % D) : Long B S D n Q (put fr i (n + 1) f1) (upd fq i (sm B (fun j => fr (i + j)) (n + 1) / D)) i := by
  have hq := (Nat.div_lt_iff_lt_mul hD0).2 (by rw [Nat.mul_comm]; exact H.first hi)
  have hm := Nat.mod_lt (sm B (fun j => fr (i + j)) (n + 1)) hD0
  have hz := H.zr
  have e1 : sm B fr (Q + n) = sm B fr (i + (n + 1)) := sm_above (fun j a b => hz j (by omega) b) (by omega)
  have e2 : sm B (put fr i (n + 1) f1) (Q + n) = sm B (put fr i (n + 1) f1) (i + (n + 1)) := sm_above (fun j a b => by rw [put_out fr f1 (by omega)]; exact hz j (by omega) b) (by omega)
  have e3 : sm B (fun j => put fr i (n + 1) f1 (i + j)) (n + 1) = sm B f1 (n + 1) := sm_congr B fun j hj => put_in fr f1 hj
  have e4 : sm B (put fr i (n + 1) f1) i = sm B fr i := sm_congr B fun j hj => put_out fr f1 (by omega)
  have hf1 : f1 n = 0 := sm_small (by rw [h1]; omega)
  have hv := H.val
  rw [e1, sm_split] at hv
  rw [sm_split B (put fr i (n + 1) f1) i (n + 1), e3, e4, h1] at e2
  have e5 := sm_upd B fq (sm B (fun j => fr (i + j)) (n + 1) / D) hi
  rw [H.zq i (by omega)] at e5
  have e6 := Nat.div_add_mod (sm B (fun j => fr (i + j)) (n + 1)) D
  have e7 : sm B (fun j => put fr i (n + 1) f1 (i + j)) n = sm B f1 (n + 1) := by
    rw [sm_congr B (g := f1) (fun j hj => put_in fr f1 (by omega)), sm, hf1]; simp
  refine ⟨H.hr.put l1, H.hq.upd hq, fun j a b => ?_, fun j a => ?_, ?_, ?_⟩
  · by_cases c : j = i + n
    · subst c
      rw [put_in fr f1 (by omega)]; exact hf1
    · rw [put_out fr f1 (by omega)]; exact hz j (by omega) b
  · rw [upd_ne fq (by omega)]; exact H.zq j (by omega)
  · rw [e2]
    generalize sm B (fun j => fr (i + j)) (n + 1) = A at *
    generalize A / D = q at *
    generalize A % D = r at *
    generalize sm B (upd fq i q) Q = Z at *
    have c1 := congrArg (D * ·) e5
    simp only [Nat.mul_add, Nat.zero_mul, Nat.add_zero] at c1
    have c2 := congrArg (· * B ^ i) e6
    simp only [Nat.add_mul] at c2
    rw [c1, ← Nat.mul_assoc]
    omega
  · rw [e7, h1]; exact hm

theorem Long.last {B S D n Q : Nat} {fr fq : Nat → Nat} (H : Long B S D n Q fr fq 0) : sm B fq Q = S / D ∧ sm B fr (Q + n) = S % D := by
  have hl := H.lt
  simp only [Nat.zero_add] at hl
  have e1 : sm B fr (Q + n) = sm B fr n := sm_above (fun j a b => H.zr j (by omega) b) (by omega)
  have hv := H.val
  rw [e1] at hv ⊢
  have h0 : 0 < D := by omega
  rw [← hv, Nat.add_mul_mod_self_left, Nat.mod_eq_of_lt hl, Nat.add_mul_div_left _ _ h0, Nat.div_eq_of_lt hl]
  exact ⟨by omega, rfl⟩

/-- at the start: the highest limbs are below the divisor -/
theorem Long.start {B A s D n Q : Nat} {fr fq : Nat → Nat} (hB : 0 < B) (hr : Lt B fr (Q + n)) (hz : ∀ j, j < Q → fq j = 0) (hv : sm B fr (Q + n) = A * 2 ^ s) (hA : A < B ^ (Q + n - 1)) (hn : 0 < n) (hD : 2 ^ s * B ^ (n - 1) ≤ D) : Long B (A * 2 ^ s) D n Q fr fq Q := by
  have hq0 : sm B fq Q = 0 := by
    rw [sm_above (k := 0) (fun j _ b => hz j b) (Nat.zero_le _)]; rfl
  refine ⟨hr, fun j hj => by rw [hz j hj]; exact hB, fun j a b => absurd b (by omega), hz, by rw [hv, hq0]; simp, ?_⟩
  obtain ⟨m, rfl⟩ : ∃ m, n = m + 1 := ⟨n - 1, by omega⟩
  rw [show Q + (m + 1) - 1 = Q + m by omega, Nat.pow_add] at hA
  rw [Nat.add_sub_cancel] at hD
  rw [sm_split] at hv
  have h1 : A * 2 ^ s < B ^ Q * B ^ m * 2 ^ s := Nat.mul_lt_mul_of_pos_right hA (Nat.two_pow_pos s)
  have e : B ^ Q * B ^ m * 2 ^ s = 2 ^ s * B ^ m * B ^ Q := by ac_rfl
  have h2 : sm B (fun i => fr (Q + i)) (m + 1) * B ^ Q < 2 ^ s * B ^ m * B ^ Q := by rw [← e]; omega
  exact Nat.lt_of_lt_of_le (Nat.lt_of_mul_lt_mul_right h2) hD

/-- the divisor shifted up: its highest bit is set, and it is no longer -/
theorem up_full {wd s : Nat} {h : Nat → Nat} {m : Nat} (lh : Lt (2 ^ wd) h (m + 1)) (h0 : h m ≠ 0) (hs : bl (h m) + s = wd) :
    2 ^ (wd - 1) * (2 ^ wd) ^ m ≤ sm (2 ^ wd) h (m + 1) * 2 ^ s ∧ sm (2 ^ wd) h (m + 1) * 2 ^ s < (2 ^ wd) ^ (m + 1) := by
  obtain ⟨h3, h4⟩ := bl_ge h0
  have h5 : h m + 1 ≤ 2 ^ bl (h m) := bl_lt (h m)
  have hl := sm_lt (lh.mono (by omega : m ≤ m + 1))
  have e : sm (2 ^ wd) h (m + 1) = sm (2 ^ wd) h m + h m * (2 ^ wd) ^ m := rfl
  rw [e]
  constructor
  · have e1 : 2 ^ (wd - 1) = 2 ^ (bl (h m) - 1) * 2 ^ s := by rw [← Nat.pow_add]; congr 1; omega
    have h6 : 2 ^ (bl (h m) - 1) * 2 ^ s * (2 ^ wd) ^ m ≤ h m * 2 ^ s * (2 ^ wd) ^ m := Nat.mul_le_mul_right _ (Nat.mul_le_mul_right _ h3)
    rw [e1, Nat.add_mul, Nat.mul_right_comm (h m)]
    omega
  · have h6 : (h m + 1) * (2 ^ wd) ^ m * 2 ^ s ≤ 2 ^ bl (h m) * (2 ^ wd) ^ m * 2 ^ s := Nat.mul_le_mul_right _ (Nat.mul_le_mul_right _ h5)
    have h7 : (sm (2 ^ wd) h m + h m * (2 ^ wd) ^ m) * 2 ^ s < (h m + 1) * (2 ^ wd) ^ m * 2 ^ s := Nat.mul_lt_mul_of_pos_right (by rw [Nat.add_mul]; omega) (Nat.two_pow_pos s)
    have e2 : 2 ^ bl (h m) * (2 ^ wd) ^ m * 2 ^ s = (2 ^ wd) ^ (m + 1) := by
      rw [Nat.mul_right_comm, ← Nat.pow_add, hs, Nat.pow_succ, Nat.mul_comm]
    omega

/-- the length of a trimmed number from its value -/
theorem len_of {B : Nat} (hB : 0 < B) {f : Nat → Nat} {n m : Nat} (lf : Lt B f n) (tf : Trm f n) (h1 : B ^ m ≤ sm B f n) (h2 : sm B f n < B ^ (m + 1)) : n = m + 1 := by
  rcases Nat.lt_trichotomy n (m + 1) with h | h | h
  · have a := sm_lt lf
    have b : B ^ n ≤ B ^ m := Nat.pow_le_pow_right hB (by omega)
    omega
  · exact h
  · obtain ⟨k, rfl⟩ : ∃ k, n = k + 1 := ⟨n - 1, by omega⟩
    rcases tf with tf | tf
    · omega
    · have a := sm_ge (B := B) (f := f) (n := k) (by simpa using tf)
      have b : B ^ (m + 1) ≤ B ^ k := Nat.pow_le_pow_right hB (by omega)
      omega

/-- the highest limb from the value -/
theorem top_of {B : Nat} {f : Nat → Nat} {m k : Nat} (lf : Lt B f (m + 1)) (h1 : k * B ^ m ≤ sm B f (m + 1)) : k ≤ f m := by
  have a := sm_lt (lf.mono (by omega : m ≤ m + 1))
  have e : sm B f (m + 1) = sm B f m + f m * B ^ m := rfl
  have h2 : k * B ^ m < (f m + 1) * B ^ m := by rw [Nat.add_mul]; omega
  exact Nat.le_of_lt_succ (Nat.lt_of_mul_lt_mul_right h2)

/-- trimmed from the value -/
theorem trm_of {B : Nat} {f : Nat → Nat} {m : Nat} (lf : Lt B f (m + 1)) (h1 : B ^ m ≤ sm B f (m + 1)) : Trm f (m + 1) := by
  right
  have := top_of (k := 1) lf (by omega)
  rw [Nat.add_sub_cancel]
  omega

/-- quotient and rest of the numbers themselves -/
theorem unscale {A B s q r : Nat} (hq : q = A * 2 ^ s / (B * 2 ^ s)) (hr : r = A * 2 ^ s % (B * 2 ^ s)) : q = A / B ∧ r / 2 ^ s = A % B := by
  subst hq
  subst hr
  exact ⟨scaled_div A B s, (scaled rfl).symm⟩
end Go.Proofs.YtljbnnpmnoejeaaGreatDoor.nn
namespace Go.Proofs.YtljbnnpmnoejeaaGreatDoor.nn
open Go.RowKit

/-- the slice at address A reads as n integers f 0 .. f (n - 1) of kind k, in a block that is there -/
def Rd (w : World) (k : IntKind) (A : Option Addr) (n : Nat) (f : Nat → Nat) : Prop :=
  0 < n → ∃ b off, A = some ⟨b, off, none⟩ ∧ b < w.heap.size ∧ ∀ i, i < n → w.cell? ⟨b, off + i, none⟩ = some (.int k (f i : Int))

section
variable {w w' : World} {k : IntKind} {A : Option Addr} {n m : Nat} {f g : Nat → Nat}

theorem Rd.keep (h : Rd w k A n f) (hs : w.heap.size ≤ w'.heap.size) (hk : ∀ b o, b < w.heap.size → w'.cell? ⟨b, o, none⟩ = w.cell? ⟨b, o, none⟩) : Rd w' k A n f := fun hn => by
  obtain ⟨b, off, e, hb, hc⟩ := h hn
  exact ⟨b, off, e, by omega, fun i hi => (hk b _ hb).trans (hc i hi)⟩
theorem Rd.below (h : Rd w k A n f) (hb : Below w.heap.size w w') : Rd w' k A n f :=
  h.keep hb.size fun b o hlt => hb.cell (p := ⟨b, o, none⟩) hlt
theorem Rd.drew (h : Rd w k A n f) : Rd w.drew k A n f := h
theorem Rd.drewN (h : Rd w k A n f) (j : Nat) : Rd (w.drewN j) k A n f := h
theorem Rd.alloc (h : Rd w k A n f) (o : Obj) : Rd (w.alloc o) k A n f :=
  h.keep (by simp) fun _ _ hlt => World.cell?_alloc_lt w o _ hlt
theorem Rd.mono (h : Rd w k A n f) (hm : m ≤ n) : Rd w k A m f := fun h0 => by
  obtain ⟨b, off, e, hb, hc⟩ := h (by omega)
  exact ⟨b, off, e, hb, fun i hi => hc i (by omega)⟩
theorem Rd.congr (h : Rd w k A n f) (e : ∀ i, i < n → f i = g i) : Rd w k A n g := fun h0 => by
  obtain ⟨b, off, ea, hb, hc⟩ := h h0
  exact ⟨b, off, ea, hb, fun i hi => by rw [← e i hi]; exact hc i hi⟩
theorem Rd.lt {b o : Nat} (h : Rd w k A n f) (e : A = some ⟨b, o, none⟩) (h0 : 0 < n) : b < w.heap.size := by
  obtain ⟨b', o', e', hb, _⟩ := h h0
  rw [e] at e'
  injection e' with e'
  injection e' with e'
  omega
theorem Rd.none_ : Rd w k A 0 f := fun h => absurd h (by omega)

/-- the limbs as a list of values -/
def vl (k : IntKind) (f : Nat → Nat) (n : Nat) : List Value := (List.range n).map fun i => .int k (f i : Int)

theorem vl_length (k : IntKind) (f : Nat → Nat) (n : Nat) : (vl k f n).length = n := by simp [vl]
theorem vl_at (k : IntKind) (f : Nat → Nat) {n i : Nat} (h : i < n) : (vl k f n)[i]? = some (.int k (f i : Int)) := by simp [vl, h]
theorem vl_congr (k : IntKind) {n : Nat} (e : ∀ i, i < n → f i = g i) : vl k f n = vl k g n :=
  List.map_congr_left fun i hi => by rw [e i (List.mem_range.1 hi)]
theorem vl_one (k : IntKind) (f : Nat → Nat) (n : Nat) : ∀ u ∈ vl k f n, u.oneCell' = true := by
  intro u hu
  obtain ⟨i, _, rfl⟩ := List.mem_map.1 hu
  rfl
theorem vl_append (k : IntKind) (f g : Nat → Nat) (n m : Nat) : vl k f n ++ vl k g m = vl k (fun i => if i < n then f i else g (i - n)) (n + m) := by
  induction m with
  | zero =>
    simp only [vl, List.range_zero, List.map_nil, List.append_nil, Nat.add_zero]
    exact List.map_congr_left fun i hi => by rw [if_pos (List.mem_range.1 hi)]
  | succ m ih =>
    have e1 : vl k g (m + 1) = vl k g m ++ [.int k (g m : Int)] := by simp [vl, List.range_succ]
    have e2 : vl k (fun i => if i < n then f i else g (i - n)) (n + (m + 1)) = vl k (fun i => if i < n then f i else g (i - n)) (n + m) ++ [.int k (g m : Int)] := by
      simp only [vl, ← Nat.add_assoc, List.range_succ, List.map_append, List.map_cons, List.map_nil]
      rw [if_neg (by omega), Nat.add_sub_cancel_left]
    rw [e1, e2, ← ih, List.append_assoc]

/-- what the call owns reads as its limbs -/
theorem Rd.of_own {base : Nat} {e : TypeId} {v : Value} (h : w.ownsRow base e 1 v n (vl k f n)) : ∃ A c, v = .slice A n c ∧ n ≤ c ∧ c ≤ maxLen ∧ Rd w k A n f := by
  have hh := h
  rcases h.2 with ⟨rfl, rfl⟩ | ⟨b, cap, cur, rfl, _, hb, hc, hm, _⟩
  · exact ⟨none, 0, rfl, Nat.le_refl _, by simp [maxLen], Rd.none_⟩
  · refine ⟨_, cap, rfl, hc, hm, fun _ => ⟨b, 0, rfl, (Array.getElem?_eq_some_iff.1 hb).1, fun i hi => ?_⟩⟩
    rw [Nat.zero_add, hh.cellAt i (by omega)]
    exact vl_at k f hi

end

end Go.Proofs.YtljbnnpmnoejeaaGreatDoor.nn
namespace Go.Proofs.YtljbnnpmnoejeaaGreatDoor.nn
open Go.RowKit

/-- n limbs of f, then h's -/
def jn (f : Nat → Nat) (n : Nat) (h : Nat → Nat) : Nat → Nat := fun i => if i < n then f i else h (i - n)
theorem jn_lo (f h : Nat → Nat) {n i : Nat} (hi : i < n) : jn f n h i = f i := by simp [jn, hi]
theorem jn_hi (f h : Nat → Nat) (n i : Nat) : jn f n h (n + i) = h i := by
  rw [jn, if_neg (by omega), Nat.add_sub_cancel_left]
theorem jn_zero (f h : Nat → Nat) : jn f 0 h = h := by funext i; simp [jn]
theorem jn_one (f h : Nat → Nat) (n : Nat) : ∀ i, i < n + 1 → jn f n h i = upd f n (h 0) i := fun i hi => by
  by_cases e : i = n
  · subst e; have := jn_hi f h i 0; rw [Nat.add_zero] at this; rw [this, upd_at]
  · rw [jn_lo f h (by omega), upd_ne f e]
theorem sm_jn (B : Nat) (f h : Nat → Nat) (n m : Nat) : sm B (jn f n h) (n + m) = sm B f n + sm B h m * B ^ n := by
  rw [sm_split, sm_congr B (f := jn f n h) (g := f) (fun i hi => jn_lo f h hi), sm_congr B (f := fun i => jn f n h (n + i)) (g := h) (fun i _ => jn_hi f h n i)]
theorem Lt.jn {B : Nat} {f h : Nat → Nat} {n m : Nat} (lf : Lt B f n) (lh : Lt B h m) : Lt B (nn.jn f n h) (n + m) := fun i hi => by
  by_cases e : i < n
  · rw [jn_lo f h e]; exact lf i e
  · have := jn_hi f h n (i - n)
    rw [show n + (i - n) = i from by omega] at this
    rw [this]; exact lh _ (by omega)

/-- a new block of one cell -/
theorem rd_one (w : World) (K : IntKind) (x : Nat) (e : TypeId) : Rd (w.alloc (.cells #[.int K (x : Int)] e)) K (some ⟨w.heap.size, 0, none⟩) 1 (fun _ => x) := fun _ =>
  ⟨w.heap.size, 0, rfl, by simp, fun i hi => by
    obtain rfl : i = 0 := by omega
    rw [World.cell?_alloc_at _ _ _ _ rfl]; rfl⟩

theorem rd_z (w : World) (K : IntKind) (x : Nat) (e : TypeId) {z : Int} (h : z = (x : Int)) : Rd (w.alloc (.cells #[.int K z] e)) K (some ⟨w.heap.size, 0, none⟩) 1 (fun _ => x) := by
  rw [h]; exact rd_one w K x e

section
variable {P : Program} {w : World}

theorem run_app (base : Nat) (t ty e : TypeId) (i : TypeInfo) (z : Value) (bytes : Nat) (ht : P.underlying t = some (.slice e)) (hi : P.info? e = some i) (hz : i.zero = some z)
    (hsize : i.size = 1) (hby : i.bytes = bytes) (hzs : z.cells.size = 1)
    (K : IntKind) (v : Value) (n : Nat) (f : Nat → Nat) (hown : w.ownsRow base e 1 v n (vl K f n))
    (A : Option Addr) (m c : Nat) (h : Nat → Nat) (hr : Rd w K A m h) (h63 : n + m ≤ maxLen) (hbytes : (n + m) * bytes ≤ 140737488355328) (hbase : base ≤ w.heap.size) :
    ∃ v' w', (Builtin.append_ #[t, t] ty #[v, .slice A m c]).run P w = .ok v' w' ∧ w'.ownsRow base e 1 v' (n + m) (vl K (jn f n h) (n + m)) ∧ Below base w w' := by
  have hb0 : ∀ w' : World, w.grownBy w' v.ownBlock → Below base w w' := fun w' hg => (Below.refl base w).grown hg hbase (fun k hk => (hown.lt k hk).1)
  rcases A with _ | ad
  · have hm : m = 0 := by
      rcases Nat.eq_zero_or_pos m with h0 | h0
      · exact h0
      · obtain ⟨b, off, e, _⟩ := hr h0
        cases e
    subst hm
    have e1 : vl K (jn f n h) (n + 0) = vl K f n := vl_congr K fun i hi => jn_lo f h hi
    refine ⟨v, w, ?_, by rw [e1]; exact hown, Below.refl _ _⟩
    rcases hown.2 with ⟨rfl, rfl⟩ | ⟨g, cap, cur, rfl, _, _, hnc, _⟩
    · simp [Builtin.append_, run_underlying ht, sizeOf, typeInfo, hi, Builtin.lenOf, Builtin.firstCells]
    · simp [Builtin.append_, run_underlying ht, sizeOf, typeInfo, hi, Builtin.lenOf, Builtin.firstCells, hnc, storeCells]
  · have hcells : ∀ j u, (vl K h m)[j]? = some u → w.cell? (ad.add j) = some u := by
      intro j u hu
      have hj : j < m := by
        have := (List.getElem?_eq_some_iff.1 hu).1
        rwa [vl_length] at this
      obtain ⟨b, off, e1, _, hc⟩ := hr (by omega)
      injection e1 with e1
      subst e1
      rw [vl_at K h hj] at hu
      injection hu with hu
      subst hu
      have hadd : (⟨b, off, none⟩ : Addr).add j = ⟨b, off + j, none⟩ := by unfold Addr.add; split <;> simp_all
      rw [hadd]
      exact hc j hj
    obtain ⟨v', w', hrun, h2, h3, _⟩ := run_append_own_at (P := P) w base t ty e i z 1 bytes ht hi hz hsize hby hzs (by omega) v n _ hown ad m c (vl K h m) (by rw [vl_length, Nat.mul_one]) hcells (vl_one K h m) h63 hbytes hbase
    exact ⟨v', w', hrun, by rw [vl_append] at h2; exact h2, hb0 w' h3⟩

theorem wp_app {o : Oper} {a : Act} {R : Act → World → Prop} {Q : Exit → Act → World → Prop} (s x : Operand) (t : TypeId)
    (ho : o.op = .call { callee := .builtin .append, args := #[s, x], argTypes := #[t, t] })
    (base : Nat) (e : TypeId) (i : TypeInfo) (z : Value) (bytes : Nat) (ht : P.underlying t = some (.slice e)) (hi : P.info? e = some i) (hz : i.zero = some z)
    (hsize : i.size = 1) (hby : i.bytes = bytes) (hzs : z.cells.size = 1)
    (K : IntKind) (v : Value) (n : Nat) (f : Nat → Nat) (hs : a.eval s = v) (hown : w.ownsRow base e 1 v n (vl K f n))
    (A : Option Addr) (m c : Nat) (h : Nat → Nat) (hx : a.eval x = .slice A m c) (hr : Rd w K A m h) (h63 : n + m ≤ maxLen) (hbytes : (n + m) * bytes ≤ 140737488355328) (hbase : base ≤ w.heap.size)
    (k : ∀ v' w', w'.ownsRow base e 1 v' (n + m) (vl K (jn f n h) (n + m)) → Below base w w' → R (a.put o.dst v') w') : o.wp P a w R Q := by
  obtain ⟨v', w', hrun, h2, h3⟩ := run_app (P := P) base t o.type e i z bytes ht hi hz hsize hby hzs K v n f hown A m c h hr h63 hbytes hbase
  unfold Oper.wp execOp
  simp only [ho, resolve, invoke, builtin, Sem.run_bind, Sem.run_pure, Result.andThen_ok, List.map_toArray, List.map_cons, List.map_nil, hs, hx, hrun]
  exact k v' w' h2 h3

theorem wpList_app {ops : Array Oper} {rest : List Oper} {o : Oper} {a : Act} {Q : Exit → Act → World → Prop} (hgd : o.guard = none) (s x : Operand) (t : TypeId)
    (ho : o.op = .call { callee := .builtin .append, args := #[s, x], argTypes := #[t, t] })
    (base : Nat) (e : TypeId) (i : TypeInfo) (z : Value) (bytes : Nat) (ht : P.underlying t = some (.slice e)) (hi : P.info? e = some i) (hz : i.zero = some z)
    (hsize : i.size = 1) (hby : i.bytes = bytes) (hzs : z.cells.size = 1)
    (K : IntKind) (v : Value) (n : Nat) (f : Nat → Nat) (hs : a.eval s = v) (hown : w.ownsRow base e 1 v n (vl K f n))
    (A : Option Addr) (m c : Nat) (h : Nat → Nat) (hx : a.eval x = .slice A m c) (hr : Rd w K A m h) (h63 : n + m ≤ maxLen) (hbytes : (n + m) * bytes ≤ 140737488355328) (hbase : base ≤ w.heap.size)
    (k : ∀ v' w', w'.ownsRow base e 1 v' (n + m) (vl K (jn f n h) (n + m)) → Below base w w' → wpList P ops Q rest (a.put o.dst v') w') : wpList P ops Q (o :: rest) a w :=
  wpList_plain hgd fun _ hK => wp_app s x t ho base e i z bytes ht hi hz hsize hby hzs K v n f hs hown A m c h hx hr h63 hbytes hbase fun v' w' h2 h3 => hK _ _ (k v' w' h2 h3)

end
end Go.Proofs.YtljbnnpmnoejeaaGreatDoor.nn
namespace Go.Proofs.YtljbnnpmnoejeaaGreatDoor.nn
open Go.RowKit

theorem info_u32 : (Tryz.prog.info? 72).map (fun i => (i.zero, i.size, i.bytes)) = some (some (.int .u32 0), 1, 4) := by kernel_rfl

set_option maxHeartbeats 400000 in
theorem clone_any (A : Option Addr) (n c : Nat) (f : Nat → Nat) (w : World) (hA : Rd w .u32 A n f) (hreach : n * 4 ≤ 140737488355328) :
    Calls Tryz.prog 67 #[.slice A n c] w fun e w' => ∃ v, e = .returned v ∧ w'.ownsRow w.heap.size 72 1 v n (vl .u32 f n) ∧ Below w.heap.size w w' := by
  obtain ⟨i0, hi, hz0, hz1, hz2⟩ := info_parts info_u32
  have hn0 := fun (wx : World) => Lib.run_eql_slice_nil (P := Tryz.prog) wx 48 72 A n c 0 0 Tryz.underlying48
  rcases A with _ | ad
  · have hm : n = 0 := by
      rcases Nat.eq_zero_or_pos n with h0 | h0
      · exact h0
      · obtain ⟨b, off, e, _⟩ := hA h0
        cases e
    subst hm
    go_enter Tryz.func67, Tryz.ntmps67
    go_wp2
    go_ret
    exact ⟨_, rfl, World.ownsRow_nil _ _ _ _, Below.refl _ _⟩
  · go_enter Tryz.func67, Tryz.ntmps67
    go_wp2_with (at_builtin; refine wpList_app rfl (.tmp 5) (.tmp 6) _ rfl w.heap.size 72 i0 _ 4 Tryz.underlying48 hi hz0 hz1 hz2 rfl .u32 _ 0 f rfl (World.ownsRow_lit w #[] 0 (Nat.le_refl _) (by simp [maxLen]) rfl) (some ad) n c f rfl (hA.alloc _) ?c1 ?c2 ?c3 ?c4; rotate_left 3; intro v1 w1 hown1 hb1)
    case c1 => unfold maxLen; omega
    case c2 => omega
    case c3 => simp
    go_ret
    refine ⟨v1, rfl, ?_, ((Below.refl _ _).alloc (Nat.le_refl _) _).trans hb1⟩
    rw [jn_zero, Nat.zero_add] at hown1
    exact hown1
end Go.Proofs.YtljbnnpmnoejeaaGreatDoor.nn
namespace Go.Proofs.YtljbnnpmnoejeaaGreatDoor.nn
open Go.RowKit

/-- block g is just the cells cur of element type e, none frozen -/
def Bk (w : World) (g : Nat) (e : TypeId) (cur : Array Value) : Prop := w.heap[g]? = some (.cells cur e (0, 0))

/-- from place off on stand the limbs f -/
def Ints (cur : Array Value) (k : IntKind) (off n : Nat) (f : Nat → Nat) : Prop := ∀ i, i < n → cur[off + i]? = some (.int k (f i : Int))

/-- in block g, between off and off + n alone, something was written -/
structure Wrote (w w' : World) (g : Nat) (e : TypeId) (cur cur' : Array Value) (off n : Nat) : Prop where
  blk : Bk w' g e cur'
  size : cur'.size = cur.size
  out : ∀ i, i < off ∨ off + n ≤ i → cur'[i]? = cur[i]?
  grown : w.grownBy w' (some g)
  hsize : w'.heap.size = w.heap.size

section
variable {w w' w'' : World} {g : Nat} {e : TypeId} {cur cur' cur'' : Array Value} {off n m i : Nat} {k : IntKind} {f : Nat → Nat}

theorem Bk.lt (h : Bk w g e cur) : g < w.heap.size := (Array.getElem?_eq_some_iff.1 h).1
theorem Bk.cell (h : Bk w g e cur) (i : Nat) : w.cell? ⟨g, i, none⟩ = cur[i]? := cell_of_row w g i cur e (0, 0) h
theorem Bk.frozen (h : Bk w g e cur) (i : Nat) : w.frozen? ⟨g, i, none⟩ = false := by
  unfold Bk at h
  simp [World.frozen?, h]
theorem Bk.set_ (h : Bk w g e cur) (i : Nat) (u : Value) : Bk (w.setCell ⟨g, i, none⟩ u) g e (cur.setIfInBounds i u) := by
  unfold Bk at h ⊢
  simp [World.setCell, Array.getElem?_modify, h]
theorem Bk.drewN (h : Bk w g e cur) (j : Nat) : Bk (w.drewN j) g e cur := h
theorem Bk.below {B : Nat} (h : Bk w g e cur) (hb : Below B w w') (hg : g < B) : Bk w' g e cur := (hb.block g hg).trans h
theorem Bk.grown {row : Option Nat} (h : Bk w g e cur) (hb : w.grownBy w' row) (hg : some g ≠ row) : Bk w' g e cur := (hb.block g h.lt hg).trans h

theorem Ints.mono (h : Ints cur k off n f) (hm : m ≤ n) : Ints cur k off m f := fun i hi => h i (by omega)
theorem Ints.congr {f' : Nat → Nat} (h : Ints cur k off n f) (e : ∀ i, i < n → f i = f' i) : Ints cur k off n f' := fun i hi => by rw [← e i hi]; exact h i hi
theorem Ints.lt (h : Ints cur k off n f) (hi : i < n) : off + i < cur.size := (Array.getElem?_eq_some_iff.1 (h i hi)).1
theorem Ints.set_ (h : Ints cur k off n f) (i x : Nat) (hi : i < n) : Ints (cur.setIfInBounds (off + i) (.int k (x : Int))) k off n (upd f i x) := fun j hj => by
  rw [Array.getElem?_setIfInBounds]
  by_cases e : j = i
  · subst e; rw [if_pos rfl, if_pos (h.lt hi), upd_at]
  · rw [if_neg (by omega), upd_ne f e]; exact h j hj
theorem Ints.rd (h : Ints cur k off n f) (hb : Bk w g e cur) : Rd w k (some ⟨g, off, none⟩) n f := fun _ => ⟨g, off, rfl, hb.lt, fun i hi => (hb.cell _).trans (h i hi)⟩

theorem Wrote.refl (h : Bk w g e cur) (off n : Nat) : Wrote w w g e cur cur off n :=
  ⟨h, rfl, fun _ _ => rfl, ⟨rfl, rfl, rfl, Nat.le_refl _, fun _ _ _ => rfl⟩, rfl⟩
theorem Wrote.drewN (h : Wrote w w' g e cur cur' off n) (j : Nat) : Wrote w (w'.drewN j) g e cur cur' off n :=
  ⟨h.blk, h.size, h.out, ⟨h.grown.os, h.grown.tape, h.grown.output, h.grown.size, h.grown.block⟩, h.hsize⟩
theorem Wrote.set_ (h : Wrote w w' g e cur cur' off n) (i : Nat) (hi : i < n) (u : Value) : Wrote w (w'.setCell ⟨g, off + i, none⟩ u) g e cur (cur'.setIfInBounds (off + i) u) off n :=
  ⟨h.blk.set_ _ u, by rw [Array.size_setIfInBounds, h.size], fun j hj => by rw [Array.getElem?_setIfInBounds, if_neg (by omega)]; exact h.out j hj,
   ⟨h.grown.os, h.grown.tape, h.grown.output, by simpa [World.setCell] using h.grown.size, fun b hb hne => (Below.heap_setCell w' ⟨g, off + i, none⟩ u b (by rintro rfl; exact hne rfl)).trans (h.grown.block b hb hne)⟩,
   by simpa [World.setCell] using h.hsize⟩
theorem Wrote.trans (h : Wrote w w' g e cur cur' off n) (h' : Wrote w' w'' g e cur' cur'' off n) : Wrote w w'' g e cur cur'' off n :=
  ⟨h'.blk, h'.size.trans h.size, fun i hi => (h'.out i hi).trans (h.out i hi),
   ⟨h'.grown.os.trans h.grown.os, h'.grown.tape.trans h.grown.tape, h'.grown.output.trans h.grown.output, Nat.le_trans h.grown.size h'.grown.size,
    fun b hb hne => (h'.grown.block b (by have := h.hsize; omega) hne).trans (h.grown.block b hb hne)⟩, h'.hsize.trans h.hsize⟩
/-- a stretch within a stretch -/
theorem Wrote.wide (h : Wrote w w' g e cur cur' off n) {off' n' : Nat} (h1 : off' ≤ off) (h2 : off + n ≤ off' + n') : Wrote w w' g e cur cur' off' n' :=
  ⟨h.blk, h.size, fun i hi => h.out i (by omega), h.grown, h.hsize⟩
/-- a slice in another block reads as it did -/
theorem Rd.wrote {A : Option Addr} {l : Nat} {f : Nat → Nat} (h : Rd w k A l f) (hw : Wrote w w' g e cur cur' off n) (hne : ∀ b o, A = some ⟨b, o, none⟩ → 0 < l → b ≠ g) : Rd w' k A l f := fun hl => by
  obtain ⟨b, o, ea, hb, hc⟩ := h hl
  refine ⟨b, o, ea, by rw [hw.hsize]; exact hb, fun i hi => ?_⟩
  exact (World.cell?_of_block (w := w) (hw.grown.block b hb (fun e => hne b o ea hl (by injection e)))).trans (hc i hi)

/-- what the call owns, behind a call that wrote into it -/
theorem own_wrote {base : Nat} {l cap : Nat} {f : Nat → Nat} (ho : w.ownsRow base e 1 (.slice (some ⟨g, 0, none⟩) l cap) l (vl k f l)) :
    ∃ cur, Bk w g e cur ∧ Ints cur k 0 l f ∧ base ≤ g ∧ l ≤ cap ∧ cap ≤ maxLen ∧ cur.size = cap ∧
      ∀ (w' : World) cur' f', Wrote w w' g e cur cur' 0 l → Ints cur' k 0 l f' → w'.ownsRow base e 1 (.slice (some ⟨g, 0, none⟩) l cap) l (vl k f' l) := by
  have ho0 := ho
  rcases ho.2 with ⟨h, _⟩ | ⟨g', cap', cur, h, hb, hh, hl, hm, hs, ht⟩
  · cases h
  · simp only [Value.slice.injEq, Option.some.injEq, Addr.mk.injEq, and_true, true_and] at h
    obtain ⟨rfl, rfl⟩ := h
    have hs' : cur.size = cap := by omega
    refine ⟨cur, hh, fun i hi => ?_, hb, hl, hm, hs', fun w' cur' f' hw hi => ?_⟩
    · have h1 := ho0.cellAt i (by omega)
      rw [Bk.cell hh i] at h1
      rw [Nat.zero_add, h1]
      exact vl_at k f hi
    · refine ⟨by rw [vl_length]; omega, .inr ⟨g, cap, cur', rfl, hb, hw.blk, hl, hm, by rw [hw.size, hs], ?_⟩⟩
      apply List.ext_getElem?
      intro i
      rw [List.getElem?_take]
      by_cases h1 : i < l
      · rw [if_pos (by omega), vl_at k f' h1, Array.getElem?_toList]
        have := hi i h1
        rwa [Nat.zero_add] at this
      · rw [if_neg (by omega), List.getElem?_eq_none (by rw [vl_length]; omega)]
end

end Go.Proofs.YtljbnnpmnoejeaaGreatDoor.nn
namespace Go.Proofs.YtljbnnpmnoejeaaGreatDoor.nn
open Go.RowKit

/-- what holds when the first i limbs are added (m of h's), with the carry k -/
def AddRel (K : IntKind) (Bs : Nat) (w wr : World) (g : Nat) (e : TypeId) (cur : Array Value) (off n : Nat) (f h f' : Nat → Nat) (cur' : Array Value) (k i m : Nat) : Prop :=
  Wrote w wr g e cur cur' off n ∧ Ints cur' K off n f' ∧ Lt Bs f' n ∧ (∀ j, i ≤ j → j < n → f' j = f j) ∧
    sm Bs f' i + k * Bs ^ i = sm Bs f i + sm Bs h m

section
variable {K : IntKind} {Bs : Nat} {w wr : World} {g : Nat} {e : TypeId} {cur : Array Value} {off n : Nat} {f h f' : Nat → Nat} {cur' : Array Value} {k i m : Nat}

theorem carry_eq {a b c v k' Bs P : Nat} (hk : a + b + c = v + k' * Bs) : a * P + b * P + c * P = v * P + k' * (P * Bs) := by
  have e2 := congrArg (· * P) hk
  simp only [Nat.add_mul] at e2
  rw [Nat.mul_comm P Bs, ← Nat.mul_assoc]
  exact e2

theorem AddRel.step (H : AddRel K Bs w wr g e cur off n f h f' cur' k i i) (hi : i < n) (k' v : Nat) (hk : f' i + h i + k = v + k' * Bs) (hv : v < Bs) {z : Int} (hz : z = (v : Int)) :
    AddRel K Bs w (wr.setCell ⟨g, off + i, none⟩ (.int K z)) g e cur off n f h (upd f' i v) (cur'.setIfInBounds (off + i) (.int K (v : Int))) k' (i + 1) (i + 1) := by
  obtain ⟨h1, h2, h3, h4, h5⟩ := H
  rw [hz]
  refine ⟨h1.set_ i hi _, h2.set_ i _ hi, h3.upd hv, fun j ha hb => ?_, ?_⟩
  · rw [upd_ne f' (by omega)]; exact h4 j (by omega) hb
  · rw [sm_snoc, sm, sm, ← h4 i (Nat.le_refl _) hi, Nat.pow_succ]
    have := carry_eq (P := Bs ^ i) hk
    omega

/-- one more limb, of the greater number alone -/
theorem AddRel.more (H : AddRel K Bs w wr g e cur off n f h f' cur' k i m) (hi : i < n) (k' v : Nat) (hk : f' i + k = v + k' * Bs) (hv : v < Bs) {z : Int} (hz : z = (v : Int)) :
    AddRel K Bs w (wr.setCell ⟨g, off + i, none⟩ (.int K z)) g e cur off n f h (upd f' i v) (cur'.setIfInBounds (off + i) (.int K (v : Int))) k' (i + 1) m := by
  obtain ⟨h1, h2, h3, h4, h5⟩ := H
  rw [hz]
  refine ⟨h1.set_ i hi _, h2.set_ i _ hi, h3.upd hv, fun j ha hb => ?_, ?_⟩
  · rw [upd_ne f' (by omega)]; exact h4 j (by omega) hb
  · rw [sm_snoc, sm, ← h4 i (Nat.le_refl _) hi, Nat.pow_succ]
    have := carry_eq (a := f' i) (b := 0) (P := Bs ^ i) (by simpa using hk)
    omega

/-- the end: the limbs f' are the sum, but for the carry k -/
def AddEnd (K : IntKind) (Bs : Nat) (w w' : World) (g : Nat) (e : TypeId) (cur : Array Value) (off n : Nat) (f : Nat → Nat) (S k : Nat) : Prop :=
  ∃ (f' : Nat → Nat) (cur' : Array Value), Wrote w w' g e cur cur' off n ∧ Ints cur' K off n f' ∧ Lt Bs f' n ∧ sm Bs f' n + k * Bs ^ n = sm Bs f n + S

/-- where no carry is left the rest is as it was -/
theorem AddRel.done (H : AddRel K Bs w wr g e cur off n f h f' cur' k i m) (hi : i ≤ n) (he : i = n ∨ k = 0) : AddEnd K Bs w wr g e cur off n f (sm Bs h m) k := by
  obtain ⟨h1, h2, h3, h4, h5⟩ := H
  refine ⟨f', cur', h1, h2, h3, ?_⟩
  rcases he with rfl | rfl
  · exact h5
  · obtain ⟨j, rfl⟩ : ∃ j, n = i + j := ⟨n - i, by omega⟩
    rw [sm_split, sm_split Bs f, sm_congr Bs (f := fun t => f' (i + t)) (g := fun t => f (i + t)) (fun t ht => h4 (i + t) (by omega) (by omega))]
    simp only [Nat.zero_mul] at h5 ⊢
    omega
end
end Go.Proofs.YtljbnnpmnoejeaaGreatDoor.nn
namespace Go.Proofs.YtljbnnpmnoejeaaGreatDoor.nn
open Go.RowKit

/-- the base of wide limbs -/
def W64 : Nat := 18446744073709551616

theorem run_add64_at (x y : Nat) (w : World) : (callFunc 107 #[.int .u64 x, .int .u64 y, .int .u64 0]).run Tryz.prog w =
    .ok (.value (.tuple #[.int .u64 (((x + y) % W64 : Nat) : Int), .int .u64 (((x + y) / W64 : Nat) : Int)])) w := by
  rw [run_callFunc_extern Tryz.func107 (by kernel_rfl) (by kernel_rfl) (by kernel_rfl) (e := add64Entry) (by kernel_rfl), run_add64 x y 0 (by omega) (by omega) (by omega) (by omega)]
  simp only [Result.andThen, W64]
  congr 5 <;> omega

/-- what holds when i limbs are done, with the carry k -/
def MulRel (w wr : World) (g : Nat) (e : TypeId) (cur : Array Value) (off n : Nat) (f h : Nat → Nat) (F : Nat) (f' : Nat → Nat) (cur' : Array Value) (k i : Nat) : Prop :=
  Wrote w wr g e cur cur' off n ∧ Ints cur' .u64 off n f' ∧ Lt W64 f' n ∧ (∀ j, i ≤ j → j < n → f' j = f j) ∧ sm W64 f' i + k * W64 ^ i = sm W64 f i + F * sm W64 h i

theorem MulRel.step {w wr : World} {g : Nat} {e : TypeId} {cur : Array Value} {off n : Nat} {f h : Nat → Nat} {F : Nat} {f' : Nat → Nat} {cur' : Array Value} {k i : Nat} (H : MulRel w wr g e cur off n f h F f' cur' k i) (hi : i < n) (k' v : Nat)
    (hk : f' i + h i * F + k = v + k' * W64) (hv : v < W64) :
    MulRel w (wr.setCell ⟨g, off + i, none⟩ (.int .u64 (v : Int))) g e cur off n f h F (upd f' i v) (cur'.setIfInBounds (off + i) (.int .u64 (v : Int))) k' (i + 1) := by
  obtain ⟨h1, h2, h3, h4, h5⟩ := H
  refine ⟨h1.set_ i hi _, h2.set_ i _ hi, h3.upd hv, fun j ha hb => ?_, ?_⟩
  · rw [upd_ne f' (by omega)]; exact h4 j (by omega) hb
  · have e1 : sm W64 f (i + 1) = sm W64 f i + f i * W64 ^ i := rfl
    have e2 : sm W64 h (i + 1) = sm W64 h i + h i * W64 ^ i := rfl
    rw [sm_snoc, e1, e2, ← h4 i (Nat.le_refl _) hi, Nat.pow_succ W64 i, Nat.mul_add]
    have := carry_eq (P := W64 ^ i) hk
    have e3 : F * (h i * W64 ^ i) = h i * F * W64 ^ i := by rw [← Nat.mul_assoc, Nat.mul_comm F]
    rw [e3]
    omega

/-- the words of one round -/
theorem round_words {a x F k : Nat} (ha : a < W64) (hx : x < W64) (hF : F < W64) (hk : k < W64) :
    x * F / W64 + (x * F % W64 + k) / W64 < W64 ∧ x * F / W64 + (x * F % W64 + k) / W64 + (a + (x * F % W64 + k) % W64) / W64 < W64 ∧
      a + x * F + k = (a + (x * F % W64 + k) % W64) % W64 + (x * F / W64 + (x * F % W64 + k) / W64 + (a + (x * F % W64 + k) % W64) / W64) * W64 := by
  have hm : x * F ≤ (W64 - 1) * (W64 - 1) := Nat.mul_le_mul (by omega) (by omega)
  have hc : (W64 - 1) * (W64 - 1) + 2 * (W64 - 1) = W64 * W64 - 1 := by decide
  have h1 := Nat.div_add_mod (x * F) W64
  have h2 := Nat.div_add_mod (x * F % W64 + k) W64
  have h3 := Nat.div_add_mod (a + (x * F % W64 + k) % W64) W64
  generalize x * F = p at *
  generalize p / W64 = u at *
  generalize p % W64 = v at *
  generalize (v + k) / W64 = u1 at *
  generalize (v + k) % W64 = v1 at *
  generalize (a + v1) / W64 = u2 at *
  generalize (a + v1) % W64 = v2 at *
  simp only [W64] at *
  omega
set_option maxRecDepth 100000 in
set_option maxHeartbeats 1000000 in
theorem addTimes_any (g off n c : Nat) (e : TypeId) (cur : Array Value) (f : Nat → Nat) (B : Option Addr) (d : Nat) (h : Nat → Nat) (F : Nat) (w : World)
    (hb : Bk w g e cur) (hi : Ints cur .u64 off n f) (hB : Rd w .u64 B n h) (hne : ∀ b o, B = some ⟨b, o, none⟩ → 0 < n → b ≠ g) (lf : Lt W64 f n) (lh : Lt W64 h n) (lF : F < W64) (hn : n ≤ maxLen) :
    Calls Tryz.prog 211 #[.slice (some ⟨g, off, none⟩) n c, .slice B n d, .int .u64 F] w fun e' w' => ∃ k : Nat, e' = .returned (.int .u64 (k : Int)) ∧ k < W64 ∧ ∃ f' cur', MulRel w w' g e cur off n f h F f' cur' k n := by
  unfold maxLen at hn
  have LF := Lib.hid lF
  have LL := Lib.hid lf
  have LH := Lib.hid lh
  clear lF lf lh
  go_enter Tryz.func211, Tryz.ntmps211
  go_wp2
  go_loopw [7, 15] (fun s7 s15 wr => ∃ (k i : Nat) (f' : Nat → Nat) (cur' : Array Value), Hid (k < W64) ∧ i ≤ n ∧ s7 = .int .u64 (k : Int) ∧ s15 = .int .i64 i ∧ MulRel w wr g e cur off n f h F f' cur' k i) (fun _ s15 _ => n - (intOf s15).toNat)
  case atStart => exact ⟨0, 0, f, cur, Lib.hid (by decide), by omega, rfl, rfl, Wrote.refl hb off n, hi, LL.out, fun _ _ _ => rfl, by simp [sm]⟩
  case round =>
    obtain ⟨k, i, f', cur', hk, hin, rfl, rfl, hh⟩ := hrel
    by_cases hlt : i < n
    · have hx := (Bk.cell hh.1.blk (off + i)).trans (hh.2.1 i (by omega))
      have hxf := Bk.frozen hh.1.blk (off + i)
      obtain ⟨b, o, rfl, _, hcell⟩ := (hB.wrote hh.1 hne) (by omega)
      have hy := hcell i hlt
      have bx := hh.2.2.1 i hlt
      have by_ := LH.out i hlt
      obtain ⟨q1, q2, q3⟩ := round_words bx by_ LF.out hk.out
      have HM : ∀ W : World, Calls Tryz.prog 106 #[.int .u64 (h i : Nat), .int .u64 F] W fun e w' => e = .returned (.tuple #[.int .u64 ((h i * F / W64 : Nat) : Int), .int .u64 ((h i * F % W64 : Nat) : Int)]) ∧ W = w' := fun W =>
        (Go.Proofs.Tryz.bits_Mul64 (h i) F by_ LF.out W).mono fun e w' ⟨h1, h2⟩ => ⟨h1, h2.symm⟩
      have hA1 := fun W => run_add64_at (h i * F % W64) k W
      have hA2 := fun W => run_add64_at (f' i) ((h i * F % W64 + k) % W64) W
      obtain ⟨u, hu⟩ : ∃ u, h i * F / W64 = u := ⟨_, rfl⟩
      obtain ⟨v, hv⟩ : ∃ v, h i * F % W64 = v := ⟨_, rfl⟩
      simp only [hu, hv] at q1 q2 q3 HM
      simp only [hv] at hA1 hA2
      obtain ⟨u1, hu1⟩ : ∃ u1, (v + k) / W64 = u1 := ⟨_, rfl⟩
      obtain ⟨v1, hv1⟩ : ∃ v1, (v + k) % W64 = v1 := ⟨_, rfl⟩
      simp only [hu1, hv1] at q1 q2 q3 hA1 hA2
      obtain ⟨u2, hu2⟩ : ∃ u2, (f' i + v1) / W64 = u2 := ⟨_, rfl⟩
      obtain ⟨v2, hv2⟩ : ∃ v2, (f' i + v1) % W64 = v2 := ⟨_, rfl⟩
      simp only [hu2, hv2] at q2 q3 hA2
      have hv2l : Hid (v2 < W64) := Lib.hid (by rw [← hv2]; exact Nat.mod_lt _ (by decide))
      have HMM := Lib.hid HM
      have Q2 := Lib.hid q2
      have Q3 := Lib.hid q3
      have b1 : u + u1 ≤ 18446744073709551615 := by unfold W64 at q1; omega
      have b2 : u + u1 + u2 ≤ 18446744073709551615 := by unfold W64 at q2; omega
      clear hcell HM q1 q2 q3 hu hv hu1 hv1 hu2 hv2 bx by_
      go_wp2_with (go_at_call 106; refine (HMM.out _).mono ?_; rintro e w' ⟨rfl, rfl⟩)
      go_roundw
      case rel => exact ⟨u + u1 + u2, i + 1, _, _, Q2, by omega, congrArg (Value.int .u64) (by omega), by go_num, hh.step hlt _ v2 (by rw [← Q3.out]) hv2l.out⟩
      case measure => simp [intOf]; omega
    · obtain rfl : i = n := by omega
      go_wp2
      go_ret
      exact ⟨k, rfl, hk.out, f', cur', hh⟩
end Go.Proofs.YtljbnnpmnoejeaaGreatDoor.nn
namespace Go.Proofs.YtljbnnpmnoejeaaGreatDoor.nn
open Go.RowKit

set_option maxHeartbeats 400000 in
theorem addInto_any (g off n c : Nat) (e : TypeId) (cur : Array Value) (f : Nat → Nat) (B : Option Addr) (m d : Nat) (h : Nat → Nat) (w : World)
    (hb : Bk w g e cur) (hi : Ints cur .u32 off n f) (hB : Rd w .u32 B m h) (hne : ∀ b o, B = some ⟨b, o, none⟩ → 0 < m → b ≠ g) (hmn : m ≤ n) (lf : Lt (2 ^ 32) f n) (lh : Lt (2 ^ 32) h m) (hn : n ≤ maxLen) :
    Calls Tryz.prog 133 #[.slice (some ⟨g, off, none⟩) n c, .slice B m d] w fun e' w' => ∃ k : Nat, e' = .returned (.int .u32 (k : Int)) ∧ k ≤ 1 ∧ AddEnd .u32 (2 ^ 32) w w' g e cur off n f (sm (2 ^ 32) h m) k := by
  unfold maxLen at hn
  go_enter Tryz.func133, Tryz.ntmps133
  go_wp2
  go_loopw [5, 13] (fun s5 s13 wr => ∃ (k i : Nat) (f' : Nat → Nat) (cur' : Array Value), k ≤ 1 ∧ i ≤ m ∧ s5 = .int .u32 (k : Int) ∧ s13 = .int .i64 i ∧ AddRel .u32 (2 ^ 32) w wr g e cur off n f h f' cur' k i i) (fun _ s13 _ => m - (intOf s13).toNat)
  case atStart => exact ⟨0, 0, f, cur, by omega, by omega, rfl, rfl, Wrote.refl hb off n, hi, lf, fun _ _ _ => rfl, by simp [sm]⟩
  case round =>
    obtain ⟨k, i, f', cur', hk, him, rfl, rfl, hh⟩ := hrel
    by_cases hlt : i < m
    · have hx := (Bk.cell hh.1.blk (off + i)).trans (hh.2.1 i (by omega))
      have hxf := Bk.frozen hh.1.blk (off + i)
      obtain ⟨b, o, rfl, _, hcell⟩ := (hB.wrote hh.1 hne) (by omega)
      have hy := hcell i hlt
      have bx := hh.2.2.1 i (by omega)
      have by_ := lh i hlt
      clear hcell
      go_wp2
      all_goals
        go_roundw
        case rel =>
          first
            | exact ⟨1, i + 1, _, _, by omega, by omega, by go_num, by go_num, hh.step (by omega) 1 ((f' i + h i + k) % 4294967296) (by omega) (by omega) (by omega)⟩
            | exact ⟨0, i + 1, _, _, by omega, by omega, by go_num, by go_num, hh.step (by omega) 0 ((f' i + h i + k) % 4294967296) (by omega) (by omega) (by omega)⟩
        case measure => simp [intOf]; omega
    · obtain rfl : i = m := by omega
      clear hlt
      go_wp2
      go_loopw [5, 10] (fun s5 s10 wr => ∃ (k i' : Nat) (f' : Nat → Nat) (cur' : Array Value), k ≤ 1 ∧ i' ≤ n ∧ s5 = .int .u32 (k : Int) ∧ s10 = .int .i64 i' ∧ AddRel .u32 (2 ^ 32) w wr g e cur off n f h f' cur' k i' i) (fun _ s10 _ => n - (intOf s10).toNat)
      case atStart => exact ⟨k, i, f', cur', hk, hmn, rfl, rfl, hh⟩
      case round =>
        clear hh
        obtain ⟨k, i', f', cur', hk, him, rfl, rfl, hh⟩ := hrel
        by_cases hlt : i' < n
        · have hx := (Bk.cell hh.1.blk (off + i')).trans (hh.2.1 i' (by omega))
          have hxf := Bk.frozen hh.1.blk (off + i')
          have bx := hh.2.2.1 i' (by omega)
          rcases (by omega : k = 0 ∨ k = 1) with rfl | rfl
          · go_wp2
            go_ret
            exact ⟨0, rfl, by omega, hh.done him (.inr rfl)⟩
          · go_wp2
            · have hb : (((f' i' : Int) + 1) % 4294967296 != 0) = true := by assumption
              have hz := bne_iff_ne.1 hb
              go_roundw
              case rel => exact ⟨0, i' + 1, _, _, by omega, by omega, rfl, by go_num, hh.more hlt 0 ((f' i' + 1) % 4294967296) (by omega) (by omega) (by omega)⟩
              case measure => simp [intOf]; omega
            · have hb : (((f' i' : Int) + 1) % 4294967296 != 0) = false := by assumption
              have hz : ((f' i' : Int) + 1) % 4294967296 = 0 := by rw [bne_eq_false_iff_eq] at hb; exact hb
              go_roundw
              case rel => exact ⟨1, i' + 1, _, _, by omega, by omega, rfl, by go_num, hh.more hlt 1 ((f' i' + 1) % 4294967296) (by omega) (by omega) (by omega)⟩
              case measure => simp [intOf]; omega
        · obtain rfl : i' = n := by omega
          go_wp2
          go_ret
          exact ⟨k, rfl, hk, hh.done him (.inl rfl)⟩
end Go.Proofs.YtljbnnpmnoejeaaGreatDoor.nn
namespace Go.Proofs.YtljbnnpmnoejeaaGreatDoor.nn
open Go.RowKit

/-- f's first n limbs, 0 behind them -/
def pad (f : Nat → Nat) (n : Nat) : Nat → Nat := fun i => if i < n then f i else 0
theorem pad_sm (B : Nat) (f : Nat → Nat) {n m : Nat} (h : n ≤ m) : sm B (pad f n) m = sm B f n := by
  induction m with
  | zero =>
    obtain rfl : n = 0 := by omega
    rfl
  | succ m ih =>
    by_cases e : n = m + 1
    · subst e; exact sm_congr B fun i hi => by simp [pad, hi]
    · rw [sm, ih (by omega), pad, if_neg (by omega)]; simp
theorem pad_lt {B : Nat} (hB : 0 < B) {f : Nat → Nat} {n : Nat} (h : Lt B f n) (m : Nat) : Lt B (pad f n) m := fun i _ => by
  by_cases e : i < n
  · simp only [pad, if_pos e]; exact h i e
  · simp only [pad, if_neg e]; exact hB
theorem vl_pad_next (K : IntKind) (f : Nat → Nat) {n m : Nat} (h : n ≤ m) : vl K (jn (pad f n) m (fun _ => 0)) (m + 1) = vl K (pad f n) (m + 1) := vl_congr K fun i hi => by
  rw [jn_one _ _ _ i hi]
  by_cases e : i = m
  · subst e; rw [upd_at, pad, if_neg (by omega)]
  · rw [upd_ne _ e]

theorem Rd.old {w w' : World} {K : IntKind} {A : Option Addr} {n : Nat} {f : Nat → Nat} {base : Nat} (h : Rd w K A n f) (hb : Below base w w') (hlt : ∀ b o, A = some ⟨b, o, none⟩ → 0 < n → b < base) : Rd w' K A n f := fun hn => by
  obtain ⟨b, off, e, hs, hc⟩ := h hn
  exact ⟨b, off, e, Nat.lt_of_lt_of_le hs hb.size, fun i hi => (hb.cell (p := ⟨b, off + i, none⟩) (hlt b off e hn)).trans (hc i hi)⟩

set_option maxHeartbeats 400000 in
theorem addInto_nil (A B : Option Addr) (c d : Nat) (w : World) :
    Calls Tryz.prog 133 #[.slice A 0 c, .slice B 0 d] w fun e' w' => e' = .returned (.int .u32 0) ∧ w = w' := by
  go_enter Tryz.func133, Tryz.ntmps133
  go_wp2
  refine wp_loop_rounds 1 ?_
  rw [rounds_succ]
  go_wp2
  refine wp_loop_rounds 1 ?_
  rw [rounds_succ]
  go_wp2
  go_ret
  exact ⟨rfl, rfl⟩

/-- what plus leaves -/
def PlusEnd (base : Nat) (w w' : World) (v : Value) (N M : Nat) : Prop :=
  ∃ (n' : Nat) (f' : Nat → Nat), w'.ownsRow base 72 1 v n' (vl .u32 f' n') ∧ Below base w w' ∧ Lt (2 ^ 32) f' n' ∧ sm (2 ^ 32) f' n' = N ∧ n' ≤ M

set_option maxHeartbeats 1000000 in
theorem plus_any (base : Nat) (v : Value) (n : Nat) (f : Nat → Nat) (B : Option Addr) (m d : Nat) (h : Nat → Nat) (w : World) (hown : w.ownsRow base 72 1 v n (vl .u32 f n)) (hbase : base ≤ w.heap.size)
    (hB : Rd w .u32 B m h) (hlt : ∀ b o, B = some ⟨b, o, none⟩ → 0 < m → b < base) (lf : Lt (2 ^ 32) f n) (lh : Lt (2 ^ 32) h m) (hreach : (n + m + 1) * 4 ≤ 140737488355328) :
    Calls Tryz.prog 86 #[v, .slice B m d] w fun e w' => ∃ v', e = .returned v' ∧ PlusEnd base w w' v' (sm (2 ^ 32) f n + sm (2 ^ 32) h m) (max n m + 1) := by
  obtain ⟨i0, hi, hz0, hz1, hz2⟩ := info_parts info_u32
  have hown' : w.ownsRow base 72 1 v n (vl .u32 (pad f n) n) := by rw [vl_congr .u32 (g := f) (fun i hi => by simp [pad, hi])]; exact hown
  clear hown
  go_enter Tryz.func86, Tryz.ntmps86
  go_wp2
  go_loopw [0] (fun s wr => ∃ n' : Nat, n ≤ n' ∧ n' ≤ max n m ∧ wr.ownsRow base 72 1 s n' (vl .u32 (pad f n) n') ∧ Below base w wr) (fun s _ => m - (match s with | .slice _ l _ => l | _ => 0))
  case atStart => exact ⟨n, Nat.le_refl _, by omega, hown', Below.refl _ _⟩
  case round =>
    rename_i s0 wr
    obtain ⟨n', h1, h2, ho, hb⟩ := hrel
    obtain ⟨A, c, rfl, hnc, hcm, hr⟩ := Rd.of_own ho
    have hbs := hb.size
    unfold maxLen at hcm
    by_cases hl : n' < m
    · go_wp2_with (at_builtin; refine wpList_app rfl (.tmp 11) (.tmp 12) _ rfl base 72 i0 _ 4 Tryz.underlying48 hi hz0 hz1 hz2 rfl .u32 _ n' (pad f n) rfl (ho.alloc _) _ 1 1 (fun _ => 0) rfl (rd_one _ .u32 0 _) ?c1 ?c2 ?c3 ?c4; rotate_left 3; intro v1 w1 hown1 hb1)
      case c1 => unfold maxLen; omega
      case c2 => omega
      case c3 => simp; omega
      rw [vl_pad_next .u32 f h1] at hown1
      obtain ⟨A1, c1, rfl, _, _, _⟩ := Rd.of_own hown1
      go_roundw
      case rel => exact ⟨n' + 1, by omega, by omega, hown1, (hb.alloc (by omega) _).trans hb1⟩
      case measure => simp; omega
    · have hB1 := hB.old hb hlt
      rcases A with _ | ad
      · have hn0 : n' = 0 := by
          rcases Nat.eq_zero_or_pos n' with h0 | h0
          · exact h0
          · obtain ⟨b, off, e, _⟩ := hr h0
            cases e
        subst hn0
        obtain rfl : m = 0 := by omega
        obtain rfl : n = 0 := by omega
        go_wp2_with (go_at_call 133; refine (addInto_nil _ _ _ _ _).mono ?_; rintro e w' ⟨rfl, rfl⟩)
        go_ret
        exact ⟨_, rfl, 0, pad f 0, ho, hb, fun i hi => absurd hi (by omega), rfl, by omega⟩
      · obtain ⟨g, rfl⟩ : ∃ g, ad = ⟨g, 0, none⟩ := by
          rcases ho.2 with ⟨e, _⟩ | ⟨g, _, _, e, _⟩
          · cases e
          · injection e with e; injection e with e; exact ⟨g, e⟩
        obtain ⟨cur, hbk, hint, hbg, _, _, _, hfin⟩ := own_wrote ho
        have hne : ∀ b o, B = some ⟨b, o, none⟩ → 0 < m → b ≠ g := fun b o e h0 => by have := hlt b o e h0; omega
        have HF := Lib.hid hfin
        have HE := Lib.hid hne
        have hps := Lib.hid (pad_sm (2 ^ 32) f h1)
        clear hfin hne
        go_wp2_with fail
        refine (addInto_any g 0 n' c _ cur (pad f n) B m d h wr hbk hint hB1 HE.out (by omega) (pad_lt (by decide) lf n') lh (by unfold maxLen; omega)).mono ?_
        rintro e1 w1 ⟨k, rfl, hk, f', cur', hw, hi', lf', hv⟩
        have ho1 := HF.out w1 cur' f' hw hi'
        have hb1 : Below base w w1 := hb.grown hw.grown (by omega) (fun j hj => by injection hj with hj; omega)
        have hV := Lib.hid hv
        have hsz := hw.hsize
        have hzz : base ≤ w1.heap.size := by omega
        have HW := Lib.hid hw
        clear hw hv hsz HF HE
        rcases (by omega : k = 0 ∨ k = 1) with rfl | rfl
        · go_wp2
          go_ret
          refine ⟨_, rfl, n', f', ho1, hb1, lf', ?_, by omega⟩
          have := hV.out
          rw [hps.out] at this
          omega
        · go_wp2_with (at_builtin; refine wpList_app rfl (.tmp 19) (.tmp 21) _ rfl base 72 i0 _ 4 Tryz.underlying48 hi hz0 hz1 hz2 rfl .u32 _ n' f' rfl (ho1.alloc _) _ 1 1 (fun _ => 1) rfl (rd_one _ .u32 1 _) ?d1 ?d2 ?d3 ?d4; rotate_left 3; intro v2 w2 hown2 hb2)
          case d1 => unfold maxLen; omega
          case d2 => omega
          case d3 => simp; omega
          go_ret
          refine ⟨_, rfl, n' + 1, _, hown2, (hb1.alloc hzz _).trans hb2, lf'.jn (fun _ _ => by decide), ?_, by omega⟩
          have := hV.out
          rw [hps.out] at this
          rw [sm_jn]
          simp only [sm] at this ⊢
          omega
end Go.Proofs.YtljbnnpmnoejeaaGreatDoor.nn
namespace Go.Proofs.YtljbnnpmnoejeaaGreatDoor.nn
open Go.RowKit

theorem ret_sl {A : Option Addr} {n m c : Nat} (h : n = m) : Ending.returned (.slice A n c) = .returned (.slice A m c) := by rw [h]
theorem tr_last (f : Nat → Nat) {m : Nat} (h0 : 0 < m) (h : f (m - 1) = 0) : tr f (m - 1) = tr f m := by
  obtain ⟨j, rfl⟩ : ∃ j, m = j + 1 := ⟨m - 1, by omega⟩
  rw [Nat.add_sub_cancel] at h ⊢
  rw [tr_zero f h]
theorem tr_stop (f : Nat → Nat) {m : Nat} (h : m = 0 ∨ f (m - 1) ≠ 0) : tr f m = m := tr_of_trm f m h

set_option maxHeartbeats 400000 in
theorem trim_any (A : Option Addr) (n c : Nat) (f : Nat → Nat) (w : World) (hA : Rd w .u32 A n f) (hn : n ≤ c) (hc : c ≤ maxLen) :
    Calls Tryz.prog 68 #[.slice A n c] w fun e w' => e = .returned (.slice A (tr f n) c) ∧ w = w' := by
  unfold maxLen at hc
  go_enter Tryz.func68, Tryz.ntmps68
  go_wp2
  go_loop [0] (fun s => ∃ m : Nat, m ≤ n ∧ s = .slice A m c ∧ Hid (tr f m = tr f n)) (fun s => match s with | .slice _ m _ => m | _ => 0)
  case atStart => exact ⟨n, Nat.le_refl _, rfl, Lib.hid rfl⟩
  case round =>
    obtain ⟨m, hm, rfl, ht⟩ := hrel
    by_cases h0 : 0 < m
    · obtain ⟨b, off, rfl, _, hcell⟩ := hA (by omega)
      have hx := hcell (m - 1) (by omega)
      clear hcell
      by_cases hz : f (m - 1) = 0
      · have ht' := tr_last f h0 hz
        have H : Hid (tr f (m - 1) = tr f n) := Lib.hid (ht'.trans ht.out)
        rw [hz] at hx
        clear hz ht' ht
        go_wp2
        go_round
        case rel => exact ⟨m - 1, by omega, by go_num, H⟩
        case measure => simp; omega
      · have H := Lib.hid hz
        have hz' : 1 ≤ f (m - 1) := by omega
        clear hz
        go_wp2
        go_ret
        exact ⟨ret_sl ((tr_stop f (.inr H.out)).symm.trans ht.out), rfl⟩
    · obtain rfl : m = 0 := by omega
      go_wp2
      go_ret
      exact ⟨ret_sl ht.out, rfl⟩

end Go.Proofs.YtljbnnpmnoejeaaGreatDoor.nn
namespace Go.Proofs.YtljbnnpmnoejeaaGreatDoor.nn
open Go.RowKit

/-- a slice of slices of 32-bit limbs -/
def Rds (w : World) (A : Option Addr) (n : Nat) (AA : Nat → Option Addr) (L C : Nat → Nat) (F : Nat → Nat → Nat) : Prop :=
  0 < n → ∃ b off, A = some ⟨b, off, none⟩ ∧ b < w.heap.size ∧ ∀ i, i < n → w.cell? ⟨b, off + i, none⟩ = some (.slice (AA i) (L i) (C i)) ∧ L i ≤ C i ∧ C i ≤ maxLen ∧ Rd w .u32 (AA i) (L i) (F i)

theorem Rds.keep {w w' : World} {A : Option Addr} {n : Nat} {AA : Nat → Option Addr} {L C : Nat → Nat} {F : Nat → Nat → Nat} (h : Rds w A n AA L C F)
    (hs : w.heap.size ≤ w'.heap.size) (hk : ∀ b o, b < w.heap.size → w'.cell? ⟨b, o, none⟩ = w.cell? ⟨b, o, none⟩) : Rds w' A n AA L C F := fun hn => by
  obtain ⟨b, off, e, hb, hc⟩ := h hn
  exact ⟨b, off, e, by omega, fun i hi => ⟨(hk b _ hb).trans (hc i hi).1, (hc i hi).2.1, (hc i hi).2.2.1, (hc i hi).2.2.2.keep hs hk⟩⟩
theorem Rds.below {w w' : World} {A : Option Addr} {n : Nat} {AA : Nat → Option Addr} {L C : Nat → Nat} {F : Nat → Nat → Nat} (h : Rds w A n AA L C F)
    (hb : Below w.heap.size w w') : Rds w' A n AA L C F :=
  h.keep hb.size fun b o hlt => hb.cell (p := ⟨b, o, none⟩) hlt

/-- is one of the first n too long? -/
def lg (L : Nat → Nat) (F : Nat → Nat → Nat) : Nat → Bool
  | 0 => false
  | n + 1 => lg L F n || decide (4096 < tr (F n) (L n))

theorem lg_yes {L : Nat → Nat} {F : Nat → Nat → Nat} {n : Nat} (i : Nat) (hi : i < n) (h : 4096 < tr (F i) (L i)) : lg L F n = true := by
  induction n with
  | zero => omega
  | succ n ih =>
    rw [lg]
    by_cases e : i = n
    · subst e; simp [h]
    · rw [ih (by omega)]; rfl
theorem lg_next {L : Nat → Nat} {F : Nat → Nat → Nat} {i : Nat} (h : lg L F i = false) (hi : ¬ 4096 < tr (F i) (L i)) : lg L F (i + 1) = false := by
  rw [lg, h]; simp; omega
theorem lg_no {L : Nat → Nat} {F : Nat → Nat → Nat} {n : Nat} (h : lg L F n = false) : ∀ i, i < n → tr (F i) (L i) ≤ 4096 := fun i hi => by
  rcases Nat.lt_or_ge 4096 (tr (F i) (L i)) with h1 | h1
  · rw [lg_yes i hi h1] at h; cases h
  · exact h1
theorem ret_bool {a b : Bool} (h : a = b) : Ending.returned (.bool a) = .returned (.bool b) := by rw [h]

set_option maxHeartbeats 400000 in
theorem long_any (A : Option Addr) (n c : Nat) (AA : Nat → Option Addr) (L C : Nat → Nat) (F : Nat → Nat → Nat) (w : World) (hA : Rds w A n AA L C F) (hn : n ≤ c) (hc : c ≤ maxLen) :
    Calls Tryz.prog 65 #[.slice A n c] w fun e w' => e = .returned (.bool (lg L F n)) ∧ w = w' := by
  unfold maxLen at hc
  go_enter Tryz.func65, Tryz.ntmps65
  go_wp2
  go_loop [7] (fun s => ∃ i : Nat, i ≤ n ∧ s = .int .i64 i ∧ Hid (lg L F i = false)) (fun s => n - (intOf s).toNat)
  case atStart => exact ⟨0, Nat.zero_le _, rfl, Lib.hid rfl⟩
  case round =>
    obtain ⟨i, hi, rfl, hl⟩ := hrel
    by_cases hlt : i < n
    · obtain ⟨b, off, rfl, _, hcell⟩ := hA (by omega)
      obtain ⟨hx, hlc, hcm, hr⟩ := hcell i hlt
      clear hcell
      have hle := tr_le (F i) (L i)
      unfold maxLen at hcm
      by_cases hz : 4096 < tr (F i) (L i)
      · have H := Lib.hid (lg_yes (L := L) (F := F) (n := n) i hlt hz)
        go_wp2_with (go_at_call 68; refine (trim_any _ _ _ _ _ hr hlc (by unfold maxLen; omega)).mono ?_; rintro e w' ⟨rfl, rfl⟩)
        go_ret
        exact ⟨ret_bool H.out.symm, rfl⟩
      · have H := Lib.hid (lg_next hl.out hz)
        go_wp2_with (go_at_call 68; refine (trim_any _ _ _ _ _ hr hlc (by unfold maxLen; omega)).mono ?_; rintro e w' ⟨rfl, rfl⟩)
        go_round
        case rel => exact ⟨i + 1, by omega, by go_num, H⟩
        case measure => simp [intOf]; omega
    · obtain rfl : i = n := by omega
      go_wp2
      go_ret
      exact ⟨ret_bool hl.out.symm, rfl⟩

end Go.Proofs.YtljbnnpmnoejeaaGreatDoor.nn
namespace Go.Proofs.YtljbnnpmnoejeaaGreatDoor.nn
open Go.RowKit

/-- the slice at A of length n reads as the trimmed number R -/
structure Num (w : World) (A : Option Addr) (n c : Nat) (f : Nat → Nat) (R : Nat) : Prop where
  le : n ≤ c
  cap : c ≤ maxLen
  rd : Rd w .u32 A n f
  lt : Lt (2 ^ 32) f n
  trm : Trm f n
  val : sm (2 ^ 32) f n = R

/-- the greatest number that fits, and one -/
def pw (k : Nat) : Nat := (2 ^ 32) ^ k
def big : Nat := pw 4096
theorem pw_mono {a b : Nat} (h : a ≤ b) : pw a ≤ pw b := Nat.pow_le_pow_right (Nat.two_pow_pos 32) h
theorem big_le {n : Nat} (h : 4096 ≤ n) : big ≤ pw n := pw_mono h
theorem le_big {n : Nat} (h : n ≤ 4096) : pw n ≤ big := pw_mono h
theorem trm_long {f : Nat → Nat} {n : Nat} (h : Trm f n) (hl : 4096 < n) : big ≤ sm (2 ^ 32) f n := by
  obtain ⟨j, rfl⟩ : ∃ j, n = j + 1 := ⟨n - 1, by omega⟩
  rcases h with h | h
  · omega
  · have h1 := sm_ge (B := 2 ^ 32) (f := f) (n := j) (by simpa using h)
    exact Nat.le_trans (big_le (by omega)) h1
theorem trm_short {f : Nat → Nat} {n : Nat} (lf : Lt (2 ^ 32) f n) (hl : n ≤ 4096) : sm (2 ^ 32) f n < big := by
  exact Nat.lt_of_lt_of_le (sm_lt lf) (le_big hl)
/-- too long, or not, by the value -/
theorem long_iff {f : Nat → Nat} {n : Nat} (lf : Lt (2 ^ 32) f n) : 4096 < tr f n ↔ big ≤ sm (2 ^ 32) f n := by
  rw [← sm_tr]
  constructor
  · exact trm_long (tr_trm f n)
  · intro h
    rcases Nat.lt_or_ge 4096 (tr f n) with h1 | h1
    · exact h1
    · have := trm_short (lf.mono (tr_le f n)) h1; omega

/-- an answer, and the number of its error: nothing beside an error -/
def Res (w w' : World) (e : Ending) (R er : Nat) : Prop :=
  ∃ A n c f, e = .returned (.tuple #[.slice A n c, .int .i64 (er : Int)]) ∧ Num w' A n c f R ∧ Below w.heap.size w w'
theorem num_nil (w : World) : Num w none 0 0 (fun _ => 0) 0 := ⟨Nat.le_refl _, by simp [maxLen], Rd.none_, fun _ h => absurd h (by omega), .inl rfl, rfl⟩

theorem rds_one (w : World) (A : Option Addr) (n c : Nat) (f : Nat → Nat) (e : TypeId) (hA : Rd w .u32 A n f) (hn : n ≤ c) (hc : c ≤ maxLen) :
    Rds (w.alloc (.cells #[.slice A n c] e)) (some ⟨w.heap.size, 0, none⟩) 1 (fun _ => A) (fun _ => n) (fun _ => c) (fun _ => f) := fun _ =>
  ⟨w.heap.size, 0, rfl, by simp, fun i hi => by
    obtain rfl : i = 0 := by omega
    refine ⟨?_, hn, hc, hA.alloc _⟩
    rw [World.cell?_alloc_at _ _ _ _ rfl]; rfl⟩

theorem long_one (w : World) (A : Option Addr) (n c : Nat) (f : Nat → Nat) (e : TypeId) (hA : Rd w .u32 A n f) (hn : n ≤ c) (hc : c ≤ maxLen) (b : Bool) (hb : decide (4096 < tr f n) = b) :
    Calls Tryz.prog 65 #[.slice (some ⟨w.heap.size, 0, none⟩) 1 1] (w.alloc (.cells #[.slice A n c] e)) fun e' w' => e' = .returned (.bool b) ∧ w.alloc (.cells #[.slice A n c] e) = w' := by
  have h := long_any _ 1 1 _ _ _ _ _ (rds_one w A n c f e hA hn hc) (Nat.le_refl _) (by simp [maxLen])
  have e1 : lg (fun _ => n) (fun _ => f) 1 = b := by simp only [lg, Bool.false_or]; exact hb
  rw [e1] at h
  exact h

/-- two errors alike: long or fits -/
def fitR (N : Nat) : Nat := if N < big then N else 0
def fitE (N : Nat) : Nat := if N < big then 0 else 2
theorem fitR_lt {N : Nat} (h : N < big) : fitR N = N := if_pos h
theorem fitE_lt {N : Nat} (h : N < big) : fitE N = 0 := if_pos h
theorem fitR_ge {N : Nat} (h : ¬ N < big) : fitR N = 0 := if_neg h
theorem fitE_ge {N : Nat} (h : ¬ N < big) : fitE N = 2 := if_neg h

set_option maxHeartbeats 400000 in
theorem bounded_any (A : Option Addr) (n c : Nat) (f : Nat → Nat) (w : World) (hA : Rd w .u32 A n f) (hn : n ≤ c) (hc : c ≤ maxLen) (lf : Lt (2 ^ 32) f n) :
    Calls Tryz.prog 87 #[.slice A n c] w fun e w' => Res w w' e (fitR (sm (2 ^ 32) f n)) (fitE (sm (2 ^ 32) f n)) := by
  have hle := tr_le f n
  have hil := long_iff lf
  unfold maxLen at hc
  by_cases hl : 4096 < tr f n
  · have H := Lib.hid (show ¬ sm (2 ^ 32) f n < big by have := hil.1 hl; omega)
    have hd := Lib.hid (decide_eq_true hl)
    clear hil
    go_enter Tryz.func87, Tryz.ntmps87
    go_wp2_with (go_at_call 65; refine (long_one _ _ _ _ _ _ hA hn (by unfold maxLen; omega) true hd.out).mono ?_; rintro e w' ⟨rfl, rfl⟩)
    go_ret2
    rw [fitR_ge H.out, fitE_ge H.out]
    exact ⟨none, 0, 0, _, rfl, num_nil _, (Below.refl _ _).alloc (Nat.le_refl _) _⟩
  · have H := Lib.hid (show sm (2 ^ 32) f n < big by
      rcases Nat.lt_or_ge (sm (2 ^ 32) f n) big with h | h
      · exact h
      · exact absurd (hil.2 h) hl)
    have hd := Lib.hid (decide_eq_false hl)
    clear hil
    go_enter Tryz.func87, Tryz.ntmps87
    go_wp2_with (first
      | (go_at_call 65; refine (long_one _ _ _ _ _ _ hA hn (by unfold maxLen; omega) false hd.out).mono ?_; rintro e w' ⟨rfl, rfl⟩)
      | (go_at_call 68; refine (trim_any _ _ _ _ _ (hA.alloc _) hn (by unfold maxLen; omega)).mono ?_; rintro e w' ⟨rfl, rfl⟩))
    go_ret2
    rw [fitR_lt H.out, fitE_lt H.out]
    exact ⟨A, tr f n, c, f, rfl, ⟨by omega, by unfold maxLen; omega, (hA.alloc _).mono hle, lf.mono hle, tr_trm _ _, sm_tr _ _ _⟩, (Below.refl _ _).alloc (Nat.le_refl _) _⟩
/-- the sum of the first i parts -/
def tot (L : Nat → Nat) (F : Nat → Nat → Nat) : Nat → Nat
  | 0 => 0
  | i + 1 => tot L F i + sm (2 ^ 32) (F i) (L i)

/-- what Add answers: too long comes first -/
def addR (n : Nat) (f : Nat → Nat) (m : Nat) (L : Nat → Nat) (F : Nat → Nat → Nat) : Nat :=
  if 4096 < tr f n ∨ lg L F m = true then 0 else fitR (sm (2 ^ 32) f n + tot L F m)
def addE (n : Nat) (f : Nat → Nat) (m : Nat) (L : Nat → Nat) (F : Nat → Nat → Nat) : Nat :=
  if 4096 < tr f n ∨ lg L F m = true then 2 else fitE (sm (2 ^ 32) f n + tot L F m)

/-- what holds at the head of Add's loop -/
def AddLoop (old base : Nat) (w0 wr : World) (s : Value) (i n : Nat) (f : Nat → Nat) (L : Nat → Nat) (F : Nat → Nat → Nat) : Prop :=
  ∃ (n' : Nat) (f' : Nat → Nat), wr.ownsRow base 72 1 s n' (vl .u32 f' n') ∧ Below old w0 wr ∧ base ≤ wr.heap.size ∧ Lt (2 ^ 32) f' n' ∧ sm (2 ^ 32) f' n' = sm (2 ^ 32) f n + tot L F i ∧ n' ≤ 4096 + i

theorem AddLoop.below {old base : Nat} {w0 wr : World} {s : Value} {i n : Nat} {f : Nat → Nat} {L : Nat → Nat} {F : Nat → Nat → Nat} (h : AddLoop old base w0 wr s i n f L F) : Below old w0 wr := by
  obtain ⟨_, _, _, h, _⟩ := h
  exact h

set_option maxHeartbeats 1000000 in
theorem add_any (A : Option Addr) (n c : Nat) (f : Nat → Nat) (B : Option Addr) (m d : Nat) (AA : Nat → Option Addr) (L C : Nat → Nat) (F : Nat → Nat → Nat) (w : World)
    (hA : Rd w .u32 A n f) (hn : n ≤ c) (hc : c ≤ maxLen) (lf : Lt (2 ^ 32) f n) (hB : Rds w B m AA L C F) (hm : m ≤ d) (hd : d ≤ maxLen) (lF : ∀ i, i < m → Lt (2 ^ 32) (F i) (L i)) (hreach : m * 24 ≤ 140737488355328) :
    Calls Tryz.prog 48 #[.slice A n c, .slice B m d] w fun e w' => Res w w' e (addR n f m L F) (addE n f m L F) := by
  have hle := tr_le f n
  unfold maxLen at hc hd
  by_cases hl : 4096 < tr f n
  · have hd' := Lib.hid (decide_eq_true hl)
    have H1 : Hid (addR n f m L F = 0) := if_pos (.inl hl)
    have H2 : Hid (addE n f m L F = 2) := if_pos (.inl hl)
    go_enter Tryz.func48, Tryz.ntmps48
    go_wp2_with (go_at_call 65; refine (long_one _ _ _ _ _ _ hA hn (by unfold maxLen; omega) true hd'.out).mono ?_; rintro e w' ⟨rfl, rfl⟩)
    go_ret2
    rw [H1.out, H2.out]
    exact ⟨none, 0, 0, _, rfl, num_nil _, (Below.refl _ _).alloc (Nat.le_refl _) _⟩
  · have hd' := Lib.hid (decide_eq_false hl)
    by_cases hl2 : lg L F m = true
    · have H1 : Hid (addR n f m L F = 0) := if_pos (.inr hl2)
      have H2 : Hid (addE n f m L F = 2) := if_pos (.inr hl2)
      have hB1 := hB.below (w' := w.alloc (.cells #[.slice A n c] 48)) ((Below.refl _ _).alloc (Nat.le_refl _) _)
      have h2 := long_any _ _ d _ _ _ _ _ hB1 hm (by unfold maxLen; omega)
      rw [hl2] at h2
      have h2' := Lib.hid h2
      clear h2 hl2
      go_enter Tryz.func48, Tryz.ntmps48
      go_wp2_with (first
        | (go_at_call_of 65 (Value.slice (some ⟨w.heap.size, 0, none⟩) 1 1); refine (long_one _ _ _ _ _ _ hA hn (by unfold maxLen; omega) false hd'.out).mono ?_; rintro e w' ⟨rfl, rfl⟩)
        | (go_at_call 65; refine h2'.out.mono ?_; rintro e w' ⟨rfl, rfl⟩))
      go_ret2
      rw [H1.out, H2.out]
      exact ⟨none, 0, 0, _, rfl, num_nil _, (Below.refl _ _).alloc (Nat.le_refl _) _⟩
    · have hl2' : lg L F m = false := by cases h : lg L F m <;> simp_all
      have hno : ¬ (4096 < tr f n ∨ lg L F m = true) := by rintro (h | h) <;> contradiction
      have H1 : Hid (addR n f m L F = fitR (sm (2 ^ 32) f n + tot L F m)) := if_neg hno
      have H2 : Hid (addE n f m L F = fitE (sm (2 ^ 32) f n + tot L F m)) := if_neg hno
      have hpart := Lib.hid (lg_no hl2')
      have hB1 := hB.below (w' := w.alloc (.cells #[.slice A n c] 48)) ((Below.refl _ _).alloc (Nat.le_refl _) _)
      have h2 := long_any _ _ d _ _ _ _ _ hB1 hm (by unfold maxLen; omega)
      rw [hl2'] at h2
      have h2' := Lib.hid h2
      have hs0 := Lib.hid (sm_tr (2 ^ 32) f n)
      have HL := Lib.hid lF
      clear h2 hl2 hl2' hno lF
      go_enter Tryz.func48, Tryz.ntmps48
      go_wp2_with (first
        | (go_at_call_of 65 (Value.slice (some ⟨w.heap.size, 0, none⟩) 1 1); refine (long_one _ _ _ _ _ _ hA hn (by unfold maxLen; omega) false hd'.out).mono ?_; rintro e w' ⟨rfl, rfl⟩)
        | (go_at_call 65; refine h2'.out.mono ?_; rintro e w' ⟨rfl, rfl⟩)
        | (go_at_call 68; refine (trim_any _ _ _ _ _ (hA.alloc _) hn (by unfold maxLen; omega)).mono ?_; rintro e w' ⟨rfl, rfl⟩)
        | (go_at_call 67; refine (clone_any _ _ _ f _ ((hA.alloc _).mono hle) (by omega)).mono ?_; rintro e w2 ⟨v2, rfl, hown2, hb2⟩))
      have ez : (w.alloc (.cells #[.slice A n c] 48)).heap.size = w.heap.size + 1 := by simp
      rw [ez] at hown2 hb2
      have hb0 : Below w.heap.size w w2 := ((Below.refl _ _).alloc (Nat.le_refl _) _).trans (hb2.mono (by omega))
      have hz2 : w.heap.size + 1 ≤ w2.heap.size := by have := hb2.size; rw [ez] at this; exact this
      clear ez hb2 h2' hB1
      go_loopw [6, 21] (fun s6 s21 wr => ∃ i : Nat, i ≤ m ∧ s21 = .int .i64 i ∧ AddLoop w.heap.size (w.heap.size + 1) w wr s6 i n f L F) (fun _ s21 _ => m - (intOf s21).toNat)
      case atStart => exact ⟨0, Nat.zero_le _, rfl, tr f n, f, hown2, hb0, hz2, lf.mono hle, by simpa [tot] using hs0.out, by omega⟩
      case round =>
        clear hb0 hown2 hz2
        obtain ⟨i, hi, rfl, hh⟩ := hrel
        by_cases hlt : i < m
        · have hB2 := hB.below hh.below
          obtain ⟨b, off, rfl, hbl, hcell⟩ := hB2 (by omega)
          obtain ⟨hx, hlc, hcm, hr⟩ := hcell i hlt
          clear hcell
          have hle2 := tr_le (F i) (L i)
          have hp := hpart.out i hlt
          have hli := HL.out i hlt
          have hold : ∀ b o, AA i = some ⟨b, o, none⟩ → 0 < tr (F i) (L i) → b < w.heap.size + 1 := fun b o e h0 => by
            obtain ⟨b0, off0, _, _, hc0⟩ := hB (by omega)
            obtain ⟨_, _, _, hr0⟩ := hc0 i hlt
            obtain ⟨b1, o1, e1, hb1, _⟩ := hr0 (by omega)
            rw [e] at e1
            injection e1 with e1
            injection e1 with e1
            omega
          have HO := Lib.hid hold
          unfold maxLen at hcm
          clear hold
          obtain ⟨n', f', ho, hbb, hzz, lf', hv, hn'⟩ := hh
          have HV := Lib.hid hv
          clear hv
          go_wp2_with (first
            | (go_at_call 68; refine (trim_any _ _ _ _ _ hr hlc (by unfold maxLen; omega)).mono ?_; rintro e w' ⟨rfl, rfl⟩)
            | (go_at_call 86; refine (plus_any (w.heap.size + 1) _ n' f' _ _ _ (F i) _ ho hzz (hr.mono hle2) HO.out lf' (hli.mono hle2) (by omega)).mono ?_; rintro e w3 ⟨v3, rfl, hend⟩))
          obtain ⟨n3, f3, ho3, hb3, lf3, hv3, hn3⟩ := hend
          go_roundw
          case rel => exact ⟨i + 1, by omega, by go_num, n3, f3, ho3, hbb.trans (hb3.mono (by omega)), Nat.le_trans hzz hb3.size, lf3, by rw [hv3, HV.out, sm_tr, tot]; omega, by omega⟩
          case measure => simp [intOf]; omega
        · obtain rfl : i = m := by omega
          obtain ⟨n', f', ho, hbb, hzz, lf', hv, hn'⟩ := hh
          obtain ⟨A', c', rfl, hnc', hcm', hr'⟩ := Rd.of_own ho
          have hbd := bounded_any A' n' c' f' _ hr' hnc' hcm' lf'
          rw [hv] at hbd
          have HBD := Lib.hid hbd
          clear hbd hv
          go_wp2_with (go_at_call 87; refine HBD.out.mono ?_; rintro e w3 ⟨A3, n3, c3, f3, rfl, hnum, hb3⟩)
          go_ret2
          rw [H1.out, H2.out]
          exact ⟨A3, n3, c3, f3, rfl, hnum, hbb.trans (hb3.mono hbb.size)⟩
end Go.Proofs.YtljbnnpmnoejeaaGreatDoor.nn
namespace Go.Proofs.YtljbnnpmnoejeaaGreatDoor.nn
open Go.RowKit

theorem hsz (w : World) (o : Obj) : (w.alloc o).heap.size = w.heap.size + 1 := by simp
end Go.Proofs.YtljbnnpmnoejeaaGreatDoor.nn
namespace Go.Proofs.YtljbnnpmnoejeaaGreatDoor.nn
open Go.RowKit

/-- how two numbers compare -/
def cm (a b : Nat) : Int := if a < b then -1 else if a = b then 0 else 1
theorem cm_lt {a b : Nat} (h : a < b) : cm a b = -1 := by simp [cm, h]
theorem cm_gt {a b : Nat} (h : b < a) : cm a b = 1 := by rw [cm, if_neg (by omega), if_neg (by omega)]
theorem cm_eq {a b : Nat} (h : a = b) : cm a b = 0 := by rw [cm, if_neg (by omega), if_pos h]
theorem dr3 (w : World) (a b c : Nat) : ∃ j, ((w.drewN a).drewN b).drewN c = w.drewN j := ⟨a + b + c, by rw [World.drewN_drewN, World.drewN_drewN, Nat.add_assoc]⟩
theorem ret_int {k : IntKind} {a b : Int} (h : a = b) : Ending.returned (.int k a) = .returned (.int k b) := by rw [h]

set_option maxHeartbeats 400000 in
theorem compare_any (A B : Option Addr) (n m c d : Nat) (f g : Nat → Nat) (w : World) (hA : Rd w .u32 A n f) (hB : Rd w .u32 B m g)
    (lf : Lt (2 ^ 32) f n) (lg : Lt (2 ^ 32) g m) (tf : Trm f n) (tg : Trm g m) (hn : n ≤ maxLen) (hm : m ≤ maxLen) :
    Calls Tryz.prog 108 #[.slice A n c, .slice B m d] w fun e w' => e = .returned (.int .i64 (cm (sm (2 ^ 32) f n) (sm (2 ^ 32) g m))) ∧ ∃ j, w' = w.drewN j := by
  unfold maxLen at hn hm
  rcases Nat.lt_trichotomy n m with h | h | h
  · have H := Lib.hid (cm_lt (sm_len (by decide) lf tg h))
    clear tf tg lf lg hA hB
    go_enter Tryz.func108, Tryz.ntmps108
    go_wp2
    go_ret
    exact ⟨ret_int H.out.symm, 0, rfl⟩
  · subst h
    clear tf tg
    have lf' := Lib.hid lf
    have lg' := Lib.hid lg
    clear lf lg
    go_enter Tryz.func108, Tryz.ntmps108
    go_wp2
    go_loopw [5] (fun s wr => ∃ t : Nat, t ≤ n ∧ s = .int .i64 ((t : Int) - 1) ∧ Hid (∀ i, t ≤ i → i < n → f i = g i) ∧ ∃ j, wr = w.drewN j) (fun s _ => (intOf s + 1).toNat)
    case atStart => exact ⟨n, Nat.le_refl _, rfl, Lib.hid (fun i h1 h2 => absurd h1 (by omega)), 0, rfl⟩
    case round =>
      obtain ⟨t, ht, rfl, hs, j, rfl⟩ := hrel
      by_cases h0 : 0 < t
      · obtain ⟨b, off, rfl, _, hcell⟩ := hA (by omega)
        have hx := hcell (t - 1) (by omega)
        obtain ⟨b', off', rfl, _, hcell'⟩ := hB (by omega)
        have hy := hcell' (t - 1) (by omega)
        clear hcell hcell' hA hB
        rcases Nat.lt_trichotomy (f (t - 1)) (g (t - 1)) with h | h | h
        · have H := Lib.hid (cm_lt (sm_top lf'.out (by omega) (fun i h1 h2 => hs.out i (by omega) h2) h))
          have hb : ((f (t - 1) : Int) != (g (t - 1) : Int)) = true := by rw [bne_iff_ne]; omega
          go_wp2
          go_quiet (fail)
          go_wp2
          go_quiet (fail)
          go_wp2
          go_ret
          exact ⟨ret_int H.out.symm, dr3 _ _ _ _⟩
        · have H : Hid (∀ i, t - 1 ≤ i → i < n → f i = g i) := Lib.hid (fun i h1 h2 => by
            by_cases e : i = t - 1
            · rw [e]; exact h
            · exact hs.out i (by omega) h2)
          rw [← h] at hy
          clear h
          go_wp2
          go_quiet (fail)
          go_wp2
          go_roundw
          case rel => exact ⟨t - 1, by omega, by go_num, H, _, rfl⟩
          case measure => simp [intOf]; omega
        · have H := Lib.hid (cm_gt (sm_top lg'.out (by omega) (fun i h1 h2 => (hs.out i (by omega) h2).symm) h))
          have hb : ((f (t - 1) : Int) != (g (t - 1) : Int)) = true := by rw [bne_iff_ne]; omega
          go_wp2
          go_quiet (fail)
          go_wp2
          go_quiet (fail)
          go_wp2
          go_ret
          exact ⟨ret_int H.out.symm, dr3 _ _ _ _⟩
      · obtain rfl : t = 0 := by omega
        have H := Lib.hid (cm_eq (sm_congr (2 ^ 32) (fun i hi => hs.out i (by omega) hi)))
        go_wp2
        go_ret
        exact ⟨ret_int H.out.symm, _, rfl⟩
  · have H := Lib.hid (cm_gt (sm_len (by decide) lg tf h))
    clear tf tg lf lg hA hB
    go_enter Tryz.func108, Tryz.ntmps108
    go_wp2
    go_ret
    exact ⟨ret_int H.out.symm, 0, rfl⟩

set_option maxHeartbeats 400000 in
theorem Cmp_any (A B : Option Addr) (n m c d : Nat) (f g : Nat → Nat) (w : World) (hA : Rd w .u32 A n f) (hB : Rd w .u32 B m g)
    (lf : Lt (2 ^ 32) f n) (lg : Lt (2 ^ 32) g m) (hnc : n ≤ c) (hmd : m ≤ d) (hc : c ≤ maxLen) (hd : d ≤ maxLen) :
    Calls Tryz.prog 66 #[.slice A n c, .slice B m d] w fun e w' => e = .returned (.int .i64 (cm (sm (2 ^ 32) f n) (sm (2 ^ 32) g m))) ∧ ∃ j, w' = w.drewN j := by
  have h1 := tr_le f n
  have h2 := tr_le g m
  have H := compare_any A B (tr f n) (tr g m) c d f g w (hA.mono h1) (hB.mono h2) (lf.mono h1) (lg.mono h2) (tr_trm _ _) (tr_trm _ _) (by omega) (by omega)
  rw [sm_tr, sm_tr] at H
  have H' := Lib.hid H
  clear H
  unfold maxLen at hc hd
  go_enter Tryz.func66, Tryz.ntmps66
  go_wp2_with (first
    | (go_at_call_of 68 (Value.slice A n c); refine (trim_any _ _ _ _ _ hA hnc (by unfold maxLen; omega)).mono ?_; rintro e w' ⟨rfl, rfl⟩)
    | (go_at_call_of 68 (Value.slice B m d); refine (trim_any _ _ _ _ _ hB hmd (by unfold maxLen; omega)).mono ?_; rintro e w' ⟨rfl, rfl⟩)
    | (go_at_call 108; refine H'.out.mono ?_; rintro e w' ⟨rfl, j, rfl⟩))
  go_ret
  exact ⟨rfl, j, rfl⟩

end Go.Proofs.YtljbnnpmnoejeaaGreatDoor.nn
namespace Go.Proofs.YtljbnnpmnoejeaaGreatDoor.nn
open Go.RowKit

set_option maxRecDepth 100000 in
set_option maxHeartbeats 400000 in
theorem rtrim_any (A : Option Addr) (n c : Nat) (f : Nat → Nat) (w : World) (hA : Rd w .u32 A n f) (hn : n ≤ c) (hreach : n * 4 ≤ 140737488355328) :
    Calls Tryz.prog 79 #[.slice A n c] w fun e w' => ∃ v, e = .returned v ∧ w'.ownsRow w.heap.size 72 1 v (tr f n) (vl .u32 f (tr f n)) ∧ Below w.heap.size w w' := by
  obtain ⟨i0, hi, hz0, hz1, hz2⟩ := info_parts info_u32
  have hle := tr_le f n
  go_enter Tryz.func79, Tryz.ntmps79
  go_wp2
  go_loop [3] (fun s => ∃ m : Nat, m ≤ n ∧ s = .int .i64 m ∧ Hid (tr f m = tr f n)) (fun s => (intOf s).toNat)
  case atStart => exact ⟨n, Nat.le_refl _, rfl, Lib.hid rfl⟩
  case round =>
    obtain ⟨m, hm, rfl, ht⟩ := hrel
    have fin : (tr f m = m) → ∀ v1 w1, w1.ownsRow w.heap.size 72 1 v1 (0 + m) (vl .u32 (jn f 0 f) (0 + m)) → Below w.heap.size (w.alloc (.cells #[] 72)) w1 →
        w1.ownsRow w.heap.size 72 1 v1 (tr f n) (vl .u32 f (tr f n)) ∧ Below w.heap.size w w1 := fun e v1 w1 h1 h2 => by
      rw [jn_zero, Nat.zero_add] at h1
      rw [← ht.out, e]
      exact ⟨h1, ((Below.refl _ _).alloc (Nat.le_refl _) _).trans h2⟩
    have FIN := Lib.hid fin
    clear fin
    by_cases h0 : 0 < m
    · obtain ⟨b, off, eA, hb, hcell⟩ := hA (by omega)
      have hx := hcell (m - 1) (by omega)
      clear hcell
      by_cases hz : f (m - 1) = 0
      · have ht' := tr_last f h0 hz
        have H : Hid (tr f (m - 1) = tr f n) := Lib.hid (ht'.trans ht.out)
        rw [hz] at hx
        subst eA
        clear hz ht' ht
        go_wp2
        go_round
        case rel => exact ⟨m - 1, by omega, by go_num, H⟩
        case measure => simp [intOf]; omega
      · have H := Lib.hid (tr_stop f (.inr hz))
        have hz' : 1 ≤ f (m - 1) := by omega
        subst eA
        clear hz
        go_wp2_with (at_builtin; refine wpList_app rfl (.tmp 18) (.tmp 21) _ rfl w.heap.size 72 i0 _ 4 Tryz.underlying48 hi hz0 hz1 hz2 rfl .u32 _ 0 f rfl (World.ownsRow_lit w #[] 0 (Nat.le_refl _) (by simp [maxLen]) rfl) _ m c f rfl ((hA.mono hm).alloc _) ?c1 ?c2 ?c3 ?c4; rotate_left 3; intro v1 w1 hown1 hb1)
        case c1 => unfold maxLen; omega
        case c2 => omega
        go_ret
        exact ⟨v1, rfl, FIN.out H.out v1 w1 hown1 hb1⟩
    · obtain rfl : m = 0 := by omega
      go_wp2_with (at_builtin; refine wpList_app rfl (.tmp 18) (.tmp 21) _ rfl w.heap.size 72 i0 _ 4 Tryz.underlying48 hi hz0 hz1 hz2 rfl .u32 _ 0 f rfl (World.ownsRow_lit w #[] 0 (Nat.le_refl _) (by simp [maxLen]) rfl) _ 0 c f rfl Rd.none_ ?d1 ?d2 ?d3 ?d4; rotate_left 3; intro v1 w1 hown1 hb1)
      go_ret
      exact ⟨v1, rfl, FIN.out rfl v1 w1 hown1 hb1⟩

set_option maxHeartbeats 400000 in
theorem at_any (A : Option Addr) (n c i : Nat) (f : Nat → Nat) (w : World) (hA : Rd w .u32 A n f) (lf : Lt (2 ^ 32) f n) (hn : n ≤ maxLen) (hi : i ≤ maxLen) :
    Calls Tryz.prog 78 #[.slice A n c, .int .i64 i] w fun e w' => e = .returned (.int .u64 (pad f n i : Nat)) ∧ w = w' := by
  unfold maxLen at hn hi
  by_cases h : i < n
  · obtain ⟨b, off, rfl, hb, hcell⟩ := hA (by omega)
    have hx := hcell i h
    have bx := lf i h
    have e : Hid (pad f n i = f i) := if_pos h
    clear hcell
    go_enter Tryz.func78, Tryz.ntmps78
    go_wp2
    go_ret
    exact ⟨ret_int (by rw [e.out]), rfl⟩
  · have e : Hid (pad f n i = 0) := if_neg h
    go_enter Tryz.func78, Tryz.ntmps78
    go_wp2
    go_ret
    exact ⟨ret_int (by rw [e.out]; rfl), rfl⟩
end Go.Proofs.YtljbnnpmnoejeaaGreatDoor.nn
namespace Go.Proofs.YtljbnnpmnoejeaaGreatDoor.nn
open Go.RowKit

/-- the sum reads as a trimmed number -/
theorem own_num {base : Nat} {w : World} {v : Value} {n : Nat} {f : Nat → Nat} (ho : w.ownsRow base 72 1 v n (vl .u32 f n)) (lf : Lt (2 ^ 32) f n) (tf : Trm f n) :
    ∃ A c, v = .slice A n c ∧ Num w A n c f (sm (2 ^ 32) f n) := by
  obtain ⟨A, c, e, h1, h2, h3⟩ := Rd.of_own ho
  exact ⟨A, c, e, h1, h2, h3, lf, tf, rfl⟩

/-- one number is the answer, of M limbs at most -/
def One (w w' : World) (e : Ending) (R M : Nat) : Prop :=
  ∃ A n c f, e = .returned (.slice A n c) ∧ Num w' A n c f R ∧ n ≤ M ∧ Below w.heap.size w w'

theorem One.mk_ {w w1 w' : World} {v : Value} {n M R : Nat} {f : Nat → Nat} {base : Nat} (ho : w'.ownsRow base 72 1 v (tr f n) (vl .u32 f (tr f n))) (lf : Lt (2 ^ 32) f n) (hv : sm (2 ^ 32) f n = R) (hM : n ≤ M)
    (hb1 : Below w.heap.size w w1) (hb : Below w1.heap.size w1 w') : One w w' (.returned v) R M := by
  have hle := tr_le f n
  obtain ⟨A, c, rfl, hn⟩ := own_num ho (lf.mono hle) (tr_trm f n)
  rw [sm_tr, hv] at hn
  exact ⟨A, _, c, f, rfl, hn, by omega, hb1.trans (hb.mono hb1.size)⟩

/-- what holds at the head of sum's loop -/
def SumRel (base : Nat) (w0 wr : World) (s : Value) (i k : Nat) (F : Nat → Nat) (G : Nat → Nat) : Prop :=
  ∃ f' : Nat → Nat, wr.ownsRow base 72 1 s i (vl .u32 f' i) ∧ Below base w0 wr ∧ base ≤ wr.heap.size ∧ Lt (2 ^ 32) f' i ∧ k ≤ 1 ∧ sm (2 ^ 32) f' i + k * (2 ^ 32) ^ i = sm (2 ^ 32) F i + sm (2 ^ 32) G i

theorem pow_s (B i : Nat) : B ^ (i + 1) = B ^ i * B := Nat.pow_succ B i

theorem SumRel.step {base : Nat} {w0 wr w1 : World} {v : Value} {i k : Nat} {F G f' : Nat → Nat} (o : Obj) (hF : F i < 2 ^ 32) (hG : G i < 2 ^ 32)
    (h2 : Below base w0 wr) (h3 : base ≤ wr.heap.size) (h4 : Lt (2 ^ 32) f' i) (h5 : k ≤ 1) (h6 : sm (2 ^ 32) f' i + k * (2 ^ 32) ^ i = sm (2 ^ 32) F i + sm (2 ^ 32) G i)
    (ho : w1.ownsRow base 72 1 v (i + 1) (vl .u32 (jn f' i (fun _ => (k + F i + G i) % 4294967296)) (i + 1))) (hb : Below base (wr.alloc o) w1) :
    SumRel base w0 w1 v (i + 1) ((k + F i + G i) / 4294967296) F G := by
  have hb1 := (h2.alloc h3 o).trans hb
  have hs := hb.size
  rw [hsz] at hs
  refine ⟨_, ho, hb1, by omega, h4.jn (m := 1) (fun _ _ => Nat.mod_lt _ (by decide)), by omega, ?_⟩
  have e1 : sm (2 ^ 32) (fun _ => (k + F i + G i) % 4294967296) 1 = (k + F i + G i) % 4294967296 := by simp [sm]
  rw [sm_jn, e1]
  simp only [sm]
  rw [pow_s (2 ^ 32) i]
  have e := carry_eq (P := (2 ^ 32) ^ i) (Bs := 2 ^ 32) (a := F i) (b := G i) (c := k) (v := (k + F i + G i) % 4294967296) (k' := (k + F i + G i) / 4294967296) (by omega)
  omega

/-- no carry is left at the end -/
theorem sum_end {F G f f' g : Nat → Nat} {n m k : Nat} (hf : sm (2 ^ 32) f n < (2 ^ 32) ^ n) (hg : sm (2 ^ 32) g m < (2 ^ 32) ^ m) (h1 : sm (2 ^ 32) F (max n m + 1) = sm (2 ^ 32) f n) (h2 : sm (2 ^ 32) G (max n m + 1) = sm (2 ^ 32) g m)
    (h : sm (2 ^ 32) f' (max n m + 1) + k * (2 ^ 32) ^ (max n m + 1) = sm (2 ^ 32) F (max n m + 1) + sm (2 ^ 32) G (max n m + 1)) : sm (2 ^ 32) f' (max n m + 1) = sm (2 ^ 32) f n + sm (2 ^ 32) g m := by
  rw [h1, h2] at h
  have e1 : (2 ^ 32) ^ n ≤ (2 ^ 32) ^ (max n m) := Nat.pow_le_pow_right (by decide) (by omega)
  have e2 : (2 ^ 32) ^ m ≤ (2 ^ 32) ^ (max n m) := Nat.pow_le_pow_right (by decide) (by omega)
  rw [pow_s (2 ^ 32) (max n m)] at h
  rcases k with _ | k
  · simpa using h
  · exfalso
    have e3 : (2 ^ 32) ^ (max n m) * 2 ^ 32 ≤ (k + 1) * ((2 ^ 32) ^ (max n m) * 2 ^ 32) := Nat.le_mul_of_pos_left _ (by omega)
    omega

set_option maxRecDepth 100000 in
set_option maxHeartbeats 1000000 in
theorem rsum_any (A B : Option Addr) (n m c d : Nat) (f g : Nat → Nat) (w : World) (hA : Rd w .u32 A n f) (hB : Rd w .u32 B m g) (lf : Lt (2 ^ 32) f n) (lg : Lt (2 ^ 32) g m)
    (hn : (n + 1) * 4 ≤ 140737488355328) (hm : (m + 1) * 4 ≤ 140737488355328) :
    Calls Tryz.prog 41 #[.slice A n c, .slice B m d] w fun e w' => One w w' e (sm (2 ^ 32) f n + sm (2 ^ 32) g m) (max n m + 1) := by
  obtain ⟨i0, hi, hz0, hz1, hz2⟩ := info_parts info_u32
  have lF := pad_lt (by decide : 0 < 2 ^ 32) lf (max n m + 1)
  have lG := pad_lt (by decide : 0 < 2 ^ 32) lg (max n m + 1)
  have HF := Lib.hid lF
  have HG := Lib.hid lG
  have s1 := Lib.hid (pad_sm (2 ^ 32) f (by omega : n ≤ max n m + 1))
  have s2 := Lib.hid (pad_sm (2 ^ 32) g (by omega : m ≤ max n m + 1))
  have s3 := Lib.hid (sm_lt lf)
  have s4 := Lib.hid (sm_lt lg)
  clear lF lG
  go_enter Tryz.func41, Tryz.ntmps41
  go_wp2
  go_loopw [5, 6, 7] (fun s5 s6 s7 wr => ∃ i k : Nat, i ≤ max n m + 1 ∧ k ≤ 1 ∧ s7 = .int .i64 i ∧ s6 = .int .u64 k ∧ SumRel w.heap.size w wr s5 i k (pad f n) (pad g m)) (fun _ _ s7 _ => max n m + 1 - (intOf s7).toNat)
  case atStart => exact ⟨0, 0, Nat.zero_le _, by omega, rfl, rfl, fun _ => 0, World.ownsRow_nil _ _ _ _, Below.refl _ _, Nat.le_refl _, fun _ h => absurd h (by omega), by omega, by simp [sm]⟩
  case round =>
    obtain ⟨i, k, hi', hk, rfl, rfl, hh⟩ := hrel
    by_cases hlt : i ≤ max n m
    · have bF := HF.out i (by omega)
      have bG := HG.out i (by omega)
      obtain ⟨f', h1, h2, h3, h4, h5, h6⟩ := hh
      have hA1 := hA.below h2
      have hB1 := hB.below h2
      have hz := Lib.hid (show ((k : Int) + (pad f n i : Int) + (pad g m i : Int)) % 4294967296 = (((k + pad f n i + pad g m i) % 4294967296 : Nat) : Int) by omega)
      have H6 := Lib.hid h6
      clear h6
      go_wp2_with (first
        | (go_at_call_of 78 (Value.slice A n c); refine (at_any _ _ _ _ f _ hA1 lf (by unfold maxLen; omega) (by unfold maxLen; omega)).mono ?_; rintro e w' ⟨rfl, rfl⟩)
        | (go_at_call_of 78 (Value.slice B m d); refine (at_any _ _ _ _ g _ hB1 lg (by unfold maxLen; omega) (by unfold maxLen; omega)).mono ?_; rintro e w' ⟨rfl, rfl⟩)
        | (at_builtin; refine wpList_app rfl (.tmp 26) (.tmp 29) _ rfl w.heap.size 72 i0 _ 4 Tryz.underlying48 hi hz0 hz1 hz2 rfl .u32 _ i f' rfl (h1.alloc _) _ 1 1 (fun _ => (k + pad f n i + pad g m i) % 4294967296) rfl (rd_z _ .u32 _ _ hz.out) (by unfold maxLen; omega) (by omega) (by rw [hsz]; omega) ?_; intro v1 w1 hown1 hb1))
      go_roundw
      case rel => exact ⟨i + 1, (k + pad f n i + pad g m i) / 4294967296, by omega, by omega, by go_num, congrArg (Value.int .u64) (by omega), SumRel.step _ bF bG h2 h3 h4 h5 H6.out hown1 hb1⟩
      case measure => simp [intOf]; omega
    · obtain rfl : i = max n m + 1 := by omega
      obtain ⟨f', h1, h2, h3, h4, h5, h6⟩ := hh
      obtain ⟨A1, c1, rfl, hc1, hm1, hr1⟩ := Rd.of_own h1
      have hle := tr_le f' (max n m + 1)
      have hv := sum_end s3.out s4.out s1.out s2.out h6
      have HV := Lib.hid hv
      clear h6 hv
      go_wp2_with (go_at_call 79; refine (rtrim_any _ _ _ f' _ hr1 hc1 (by omega)).mono ?_; rintro e w2 ⟨v2, rfl, hown2, hb2⟩)
      all_goals
        go_ret
        exact One.mk_ hown2 h4 HV.out (Nat.le_refl _) h2 hb2
end Go.Proofs.YtljbnnpmnoejeaaGreatDoor.nn
namespace Go.Proofs.YtljbnnpmnoejeaaGreatDoor.nn
open Go.RowKit

set_option maxRecDepth 100000 in
set_option maxHeartbeats 400000 in
theorem rlong_any (A : Option Addr) (n c : Nat) (AA : Nat → Option Addr) (L C : Nat → Nat) (F : Nat → Nat → Nat) (w : World) (hA : Rds w A n AA L C F) (hn : n ≤ maxLen) (hL : ∀ i, i < n → L i * 4 ≤ 140737488351232) :
    Calls Tryz.prog 80 #[.slice A n c] w fun e w' => e = .returned (.bool (lg L F n)) ∧ Below w.heap.size w w' := by
  unfold maxLen at hn
  have HL := Lib.hid hL
  clear hL
  go_enter Tryz.func80, Tryz.ntmps80
  go_wp2
  go_loopw [3] (fun s wr => ∃ i : Nat, i ≤ n ∧ s = .int .i64 i ∧ Hid (lg L F i = false) ∧ Below w.heap.size w wr) (fun s _ => n - (intOf s).toNat)
  case atStart => exact ⟨0, Nat.zero_le _, rfl, Lib.hid rfl, Below.refl _ _⟩
  case round =>
    obtain ⟨i, hi, rfl, hl, hb⟩ := hrel
    by_cases hlt : i < n
    · obtain ⟨b, off, rfl, _, hcell⟩ := (hA.below hb) (by omega)
      obtain ⟨hx, hlc, hcm, hr⟩ := hcell i hlt
      have hreach := HL.out i hlt
      clear hcell
      have hle := tr_le (F i) (L i)
      unfold maxLen at hcm
      by_cases hz : 4096 < tr (F i) (L i)
      · have H := Lib.hid (lg_yes (L := L) (F := F) (n := n) i hlt hz)
        go_wp2_with (go_at_call 79; refine (rtrim_any _ _ _ _ _ hr hlc (by omega)).mono ?_; rintro e w2 ⟨v2, rfl, hown2, hb2⟩; obtain ⟨A2, c2, rfl, _, _, _⟩ := Rd.of_own hown2)
        go_ret
        exact ⟨ret_bool H.out.symm, hb.trans (hb2.mono hb.size)⟩
      · have H := Lib.hid (lg_next hl.out hz)
        go_wp2_with (go_at_call 79; refine (rtrim_any _ _ _ _ _ hr hlc (by omega)).mono ?_; rintro e w2 ⟨v2, rfl, hown2, hb2⟩; obtain ⟨A2, c2, rfl, _, _, _⟩ := Rd.of_own hown2)
        go_roundw
        case rel => exact ⟨i + 1, by omega, by go_num, H, hb.trans (hb2.mono hb.size)⟩
        case measure => simp [intOf]; omega
    · obtain rfl : i = n := by omega
      go_wp2
      go_ret
      exact ⟨ret_bool hl.out.symm, hb⟩

/-- what holds at the head of the loop of the document's Add: the sum of the first i of the list -/
def RAddRel (w0 wr : World) (s : Value) (i : Nat) (L : Nat → Nat) (F : Nat → Nat → Nat) : Prop :=
  ∃ A n c f, s = .slice A n c ∧ Num wr A n c f (tot L F i) ∧ Below w0.heap.size w0 wr

/-- what the document's Add answers -/
def radR (n : Nat) (L : Nat → Nat) (F : Nat → Nat → Nat) : Nat := if lg L F n = true then 0 else fitR (tot L F n)
def radE (n : Nat) (L : Nat → Nat) (F : Nat → Nat → Nat) : Nat := if lg L F n = true then 2 else fitE (tot L F n)

/-- so long as nothing is too long the sum has so many limbs -/
theorem tot_lt {L : Nat → Nat} {F : Nat → Nat → Nat} {n : Nat} (hl : lg L F n = false) (lF : ∀ i, i < n → Lt (2 ^ 32) (F i) (L i)) : ∀ i, i ≤ n → tot L F i ≤ i * big := by
  intro i
  induction i with
  | zero => intro _; simp [tot]
  | succ i ih =>
    intro hi
    have h1 := ih (by omega)
    have h2 := lg_no hl i (by omega)
    have h3 := trm_short ((lF i (by omega)).mono (tr_le (F i) (L i))) h2
    rw [sm_tr] at h3
    rw [tot, Nat.add_mul]
    omega

theorem pw_s (k : Nat) : pw (k + 1) = pw k * 2 ^ 32 := pow_s (2 ^ 32) k
theorem pw_pos (k : Nat) : 0 < pw k := Nat.pow_pos (Nat.two_pow_pos 32)

theorem big_eq : big = pw 4096 := rfl

theorem num_len {w : World} {A : Option Addr} {n c : Nat} {f : Nat → Nat} {R k : Nat} (h : Num w A n c f R) (hR : R ≤ k * big) (hk : k < 2 ^ 32 * 2 ^ 32) : n ≤ 4098 := by
  rcases Nat.lt_or_ge 4098 n with h1 | h1
  · exfalso
    obtain ⟨_, _, _, _, tf, hv⟩ := h
    obtain ⟨j, rfl⟩ : ∃ j, n = j + 1 := ⟨n - 1, by omega⟩
    rcases tf with tf | tf
    · omega
    · have h2 : pw j ≤ sm (2 ^ 32) f (j + 1) := sm_ge (B := 2 ^ 32) (f := f) (n := j) (by simpa using tf)
      obtain ⟨a, ha⟩ : ∃ a, a = 4096 := ⟨_, rfl⟩
      have h3 : pw (a + 1 + 1) ≤ pw j := pw_mono (by omega)
      rw [pw_s, pw_s, ha, ← big_eq] at h3
      have h6 : 0 < big := by rw [big_eq]; exact pw_pos _
      have h5 : (k + 1) * big ≤ 2 ^ 32 * 2 ^ 32 * big := Nat.mul_le_mul_right _ hk
      rw [Nat.add_mul, Nat.mul_comm (2 ^ 32 * 2 ^ 32) big, ← Nat.mul_assoc] at h5
      generalize big = q at h3 h5 h6 hR
      omega
  · exact h1

set_option maxRecDepth 100000 in
set_option maxHeartbeats 1000000 in
theorem radd_any (A : Option Addr) (n c : Nat) (AA : Nat → Option Addr) (L C : Nat → Nat) (F : Nat → Nat → Nat) (w : World) (hA : Rds w A n AA L C F) (hn : n * 24 ≤ 140737488355328) (hL : ∀ i, i < n → L i * 4 ≤ 140737488351232)
    (lF : ∀ i, i < n → Lt (2 ^ 32) (F i) (L i)) :
    Calls Tryz.prog 52 #[.slice A n c] w fun e w' => Res w w' e (radR n L F) (radE n L F) := by
  by_cases hl : lg L F n = true
  · have h := rlong_any A n c AA L C F w hA (by unfold maxLen; omega) hL
    rw [hl] at h
    have H := Lib.hid h
    have H1 : Hid (radR n L F = 0) := if_pos hl
    have H2 : Hid (radE n L F = 2) := if_pos hl
    clear h hl
    go_enter Tryz.func52, Tryz.ntmps52
    go_wp2_with (go_at_call 80; refine H.out.mono ?_; rintro e w2 ⟨rfl, hb2⟩)
    go_ret2
    rw [H1.out, H2.out]
    exact ⟨none, 0, 0, _, rfl, num_nil _, hb2⟩
  · have hl' : lg L F n = false := by cases h : lg L F n <;> simp_all
    have h := rlong_any A n c AA L C F w hA (by unfold maxLen; omega) hL
    rw [hl'] at h
    have H := Lib.hid h
    have H1 : Hid (radR n L F = fitR (tot L F n)) := if_neg hl
    have H2 : Hid (radE n L F = fitE (tot L F n)) := if_neg hl
    have HT := Lib.hid (tot_lt hl' lF)
    have HF := Lib.hid lF
    have HL := Lib.hid hL
    clear h hl hl' hL lF
    go_enter Tryz.func52, Tryz.ntmps52
    go_wp2_with (go_at_call 80; refine H.out.mono ?_; rintro e w2 ⟨rfl, hb2⟩)
    go_loopw [4, 5] (fun s4 s5 wr => ∃ i : Nat, i ≤ n ∧ s5 = .int .i64 i ∧ RAddRel w wr s4 i L F) (fun _ s5 _ => n - (intOf s5).toNat)
    case atStart => exact ⟨0, Nat.zero_le _, rfl, none, 0, 0, _, rfl, num_nil _, hb2⟩
    case round =>
      clear hb2
      obtain ⟨i, hi, rfl, A1, n1, c1, f1, rfl, hnum, hb⟩ := hrel
      by_cases hlt : i < n
      · obtain ⟨b, off, rfl, _, hcell⟩ := (hA.below hb) (by omega)
        obtain ⟨hx, hlc, hcm, hr⟩ := hcell i hlt
        have hreach := HL.out i hlt
        have hli := HF.out i hlt
        have hlen := num_len hnum (HT.out i (by omega)) (by omega)
        clear hcell
        have HN := Lib.hid hnum
        have hnr := hnum.rd
        have hnl := hnum.lt
        clear hnum
        go_wp2_with (go_at_call 41; refine (rsum_any _ _ _ _ _ _ _ _ _ hnr hr hnl hli (by omega) (by omega)).mono ?_; rintro e w3 ⟨A3, n3, c3, f3, rfl, hnum3, hle3, hb3⟩)
        go_roundw
        case rel => exact ⟨i + 1, by omega, by go_num, A3, n3, c3, f3, rfl, by rw [tot, ← HN.out.val]; exact hnum3, hb.trans (hb3.mono hb.size)⟩
        case measure => simp [intOf]; omega
      · obtain rfl : i = n := by omega
        have hlen := num_len hnum (HT.out i (by omega)) (by omega)
        by_cases hz : 4096 < n1
        · have hf : ¬ tot L F i < big := by have := trm_long hnum.trm hz; rw [hnum.val] at this; omega
          have e1 := Lib.hid (H1.out.trans (fitR_ge hf))
          have e2 := Lib.hid (H2.out.trans (fitE_ge hf))
          clear hf hnum
          go_wp2
          go_ret2
          rw [e1.out, e2.out]
          exact ⟨none, 0, 0, _, rfl, num_nil _, hb⟩
        · have hf : tot L F i < big := by have := trm_short hnum.lt (by omega : n1 ≤ 4096); rw [hnum.val] at this; exact this
          have e1 := Lib.hid (H1.out.trans (fitR_lt hf))
          have e2 := Lib.hid (H2.out.trans (fitE_lt hf))
          have HN := Lib.hid hnum
          clear hf hnum
          go_wp2
          go_ret2
          rw [e1.out, e2.out]
          exact ⟨A1, n1, c1, f1, rfl, HN.out, hb⟩

end Go.Proofs.YtljbnnpmnoejeaaGreatDoor.nn
namespace Go.Proofs.YtljbnnpmnoejeaaGreatDoor.nn
open Go.RowKit

theorem drew_below {B : Nat} {a w : World} (h : Below B a w) (j : Nat) : Below B a (w.drewN j) := ⟨h.os, h.tape, h.output, h.size, h.block⟩

theorem rtrim_at (A : Option Addr) (n c p : Nat) (f : Nat → Nat) (w : World) (hp : tr f n = p) (hA : Rd w .u32 A n f) (hn : n ≤ c) (hreach : n * 4 ≤ 140737488355328) :
    Calls Tryz.prog 79 #[.slice A n c] w fun e w' => ∃ A' c', e = .returned (.slice A' p c') ∧ Rd w' .u32 A' p f ∧ Below w.heap.size w w' := by
  subst hp
  refine (rtrim_any A n c f w hA hn hreach).mono ?_
  rintro e w' ⟨v, rfl, ho, hb⟩
  obtain ⟨A', c', rfl, _, _, hr⟩ := Rd.of_own ho
  exact ⟨A', c', rfl, hr, hb⟩

set_option maxRecDepth 100000 in
set_option maxHeartbeats 1000000 in
theorem rcmp_any (A B : Option Addr) (n m c d : Nat) (f g : Nat → Nat) (w : World) (hA : Rd w .u32 A n f) (hB : Rd w .u32 B m g)
    (lf : Lt (2 ^ 32) f n) (lg : Lt (2 ^ 32) g m) (hnc : n ≤ c) (hmd : m ≤ d) (hn : n * 4 ≤ 140737488351232) (hm : m * 4 ≤ 140737488351232) :
    Calls Tryz.prog 81 #[.slice A n c, .slice B m d] w fun e w' => e = .returned (.int .i64 (cm (sm (2 ^ 32) f n) (sm (2 ^ 32) g m))) ∧ Below w.heap.size w w' := by
  have ef := tr_le f n
  have eg := tr_le g m
  have lf' := Lib.hid (lf.mono ef)
  have lg' := Lib.hid (lg.mono eg)
  have tf := Lib.hid (tr_trm f n)
  have tg := Lib.hid (tr_trm g m)
  rw [← sm_tr (2 ^ 32) f n, ← sm_tr (2 ^ 32) g m]
  clear lf lg
  obtain ⟨p, hp⟩ : ∃ p, tr f n = p := ⟨_, rfl⟩
  obtain ⟨q, hq⟩ : ∃ q, tr g m = q := ⟨_, rfl⟩
  rw [hp] at ef lf' tf
  rw [hq] at eg lg' tg
  rw [hp, hq]
  have HP := Lib.hid hp
  have HQ := Lib.hid hq
  clear hp hq
  rcases Nat.lt_trichotomy p q with h | h | h
  · have H := Lib.hid (cm_lt (sm_len (by decide) lf'.out tg.out h))
    go_enter Tryz.func81, Tryz.ntmps81
    go_wp2_with (first
      | (go_at_call_of 79 (Value.slice A n c); refine (rtrim_at _ _ _ p f _ HP.out hA hnc (by omega)).mono ?_; rintro e w1 ⟨A1, c1, rfl, hr1, hb1⟩)
      | (go_at_call_of 79 (Value.slice B m d); refine (rtrim_at _ _ _ q g _ HQ.out (hB.below hb1) hmd (by omega)).mono ?_; rintro e w2 ⟨A2, c2, rfl, hr2, hb2⟩))
    go_ret
    exact ⟨ret_int H.out.symm, hb1.trans (hb2.mono hb1.size)⟩
  · subst h
    go_enter Tryz.func81, Tryz.ntmps81
    go_wp2_with (first
      | (go_at_call_of 79 (Value.slice A n c); refine (rtrim_at _ _ _ p f _ HP.out hA hnc (by omega)).mono ?_; rintro e w1 ⟨A1, c1, rfl, hr1, hb1⟩)
      | (go_at_call_of 79 (Value.slice B m d); refine (rtrim_at _ _ _ p g _ HQ.out (hB.below hb1) hmd (by omega)).mono ?_; rintro e w2 ⟨A2, c2, rfl, hr2, hb2⟩))
    have hr1' := hr1.below hb2
    have hb := hb1.trans (hb2.mono hb1.size)
    clear hr1 hb1 hb2 hA hB
    go_loopw [7] (fun s wr => ∃ t : Nat, t ≤ p ∧ s = .int .i64 ((t : Int) - 1) ∧ Hid (∀ i, t ≤ i → i < p → f i = g i) ∧ ∃ j, wr = w2.drewN j) (fun s _ => (intOf s + 1).toNat)
    case atStart => exact ⟨p, Nat.le_refl _, rfl, Lib.hid (fun i h1 h2 => absurd h1 (by omega)), 0, rfl⟩
    case round =>
      obtain ⟨t, ht, rfl, hs, j, rfl⟩ := hrel
      by_cases h0 : 0 < t
      · obtain ⟨b, off, rfl, _, hcell⟩ := hr1' (by omega)
        have hx := hcell (t - 1) (by omega)
        obtain ⟨b', off', rfl, _, hcell'⟩ := hr2 (by omega)
        have hy := hcell' (t - 1) (by omega)
        clear hcell hcell' hr1' hr2
        rcases Nat.lt_trichotomy (f (t - 1)) (g (t - 1)) with h | h | h
        · have H := Lib.hid (cm_lt (sm_top lf'.out (by omega) (fun i h1 h2 => hs.out i (by omega) h2) h))
          go_wp2
          go_quiet (fail)
          go_wp2
          go_ret
          exact ⟨ret_int H.out.symm, drew_below (drew_below hb _) _⟩
        · have H : Hid (∀ i, t - 1 ≤ i → i < p → f i = g i) := Lib.hid (fun i h1 h2 => by
            by_cases e : i = t - 1
            · rw [e]; exact h
            · exact hs.out i (by omega) h2)
          rw [← h] at hy
          clear h
          go_wp2
          go_quiet (fail)
          go_wp2
          go_quiet (fail)
          go_wp2
          go_roundw
          case rel => exact ⟨t - 1, by omega, by go_num, H, _, rfl⟩
          case measure => simp [intOf]; omega
        · have H := Lib.hid (cm_gt (sm_top lg'.out (by omega) (fun i h1 h2 => (hs.out i (by omega) h2).symm) h))
          go_wp2
          go_quiet (fail)
          go_wp2
          go_quiet (fail)
          go_wp2
          go_ret
          exact ⟨ret_int H.out.symm, drew_below (drew_below (drew_below hb _) _) _⟩
      · obtain rfl : t = 0 := by omega
        have H := Lib.hid (cm_eq (sm_congr (2 ^ 32) (fun i hi => hs.out i (by omega) hi)))
        go_wp2
        go_ret
        exact ⟨ret_int H.out.symm, drew_below hb _⟩
  · have H := Lib.hid (cm_gt (sm_len (by decide) lg'.out tf.out h))
    go_enter Tryz.func81, Tryz.ntmps81
    go_wp2_with (first
      | (go_at_call_of 79 (Value.slice A n c); refine (rtrim_at _ _ _ p f _ HP.out hA hnc (by omega)).mono ?_; rintro e w1 ⟨A1, c1, rfl, hr1, hb1⟩)
      | (go_at_call_of 79 (Value.slice B m d); refine (rtrim_at _ _ _ q g _ HQ.out (hB.below hb1) hmd (by omega)).mono ?_; rintro e w2 ⟨A2, c2, rfl, hr2, hb2⟩))
    go_ret
    exact ⟨ret_int H.out.symm, hb1.trans (hb2.mono hb1.size)⟩

end Go.Proofs.YtljbnnpmnoejeaaGreatDoor.nn
namespace Go.Proofs.YtljbnnpmnoejeaaGreatDoor.nn
open Go.RowKit

theorem bitLen_max32 : Lib.bitLen 4294967295 = 32 := by decide +kernel

set_option maxRecDepth 100000 in
set_option maxHeartbeats 400000 in
theorem width32 (w : World) : Calls Tryz.prog 210 #[] w fun e w' => e = .returned (.int .i64 32) ∧ w = w' := by
  have h := (Go.Proofs.Tryz.bits_Len64 4294967295 w (by decide) (by decide)).mono (R' := fun e w' => e = .returned (.int .i64 32) ∧ w = w') (by
    rintro e w' ⟨rfl, rfl⟩
    exact ⟨by rw [show (4294967295 : Int).toNat = 4294967295 from rfl, bitLen_max32]; rfl, rfl⟩)
  have H := Lib.hid h
  clear h
  go_enter Tryz.func210, Tryz.ntmps210
  go_wp2_with (go_at_call 163; refine H.out.mono ?_; rintro e w' ⟨rfl, rfl⟩)
  go_ret
  exact ⟨rfl, rfl⟩

theorem made_vl (n : Nat) : (madeCells (Value.int .u32 0).cells (n * 1)).toList = vl .u32 (fun _ => 0) n := by
  rw [Nat.mul_one]
  show (madeCells #[Value.int .u32 0] n).toList = _
  rw [toList_madeCells_one]
  simp only [vl]
  apply List.ext_getElem (by simp)
  intro i h1 h2
  simp

theorem zero_sm (B n : Nat) : sm B (fun _ => 0) n = 0 := by
  induction n with
  | zero => rfl
  | succ n ih => rw [sm, ih]; simp

/-- what holds when i limbs are shifted -/
def UpRel (w wr : World) (g : Nat) (e : TypeId) (cur : Array Value) (N q r s : Nat) (f : Nat → Nat) (i : Nat) : Prop :=
  ∃ (f' : Nat → Nat) (cur' : Array Value), Wrote w wr g e cur cur' 0 N ∧ Ints cur' .u32 0 N f' ∧ Lt (2 ^ 32) f' N ∧ sm (2 ^ 32) f' (q + i + 1) = sm (2 ^ 32) f i * 2 ^ s ∧ f' (q + i) < 2 ^ r

theorem up_step {w wr : World} {g : Nat} {e : TypeId} {cur cur' : Array Value} {n q r s i : Nat} {f f' : Nat → Nat} (hw : Wrote w wr g e cur cur' 0 (q + n + 1)) (hin : Ints cur' .u32 0 (q + n + 1) f') (lf' : Lt (2 ^ 32) f' (q + n + 1))
    (hv : sm (2 ^ 32) f' (q + i + 1) = sm (2 ^ 32) f i * 2 ^ s) (hlow : f' (q + i) < 2 ^ r) (hi : i < n) (bx : f i < 2 ^ 32) (hr : r < 32) (hs : s = 32 * q + r) :
    UpRel w ((wr.setCell ⟨g, q + i, none⟩ (.int .u32 (bits BinOp.or IntKind.u32 (f' (q + i) : Int) ((f i : Int) * 2 ^ r % 4294967296)))).setCell ⟨g, q + i + 1, none⟩ (.int .u32 ((f i : Int) / 2 ^ (32 - r)))).drew g e cur (q + n + 1) q r s f (i + 1) := by
  obtain ⟨p1, p2, p3, p4⟩ := shl_parts 32 r (f i) (f' (q + i)) (by omega) bx hlow
  have b0 := lf' (q + i) (by omega)
  have x1 : f i * 2 ^ r % 4294967296 < 4294967296 := Nat.mod_lt _ (by decide)
  have c1 : (f i : Int) * 2 ^ r % 4294967296 = ((f i * 2 ^ r % 4294967296 : Nat) : Int) := by simp
  have c2 : (f i : Int) / 2 ^ (32 - r) = ((f i / 2 ^ (32 - r) : Nat) : Int) := by simp
  have c3 : bits BinOp.or IntKind.u32 (f' (q + i) : Int) ((f i : Int) * 2 ^ r % 4294967296) = ((f' (q + i) + f i * 2 ^ r % 2 ^ 32 : Nat) : Int) := by
    rw [c1, u32_or_nat _ _ b0 x1]
    exact congrArg _ p1
  have hp : (2 : Nat) ^ r ≤ 2 ^ 32 := Nat.pow_le_pow_right (by decide) (by omega)
  rw [c3, c2]
  have h1 := (hw.set_ (q + i) (by omega) (.int .u32 ((f' (q + i) + f i * 2 ^ r % 2 ^ 32 : Nat) : Int))).set_ (q + i + 1) (by omega) (.int .u32 ((f i / 2 ^ (32 - r) : Nat) : Int))
  have h2 := (hin.set_ (q + i) (f' (q + i) + f i * 2 ^ r % 2 ^ 32) (by omega)).set_ (q + i + 1) (f i / 2 ^ (32 - r)) (by omega)
  simp only [Nat.zero_add] at h1 h2
  refine ⟨_, _, h1.drewN 1, h2, (lf'.upd p2).upd (Nat.lt_of_lt_of_le p3 hp), ?_, by rw [← Nat.add_assoc, upd_at]; exact p3⟩
  rw [hs] at hv ⊢
  exact up_val 32 hv rfl p4

set_option maxRecDepth 100000 in
set_option maxHeartbeats 1000000 in
theorem shiftUp_any (A : Option Addr) (n c s q r : Nat) (f : Nat → Nat) (w : World) (hA : Rd w .u32 A n f) (lf : Lt (2 ^ 32) f n) (hs : s = 32 * q + r) (hr : r < 32) (hq : q + n + 1 ≤ 1000000) :
    Calls Tryz.prog 199 #[.slice A n c, .int .i64 s] w fun e w' => One w w' e (sm (2 ^ 32) f n * 2 ^ s) 1000000 := by
  obtain ⟨i0, hi, hz0, hz1, hz2⟩ := info_parts info_u32
  have e1 : (s : Int) / 32 = (q : Int) := by omega
  have e2 : (s : Int) % 32 = (r : Int) := by omega
  have HS := Lib.hid hs
  clear hs
  have bs : s ≤ 100000000 := by have := HS.out; omega
  go_enter Tryz.func199, Tryz.ntmps199
  go_wp2_with (go_at_call 210; refine (width32 _).mono ?_; rintro e w' ⟨rfl, rfl⟩)
  go_quiet (fail)
  clear e1 e2
  go_wp2_with (refine wpList_make_full _ rfl _ _ 48 rfl w.heap.size 72 i0 _ 1 Tryz.underlying48 hi hz0 hz1 .i64 .i64 _ _ (q + n + 1) rfl rfl ?c1 ?c2 ?c3 ?c4 ?c5 ?_; rotate_left 5; intro w1 hown1 hg1)
  case c1 => omega
  case c2 => omega
  case c3 => rw [hz2]; omega
  case c4 => unfold maxLen; omega
  case c5 => simp
  rw [show (s : Int) % 32 = (r : Int) from by have := HS.out; omega]
  rw [made_vl] at hown1
  obtain ⟨cur, hbk, hint, _, _, _, _, hfin⟩ := own_wrote hown1
  have HF := Lib.hid hfin
  have hbw1 : Below w.heap.size w w1 := (drew_below (Below.refl w.heap.size w) _).grown (row := none) hg1 (Nat.le_refl _) (fun k hk => by cases hk)
  have hA1 := hA.below hbw1
  have hsz1 : w.heap.size + 0 ≤ w1.heap.size := hbw1.size
  have hp0 : 0 < 2 ^ r := Nat.two_pow_pos r
  clear hfin hown1
  go_loopw [26] (fun s26 wr => ∃ i : Nat, i ≤ n ∧ s26 = .int .i64 i ∧ UpRel w1 wr w.heap.size 72 cur (q + n + 1) q r s f i) (fun s26 _ => n - (intOf s26).toNat)
  case atStart => exact ⟨0, Nat.zero_le _, rfl, fun _ => 0, cur, Wrote.refl hbk 0 _, hint, fun _ _ => Nat.two_pow_pos 32, by rw [zero_sm]; simp [sm], hp0⟩
  case round =>
    obtain ⟨i, hi', rfl, f', cur', hw, hin, lf', hv, hlow⟩ := hrel
    by_cases hlt : i < n
    · obtain ⟨b, off, rfl, _, hcell⟩ := (hA1.wrote hw (fun b o e h0 => by have := hA.lt e h0; omega)) (by omega)
      have hx := hcell i hlt
      have bx := lf i hlt
      have hc1 := (Bk.cell hw.blk (0 + (q + i))).trans (hin (q + i) (by omega))
      have hc2 := (Bk.cell hw.blk (0 + (q + i + 1))).trans (hin (q + i + 1) (by omega))
      have hf1 := Bk.frozen hw.blk (0 + (q + i))
      have hf2 := Bk.frozen hw.blk (0 + (q + i + 1))
      have b1 := lf' (q + i) (by omega)
      rw [Nat.zero_add] at hc1 hc2 hf1 hf2
      have HV := Lib.hid (And.intro hv hlow)
      clear hcell hv hlow
      go_wp2_with fail
      have k1 : IntKind.i64.wrap ((q : Int) + (i : Int)) = (q : Int) + (i : Int) := IntWalk.i64_in _ (by omega)
      have k2 : 0 ≤ (q : Int) + (i : Int) := by omega
      have k3 : ((q : Int) + (i : Int)).toNat = q + i := by omega
      have k4 : (q : Int) + (i : Int) < ((q + n + 1 : Nat) : Int) := by omega
      go_region_with (fail)
      clear k1 k3
      go_wp2
      go_roundw
      case rel => exact ⟨i + 1, by omega, by go_num, up_step hw hin lf' HV.out.1 HV.out.2 hlt bx hr HS.out⟩
      case measure => simp [intOf]; omega
    · obtain rfl : i = n := by omega
      have ho := HF.out _ cur' f' hw hin
      have hbw2 := hbw1.grown hw.grown hbw1.size (fun k hk => by injection hk with hk; exact Nat.le_of_eq hk)
      obtain ⟨A2, c2, e2, hc2, hm2, hr2⟩ := Rd.of_own ho
      injection e2 with e2 _ e3
      subst e2
      subst e3
      have hle := tr_le f' (q + i + 1)
      have hN : Num _ (some ⟨w.heap.size, 0, none⟩) (tr f' (q + i + 1)) (q + i + 1) f' (sm (2 ^ 32) f i * 2 ^ s) := ⟨hle, hm2, hr2.mono hle, lf'.mono hle, tr_trm _ _, by rw [sm_tr]; exact hv⟩
      have HN := Lib.hid hN
      have HT := Lib.hid (trim_any _ _ _ f' _ hr2 hc2 hm2)
      clear hN hv hlow ho hm2
      go_wp2_with (go_at_call 68; refine HT.out.mono ?_; rintro e w' ⟨rfl, rfl⟩)
      go_ret
      exact ⟨_, _, _, f', rfl, HN.out, by omega, hbw2⟩
end Go.Proofs.YtljbnnpmnoejeaaGreatDoor.nn
namespace Go.Proofs.YtljbnnpmnoejeaaGreatDoor.nn
open Go.RowKit

theorem info_u64 : (Tryz.prog.info? 22).map (fun i => (i.zero, i.size, i.bytes)) = some (some (.int .u64 0), 1, 8) := by kernel_rfl

theorem made_vl64 (n : Nat) : (madeCells (Value.int .u64 0).cells (n * 1)).toList = vl .u64 (fun _ => 0) n := by
  rw [Nat.mul_one]
  show (madeCells #[Value.int .u64 0] n).toList = _
  rw [toList_madeCells_one]
  simp only [vl]
  apply List.ext_getElem (by simp)
  intro i h1 h2
  simp

theorem w64_pos : 0 < W64 := by decide
theorem w64_pow (j : Nat) : W64 ^ j = (2 ^ 32) ^ (2 * j) := by
  rw [Nat.pow_mul (2 ^ 32) 2 j]
  rfl

/-- what holds when i limbs are in -/
def WidRel (w wr : World) (g : Nat) (e : TypeId) (cur : Array Value) (N : Nat) (f : Nat → Nat) (i : Nat) : Prop :=
  ∃ (f' : Nat → Nat) (cur' : Array Value), Wrote w wr g e cur cur' 0 N ∧ Ints cur' .u64 0 N f' ∧ Lt W64 f' N ∧ sm W64 f' N = sm (2 ^ 32) f i ∧ (∀ j, (i + 1) / 2 ≤ j → j < N → f' j = 0) ∧ (i % 2 = 1 → f' (i / 2) < 2 ^ 32)

theorem wid_even {w wr : World} {g : Nat} {e : TypeId} {cur cur' : Array Value} {N i j : Nat} {f f' : Nat → Nat} (hw : Wrote w wr g e cur cur' 0 N) (hin : Ints cur' .u64 0 N f') (lf' : Lt W64 f' N)
    (hv : sm W64 f' N = sm (2 ^ 32) f i) (hz : ∀ t, (i + 1) / 2 ≤ t → t < N → f' t = 0) (hi : i = 2 * j) (hj : j < N) (bx : f i < 2 ^ 32) :
    WidRel w (wr.setCell ⟨g, j, none⟩ (.int .u64 (f i : Int))).drew g e cur N f (i + 1) := by
  have h1 := hw.set_ j hj (.int .u64 (f i : Int))
  have h2 := hin.set_ j (f i) hj
  simp only [Nat.zero_add] at h1 h2
  refine ⟨_, _, h1.drewN 1, h2, lf'.upd (Nat.lt_trans bx (by decide)), ?_, fun t ht hN => ?_, fun _ => ?_⟩
  · have h3 := sm_upd W64 f' (f i) hj
    rw [hz j (by omega) hj] at h3
    have er : sm (2 ^ 32) f (i + 1) = sm (2 ^ 32) f i + f i * (2 ^ 32) ^ i := rfl
    have e2 : W64 ^ j = (2 ^ 32) ^ i := by rw [w64_pow, hi]
    rw [e2] at h3
    rw [er]
    omega
  · rw [upd_ne f' (by omega)]; exact hz t (by omega) hN
  · have : (i + 1) / 2 = j := by omega
    rw [this, upd_at]; exact bx

theorem wid_odd {w wr : World} {g : Nat} {e : TypeId} {cur cur' : Array Value} {N i j y : Nat} {f f' : Nat → Nat} (hw : Wrote w wr g e cur cur' 0 N) (hin : Ints cur' .u64 0 N f') (lf' : Lt W64 f' N)
    (hv : sm W64 f' N = sm (2 ^ 32) f i) (hz : ∀ t, (i + 1) / 2 ≤ t → t < N → f' t = 0) (hi : i = 2 * j + 1) (hj : j < N) (bx : f i < 2 ^ 32) (hy : f' j = y) (by_ : y < 2 ^ 32) :
    WidRel w (wr.setCell ⟨g, j, none⟩ (.int .u64 ((y + f i * 4294967296 : Nat) : Int))).drew g e cur N f (i + 1) := by
  have h1 := hw.set_ j hj (.int .u64 ((y + f i * 4294967296 : Nat) : Int))
  have h2 := hin.set_ j (y + f i * 4294967296) hj
  simp only [Nat.zero_add] at h1 h2
  refine ⟨_, _, h1.drewN 1, h2, lf'.upd (by simp only [W64]; omega), ?_, fun t ht hN => ?_, fun h => absurd h (by omega)⟩
  · have h3 := sm_upd W64 f' (y + f i * 4294967296) hj
    rw [hy, Nat.add_mul] at h3
    have er : sm (2 ^ 32) f (i + 1) = sm (2 ^ 32) f i + f i * (2 ^ 32) ^ i := rfl
    have e2 : f i * 4294967296 * W64 ^ j = f i * (2 ^ 32) ^ i := by
      rw [w64_pow, hi, Nat.pow_succ (2 ^ 32) (2 * j), Nat.mul_assoc, Nat.mul_comm ((2 ^ 32) ^ (2 * j))]
    rw [e2] at h3
    rw [er]
    omega
  · rw [upd_ne f' (by omega)]; exact hz t (by omega) hN

theorem or_zero64 {x : Nat} (h : x < 2 ^ 32) : bits BinOp.or IntKind.u64 0 (x : Int) = (x : Int) := by
  have := u64_or_nat 0 x (by decide) (Nat.lt_trans h (by decide))
  rw [Nat.zero_or] at this
  exact this
theorem or_high64 {y x : Nat} (hy : y < 2 ^ 32) (hx : x < 2 ^ 32) : bits BinOp.or IntKind.u64 (y : Int) ((x : Int) * 4294967296) = ((y + x * 4294967296 : Nat) : Int) := by
  have e : (x : Int) * 4294967296 = ((x * 4294967296 : Nat) : Int) := by omega
  rw [e, u64_or_nat y (x * 4294967296) (Nat.lt_trans hy (by decide)) (by omega), Nat.or_comm, nat_join 32 _ _ (Nat.mul_mod_left _ _) hy, Nat.add_comm]

/-- wide limbs: a slice of them that reads as R, in a block of its own -/
def Wide (w w' : World) (e : Ending) (R N : Nat) : Prop :=
  ∃ g cur f, e = .returned (.slice (some ⟨g, 0, none⟩) N N) ∧ w.heap.size ≤ g ∧ Bk w' g 22 cur ∧ cur.size = N ∧ Ints cur .u64 0 N f ∧ Lt W64 f N ∧ sm W64 f N = R ∧ Below w.heap.size w w'

set_option maxRecDepth 100000 in
set_option maxHeartbeats 1000000 in
theorem widen_any (A : Option Addr) (n c : Nat) (f : Nat → Nat) (w : World) (hA : Rd w .u32 A n f) (lf : Lt (2 ^ 32) f n) (hn : n ≤ 1000000) :
    Calls Tryz.prog 89 #[.slice A n c] w fun e w' => Wide w w' e (sm (2 ^ 32) f n) ((n + 1) / 2) := by
  obtain ⟨i0, hi, hz0, hz1, hz2⟩ := info_parts info_u64
  obtain ⟨N, hN⟩ : ∃ N, (n + 1) / 2 = N := ⟨_, rfl⟩
  have e1 : ((n : Int) + 1) / 2 = (N : Int) := by omega
  rw [hN]
  have HN := Lib.hid hN
  have hNn : N ≤ 1000000 := by omega
  clear hN
  go_enter Tryz.func89, Tryz.ntmps89
  go_wp2_with (refine wpList_make_full _ rfl _ _ 95 rfl w.heap.size 22 i0 _ 1 Tryz.underlying95 hi hz0 hz1 .i64 .i64 _ _ N rfl rfl ?c1 ?c2 ?c3 ?c4 ?c5 ?_; rotate_left 5; intro w1 hown1 hg1)
  case c1 => exact e1
  case c2 => exact e1
  case c3 => rw [hz2]; omega
  case c4 => unfold maxLen; omega
  case c5 => omega
  clear e1
  rw [made_vl64] at hown1
  obtain ⟨cur, hbk, hint, _, _, _, hcs, _⟩ := own_wrote hown1
  have hbw1 : Below w.heap.size w w1 := (Below.refl _ _).grown (row := none) hg1 (Nat.le_refl _) (fun k hk => by cases hk)
  have hA1 := hA.below hbw1
  have hne : Hid (∀ b o, A = some ⟨b, o, none⟩ → 0 < n → b ≠ w.heap.size) := Lib.hid fun b o e h0 => by have := hA.lt e h0; omega
  have HCS := Lib.hid hcs
  clear hown1 hcs hg1
  go_loopw [13] (fun s wr => ∃ i : Nat, i ≤ n ∧ s = .int .i64 i ∧ WidRel w1 wr w.heap.size 22 cur N f i) (fun s _ => n - (intOf s).toNat)
  case atStart => exact ⟨0, Nat.zero_le _, rfl, fun _ => 0, cur, Wrote.refl hbk 0 _, hint, fun _ _ => w64_pos, by rw [zero_sm]; rfl, fun _ _ _ => rfl, fun h => absurd h (by omega)⟩
  case round =>
    obtain ⟨i, hi', rfl, f', cur', hw, hin, lf', hv, hz, hodd⟩ := hrel
    by_cases hlt : i < n
    · obtain ⟨b, off, rfl, _, hcell⟩ := (hA1.wrote hw hne.out) (by omega)
      have hx := hcell i hlt
      have bx := lf i hlt
      have hNN := HN.out
      obtain ⟨j, hj⟩ : ∃ j, i / 2 = j := ⟨_, rfl⟩
      have hjN : j < N := by omega
      have hc1 := (Bk.cell hw.blk (0 + j)).trans (hin j hjN)
      have hf1 := Bk.frozen hw.blk (0 + j)
      rw [Nat.zero_add] at hc1 hf1
      have HV := Lib.hid hv
      have HZ := Lib.hid hz
      have hj0 : (i : Int) / 2 = (j : Int) := by omega
      have hjl : (j : Int) < (N : Int) := by omega
      have t1 : Int.tdiv (i : Int) 2 = (j : Int) := by rw [Int.tdiv_eq_ediv_of_nonneg (by omega)]; omega
      have t2 : IntKind.i64.wrap (j : Int) = (j : Int) := IntWalk.i64_in _ (by omega)
      have t4 : IntKind.i64.wrap 0 = 0 := IntWalk.i64_in _ (by omega)
      have t5 : IntKind.i64.wrap 32 = 32 := IntWalk.i64_in _ (by omega)
      have t6 : IntKind.u64.wrap (f i : Int) = (f i : Int) := by
        have : f i < 4294967296 := bx
        simp [IntKind.wrap, IntKind.bits, IntKind.signed]
        omega
      rcases (by omega : i % 2 = 0 ∨ i % 2 = 1) with hp | hp
      · have hy : f' j = 0 := hz j (by omega) hjN
        rw [hy] at hc1
        have t3 : Int.tmod (i : Int) 2 = 0 := by rw [Int.tmod_eq_emod_of_nonneg (by omega)]; omega
        have HI := Lib.hid (show i = 2 * j by omega)
        clear hcell hv hz hj hNN hy hp hodd
        go_wp2_with fail
        go_region_with (fail)
        clear t1 t2 t3 t4 t5 t6
        go_wp2
        go_roundw
        case rel => exact ⟨i + 1, by omega, by go_num, by rw [or_zero64 bx]; exact wid_even hw hin lf' HV.out HZ.out HI.out hjN bx⟩
        case measure => simp [intOf]; omega
      · have hy := hodd hp
        rw [hj] at hy
        have t3 : Int.tmod (i : Int) 2 = 1 := by rw [Int.tmod_eq_emod_of_nonneg (by omega)]; omega
        have HI := Lib.hid (show i = 2 * j + 1 by omega)
        clear hcell hv hz hj hNN hp hodd
        go_wp2_with fail
        go_region_with (fail)
        clear t1 t2 t3 t4 t5 t6
        go_wp2
        go_roundw
        case rel => exact ⟨i + 1, by omega, by go_num, by rw [or_high64 hy bx]; exact wid_odd hw hin lf' HV.out HZ.out HI.out hjN bx rfl hy⟩
        case measure => simp [intOf]; omega
    · obtain rfl : i = n := by omega
      have hbw2 := hbw1.grown hw.grown hbw1.size (fun k hk => by injection hk with hk; exact Nat.le_of_eq hk)
      have HB := Lib.hid hw.blk
      have hcz : Hid (cur'.size = N) := Lib.hid (hw.size.trans HCS.out)
      go_wp2
      go_ret
      exact ⟨_, cur', f', rfl, Nat.le_refl _, HB.out, hcz.out, hin, lf', hv, hbw2⟩
end Go.Proofs.YtljbnnpmnoejeaaGreatDoor.nn
namespace Go.Proofs.YtljbnnpmnoejeaaGreatDoor.nn
open Go.RowKit

set_option maxHeartbeats 400000 in
theorem clone64_any (A : Option Addr) (n c : Nat) (f : Nat → Nat) (w : World) (hA : Rd w .u64 A n f) (hreach : n * 8 ≤ 140737488355328) :
    Calls Tryz.prog 206 #[.slice A n c] w fun e w' => ∃ v, e = .returned v ∧ w'.ownsRow w.heap.size 22 1 v n (vl .u64 f n) ∧ Below w.heap.size w w' := by
  obtain ⟨i0, hi, hz0, hz1, hz2⟩ := info_parts info_u64
  have hn0 := fun (wx : World) => Lib.run_eql_slice_nil (P := Tryz.prog) wx 95 22 A n c 0 0 Tryz.underlying95
  rcases A with _ | ad
  · have hm : n = 0 := by
      rcases Nat.eq_zero_or_pos n with h0 | h0
      · exact h0
      · obtain ⟨b, off, e, _⟩ := hA h0
        cases e
    subst hm
    go_enter Tryz.func206, Tryz.ntmps206
    go_wp2
    go_ret
    exact ⟨_, rfl, World.ownsRow_nil _ _ _ _, Below.refl _ _⟩
  · go_enter Tryz.func206, Tryz.ntmps206
    go_wp2_with (at_builtin; refine wpList_app rfl (.tmp 5) (.tmp 6) _ rfl w.heap.size 22 i0 _ 8 Tryz.underlying95 hi hz0 hz1 hz2 rfl .u64 _ 0 f rfl (World.ownsRow_lit w #[] 0 (Nat.le_refl _) (by simp [maxLen]) rfl) (some ad) n c f rfl (hA.alloc _) ?c1 ?c2 ?c3 ?c4; rotate_left 3; intro v1 w1 hown1 hb1)
    case c1 => unfold maxLen; omega
    case c2 => omega
    case c3 => simp
    go_ret
    refine ⟨v1, rfl, ?_, ((Below.refl _ _).alloc (Nat.le_refl _) _).trans hb1⟩
    rw [jn_zero, Nat.zero_add] at hown1
    exact hown1
end Go.Proofs.YtljbnnpmnoejeaaGreatDoor.nn
namespace Go.Proofs.YtljbnnpmnoejeaaGreatDoor.nn
open Go.RowKit

set_option maxHeartbeats 400000 in
theorem trim64_any (A : Option Addr) (n c : Nat) (f : Nat → Nat) (w : World) (hA : Rd w .u64 A n f) (hn : n ≤ c) (hc : c ≤ maxLen) :
    Calls Tryz.prog 135 #[.slice A n c] w fun e w' => e = .returned (.slice A (tr f n) c) ∧ w = w' := by
  unfold maxLen at hc
  go_enter Tryz.func135, Tryz.ntmps135
  go_wp2
  go_loop [0] (fun s => ∃ m : Nat, m ≤ n ∧ s = .slice A m c ∧ Hid (tr f m = tr f n)) (fun s => match s with | .slice _ m _ => m | _ => 0)
  case atStart => exact ⟨n, Nat.le_refl _, rfl, Lib.hid rfl⟩
  case round =>
    obtain ⟨m, hm, rfl, ht⟩ := hrel
    by_cases h0 : 0 < m
    · obtain ⟨b, off, rfl, _, hcell⟩ := hA (by omega)
      have hx := hcell (m - 1) (by omega)
      clear hcell
      by_cases hz : f (m - 1) = 0
      · have ht' := tr_last f h0 hz
        have H : Hid (tr f (m - 1) = tr f n) := Lib.hid (ht'.trans ht.out)
        rw [hz] at hx
        clear hz ht' ht
        go_wp2
        go_round
        case rel => exact ⟨m - 1, by omega, by go_num, H⟩
        case measure => simp; omega
      · have H := Lib.hid hz
        have hz' : 1 ≤ f (m - 1) := by omega
        clear hz
        go_wp2
        go_ret
        exact ⟨ret_sl ((tr_stop f (.inr H.out)).symm.trans ht.out), rfl⟩
    · obtain rfl : m = 0 := by omega
      go_wp2
      go_ret
      exact ⟨ret_sl ht.out, rfl⟩
set_option maxHeartbeats 400000 in
theorem compare64_any (A B : Option Addr) (n m c d : Nat) (f g : Nat → Nat) (w : World) (hA : Rd w .u64 A n f) (hB : Rd w .u64 B m g)
    (lf : Lt (2 ^ 64) f n) (lg : Lt (2 ^ 64) g m) (tf : Trm f n) (tg : Trm g m) (hn : n ≤ maxLen) (hm : m ≤ maxLen) :
    Calls Tryz.prog 205 #[.slice A n c, .slice B m d] w fun e w' => e = .returned (.int .i64 (cm (sm (2 ^ 64) f n) (sm (2 ^ 64) g m))) ∧ ∃ j, w' = w.drewN j := by
  unfold maxLen at hn hm
  rcases Nat.lt_trichotomy n m with h | h | h
  · have H := Lib.hid (cm_lt (sm_len (by decide) lf tg h))
    clear tf tg lf lg hA hB
    go_enter Tryz.func205, Tryz.ntmps205
    go_wp2
    go_ret
    exact ⟨ret_int H.out.symm, 0, rfl⟩
  · subst h
    clear tf tg
    have lf' := Lib.hid lf
    have lg' := Lib.hid lg
    clear lf lg
    go_enter Tryz.func205, Tryz.ntmps205
    go_wp2
    go_loopw [5] (fun s wr => ∃ t : Nat, t ≤ n ∧ s = .int .i64 ((t : Int) - 1) ∧ Hid (∀ i, t ≤ i → i < n → f i = g i) ∧ ∃ j, wr = w.drewN j) (fun s _ => (intOf s + 1).toNat)
    case atStart => exact ⟨n, Nat.le_refl _, rfl, Lib.hid (fun i h1 h2 => absurd h1 (by omega)), 0, rfl⟩
    case round =>
      obtain ⟨t, ht, rfl, hs, j, rfl⟩ := hrel
      by_cases h0 : 0 < t
      · obtain ⟨b, off, rfl, _, hcell⟩ := hA (by omega)
        have hx := hcell (t - 1) (by omega)
        obtain ⟨b', off', rfl, _, hcell'⟩ := hB (by omega)
        have hy := hcell' (t - 1) (by omega)
        clear hcell hcell' hA hB
        rcases Nat.lt_trichotomy (f (t - 1)) (g (t - 1)) with h | h | h
        · have H := Lib.hid (cm_lt (sm_top lf'.out (by omega) (fun i h1 h2 => hs.out i (by omega) h2) h))
          have hb : ((f (t - 1) : Int) != (g (t - 1) : Int)) = true := by rw [bne_iff_ne]; omega
          go_wp2
          go_quiet (fail)
          go_wp2
          go_quiet (fail)
          go_wp2
          go_ret
          exact ⟨ret_int H.out.symm, dr3 _ _ _ _⟩
        · have H : Hid (∀ i, t - 1 ≤ i → i < n → f i = g i) := Lib.hid (fun i h1 h2 => by
            by_cases e : i = t - 1
            · rw [e]; exact h
            · exact hs.out i (by omega) h2)
          rw [← h] at hy
          clear h
          go_wp2
          go_quiet (fail)
          go_wp2
          go_roundw
          case rel => exact ⟨t - 1, by omega, by go_num, H, _, rfl⟩
          case measure => simp [intOf]; omega
        · have H := Lib.hid (cm_gt (sm_top lg'.out (by omega) (fun i h1 h2 => (hs.out i (by omega) h2).symm) h))
          have hb : ((f (t - 1) : Int) != (g (t - 1) : Int)) = true := by rw [bne_iff_ne]; omega
          go_wp2
          go_quiet (fail)
          go_wp2
          go_quiet (fail)
          go_wp2
          go_ret
          exact ⟨ret_int H.out.symm, dr3 _ _ _ _⟩
      · obtain rfl : t = 0 := by omega
        have H := Lib.hid (cm_eq (sm_congr (2 ^ 64) (fun i hi => hs.out i (by omega) hi)))
        go_wp2
        go_ret
        exact ⟨ret_int H.out.symm, _, rfl⟩
  · have H := Lib.hid (cm_gt (sm_len (by decide) lg tf h))
    clear tf tg lf lg hA hB
    go_enter Tryz.func205, Tryz.ntmps205
    go_wp2
    go_ret
    exact ⟨ret_int H.out.symm, 0, rfl⟩
end Go.Proofs.YtljbnnpmnoejeaaGreatDoor.nn
namespace Go.Proofs.YtljbnnpmnoejeaaGreatDoor.nn
open Go.RowKit

set_option maxHeartbeats 1000000 in
theorem div64_small (lo y : Nat) (w : World) (hlo : lo < 18446744073709551616) (hy : y < 18446744073709551616) (h0 : 0 < y) :
    Calls Tryz.prog 173 #[.int .u64 0, .int .u64 lo, .int .u64 y] w fun e w' => e = .returned (.tuple #[.int .u64 ((lo / y : Nat) : Int), .int .u64 ((lo % y : Nat) : Int)]) ∧ ∃ j, w' = w.drewN j := by
  have h1 : ¬ (y : Int) ≤ 0 := by omega
  have e1 : IntKind.u64.wrap ((lo : Int) / y) = ((lo / y : Nat) : Int) := by
    rw [← Int.natCast_ediv]
    have := Nat.div_le_self lo y
    generalize lo / y = k at *
    exact IntWalk.u64_in _ ⟨by omega, by omega⟩
  have e2 : (lo : Int) % y = ((lo % y : Nat) : Int) := by simp
  go_enter Tryz.func173, Tryz.ntmps173
  go_wp2
  go_quiet (fail)
  go_wp2
  go_ret2
  exact ⟨rfl, _, rfl⟩

theorem notLe {a b : Int} (h : b < a) : (a ≤ b) = False := by rw [eq_iff_iff, iff_false]; omega
theorem notLt {a b : Int} (h : b ≤ a) : (a < b) = False := by rw [eq_iff_iff, iff_false]; omega
/-- a fact that is kept shut from the walk: a structure, so nothing unfolds it -/
structure Shut (P : Prop) : Prop where
  out : P
/-- below the divisor (kept shut from the walk) -/
structure Under (U y1 y0 : Nat) : Prop where
  out : U < y1 * W32 + y0
/-- the quotient of half words (kept shut from the walk) -/
structure QuoIs (U d y1 y0 q : Nat) : Prop where
  out : q = (U * W32 + d) / (y1 * W32 + y0)

set_option maxRecDepth 100000 in
set_option maxHeartbeats 2000000 in
theorem div64_core (hi lo y s Y y1 y0 H l1 U L d1 d0 q r q1 q0 R1 R2 : Nat) (w : World) (_hlo : lo < 18446744073709551616) (_hy : y < 18446744073709551616) (hhi : hi < y) (h0 : 0 < hi) (hs : s ≤ 63)
    (HL : Hid (Calls Tryz.prog 192 #[.int .u64 y] w fun e w' => e = .returned (.int .i64 (s : Int)) ∧ w = w'))
    (eY : IntKind.u64.wrap ((y : Int) * 2 ^ s) = (Y : Int)) (ey1 : (Y : Int) / 4294967296 = (y1 : Int)) (ey0 : bits BinOp.and IntKind.u64 (Y : Int) 4294967295 = (y0 : Int))
    (eH : IntKind.u64.wrap ((hi : Int) * 2 ^ s) = (H : Int)) (el1 : (lo : Int) / 2 ^ (64 - s) = (l1 : Int)) (eU : bits BinOp.or IntKind.u64 (H : Int) (l1 : Int) = (U : Int))
    (eL : IntKind.u64.wrap ((lo : Int) * 2 ^ s) = (L : Int)) (ed1 : (L : Int) / 4294967296 = (d1 : Int)) (ed0 : bits BinOp.and IntKind.u64 (L : Int) 4294967295 = (d0 : Int))
    (by1 : 2147483648 ≤ y1) (by1' : y1 < 4294967296) (by0 : y0 < 4294967296) (bd1 : d1 < 4294967296) (bd0 : d0 < 4294967296) (_bU : U < 18446744073709551616)
    (eq : IntKind.u64.wrap ((U : Int) / (y1 : Int)) = (q : Int)) (er : IntKind.u64.wrap ((U : Int) - IntKind.u64.wrap ((q : Int) * (y1 : Int))) = (r : Int))
    (HU : Under U y1 y0) (HS : Shut (Half U d1 y1 y0 q r)) (bq : q ≤ 4294967297) (br : r < 4294967296) 
    (HQ1 : QuoIs U d1 y1 y0 q1) (Qt Rt A B C A2 B2 C2 E q' r' : Nat)
    (eA : IntKind.u64.wrap ((U : Int) * 4294967296) = (A : Int)) (eB : IntKind.u64.wrap ((A : Int) + (d1 : Int)) = (B : Int)) (eC : IntKind.u64.wrap ((q1 : Int) * (Y : Int)) = (C : Int)) (eD : IntKind.u64.wrap ((B : Int) - (C : Int)) = (R1 : Int))
    (eq' : IntKind.u64.wrap ((R1 : Int) / (y1 : Int)) = (q' : Int)) (er' : IntKind.u64.wrap ((R1 : Int) - IntKind.u64.wrap ((q' : Int) * (y1 : Int))) = (r' : Int))
    (HU' : Under R1 y1 y0) (HS' : Shut (Half R1 d0 y1 y0 q' r')) (bq' : q' ≤ 4294967297) (br' : r' < 4294967296) (HQ0 : QuoIs R1 d0 y1 y0 q0)
    (eA2 : IntKind.u64.wrap ((R1 : Int) * 4294967296) = (A2 : Int)) (eB2 : IntKind.u64.wrap ((A2 : Int) + (d0 : Int)) = (B2 : Int)) (eC2 : IntKind.u64.wrap ((q0 : Int) * (Y : Int)) = (C2 : Int)) (eD2 : IntKind.u64.wrap ((B2 : Int) - (C2 : Int)) = (R2 : Int))
    (eE : IntKind.u64.wrap ((q1 : Int) * 4294967296) = (E : Int)) (eQ : IntKind.u64.wrap ((E : Int) + (q0 : Int)) = (Qt : Int)) (eR : (R2 : Int) / 2 ^ s = (Rt : Int)) :
    Calls Tryz.prog 173 #[.int .u64 hi, .int .u64 lo, .int .u64 y] w fun e w' => e = .returned (.tuple #[.int .u64 (Qt : Int), .int .u64 (Rt : Int)]) ∧ ∃ j, w' = w.drewN j := by
  have h1 : ¬ (y : Int) ≤ hi := by omega
  go_enter Tryz.func173, Tryz.ntmps173
  go_wp2_with fail
  refine HL.out.mono ?_
  rintro e w' ⟨rfl, rfl⟩
  go_upto_block 0 with fail
  go_cut [15, 16] from 19 (fun s15 _ wx => s15 = .int .u64 (q1 : Int) ∧ wx = w)
  case first =>
    go_wp2_with fail
    go_loopg [15, 16] 4294967298 (fun k s15 s16 wr => ∃ p t : Nat, s15 = .int .u64 (p : Int) ∧ s16 = .int .u64 (t : Int) ∧ Shut (Half U d1 y1 y0 p t) ∧ p ≤ 4294967297 ∧ t < 4294967296 ∧ p ≤ k ∧ wr = w)
    case atStart => exact ⟨q, r, rfl, rfl, HS, bq, br, by omega, rfl⟩
    case round =>
      obtain ⟨p, t, rfl, rfl, hh, bp, bt, hk, rfl⟩ := hrel
      clear eY ey1 ey0 eH el1 eU eL ed1 ed0 eq er HL HS bq br _bU _hlo _hy eA eB eC eD eq' er' HS' bq' br' eA2 eB2 eC2 eD2 eE eQ eR HU' HQ0
      obtain ⟨P, hP⟩ : ∃ P, p * y0 = P := ⟨_, rfl⟩
      have hp1 : Shut (p < 4294967296 → P ≤ 18446744073709551615) := Shut.mk fun h => by
        have := Nat.mul_le_mul (by omega : p ≤ 4294967295) (by omega : y0 ≤ 4294967295)
        omega
      have eP : p < 4294967296 → IntKind.u64.wrap ((p : Int) * (y0 : Int)) = (P : Int) := fun h => by
        rw [← Int.natCast_mul, hP]
        have := hp1.out h
        exact IntWalk.u64_in _ ⟨by omega, by omega⟩
      have hnx := fun (hc : W32 ≤ p ∨ t * W32 + d1 < p * y0) => hh.out.next HU.out bd1 hc
      have hft := hh.out.fits (y0 := y0)
      rw [hP] at hnx hft
      have HN := Shut.mk hnx
      have HF := Shut.mk hft
      clear hnx hft hP
      by_cases c1 : 4294967296 ≤ p
      · obtain ⟨n1, n2⟩ := HN.out (.inl c1)
        have N2 := Shut.mk n2
        have c1' : (4294967296 : Int) ≤ (p : Int) := by omega
        have BP := Shut.mk (And.intro n1 (And.intro bp hk))
        have pz : (p : Int) ≤ 4294967297 := by omega
        clear n1 n2 eP bp hk c1 HN HF
        by_cases c3 : 4294967296 ≤ t + y1
        · have HW : QuoIs U d1 y1 y0 (p - 1) := ⟨(N2.out.wide (by have := BP.out; unfold W32; omega) by0 c3).1⟩
          have c3' : (4294967296 : Int) ≤ (t : Int) + (y1 : Int) := by omega
          have C3 := Shut.mk c3
          clear c3
          go_wp2
          go_meet
          exact ⟨by rw [HQ1.out, ← HW.out]; exact congrArg (Value.int .u64) (by have := BP.out; omega), rfl⟩
        · have c3' := notLe (show (t : Int) + (y1 : Int) < 4294967296 by omega)
          have C3 := Shut.mk c3
          clear c3
          go_wp2
          go_roundg (p - 1)
          case measure => have := BP.out; omega
          case rel => have := BP.out; have := C3.out; exact ⟨p - 1, t + y1, by go_num, by go_num, N2, by omega, by omega, by omega, rfl⟩
      · have c1' := notLe (show (p : Int) < 4294967296 by omega)
        have BP := Shut.mk hk
        have eP' := eP (by omega)
        have bP : (P : Int) ≤ 18446744073709551615 := by have := hp1.out (by omega); omega
        have C1 := Shut.mk c1
        clear eP hp1 hk bp c1
        by_cases c2 : t * 4294967296 + d1 < P
        · obtain ⟨n1, n2⟩ := HN.out (.inr c2)
          have N2 := Shut.mk n2
          have c2' : 4294967296 * (t : Int) + (d1 : Int) < (P : Int) := by omega
          have N1 := Shut.mk n1
          have pz : (1 : Int) ≤ (p : Int) := by omega
          have pz2 : (p : Int) ≤ 4294967295 := by have := C1.out; omega
          clear n1 n2 c2 HN HF
          by_cases c3 : 4294967296 ≤ t + y1
          · have HW : QuoIs U d1 y1 y0 (p - 1) := ⟨(N2.out.wide (by have := C1.out; unfold W32; omega) by0 c3).1⟩
            have c3' : (4294967296 : Int) ≤ (t : Int) + (y1 : Int) := by omega
            have C3 := Shut.mk c3
            clear c3
            go_wp2
            go_meet
            exact ⟨by rw [HQ1.out, ← HW.out]; exact congrArg (Value.int .u64) (by have := N1.out; have := C1.out; omega), rfl⟩
          · have c3' := notLe (show (t : Int) + (y1 : Int) < 4294967296 by omega)
            have C3 := Shut.mk c3
            clear c3
            go_wp2
            go_roundg (p - 1)
            case measure => have := N1.out; have := BP.out; omega
            case rel => have := N1.out; have := BP.out; have := C3.out; have := C1.out; exact ⟨p - 1, t + y1, by go_num, by go_num, N2, by omega, by omega, by omega, rfl⟩
        · have HW : QuoIs U d1 y1 y0 p := ⟨(HF.out (by unfold W32; omega)).1⟩
          have c2' := notLt (show (P : Int) ≤ 4294967296 * (t : Int) + (d1 : Int) by omega)
          clear c2 HN HF
          go_wp2
          go_meet
          exact ⟨by rw [HQ1.out, ← HW.out], rfl⟩
  case rest =>
    obtain ⟨rfl, rfl⟩ := hcut
    clear eY ey1 ey0 eH el1 eU eL ed1 ed0 eq er HL HS bq br _hlo _hy HU HQ1
    go_upto_block 2 with fail
    clear eA eB eC eD _bU
    go_cut [18, 16] from 19 (fun s18 _ wx => s18 = .int .u64 (q0 : Int) ∧ wx = wc)
    case first =>
      go_wp2_with fail
      go_loopg [18, 16] 4294967298 (fun k s18 s16 wr => ∃ p t : Nat, s18 = .int .u64 (p : Int) ∧ s16 = .int .u64 (t : Int) ∧ Shut (Half R1 d0 y1 y0 p t) ∧ p ≤ 4294967297 ∧ t < 4294967296 ∧ p ≤ k ∧ wr = wc)
      case atStart => exact ⟨q', r', rfl, rfl, HS', bq', br', by omega, rfl⟩
      case round =>
        obtain ⟨p, t, rfl, rfl, hh, bp, bt, hk, rfl⟩ := hrel
        clear eq' er' HS' bq' br' eA2 eB2 eC2 eD2 eE eQ eR
        obtain ⟨P, hP⟩ : ∃ P, p * y0 = P := ⟨_, rfl⟩
        have hp1 : Shut (p < 4294967296 → P ≤ 18446744073709551615) := Shut.mk fun h => by
          have := Nat.mul_le_mul (by omega : p ≤ 4294967295) (by omega : y0 ≤ 4294967295)
          omega
        have eP : p < 4294967296 → IntKind.u64.wrap ((p : Int) * (y0 : Int)) = (P : Int) := fun h => by
          rw [← Int.natCast_mul, hP]
          have := hp1.out h
          exact IntWalk.u64_in _ ⟨by omega, by omega⟩
        have hnx := fun (hc : W32 ≤ p ∨ t * W32 + d0 < p * y0) => hh.out.next HU'.out bd0 hc
        have hft := hh.out.fits (y0 := y0)
        rw [hP] at hnx hft
        have HN := Shut.mk hnx
        have HF := Shut.mk hft
        clear hnx hft hP
        by_cases c1 : 4294967296 ≤ p
        · obtain ⟨n1, n2⟩ := HN.out (.inl c1)
          have N2 := Shut.mk n2
          have c1' : (4294967296 : Int) ≤ (p : Int) := by omega
          have BP := Shut.mk (And.intro n1 (And.intro bp hk))
          have pz : (p : Int) ≤ 4294967297 := by omega
          clear n1 n2 eP bp hk c1 HN HF
          by_cases c3 : 4294967296 ≤ t + y1
          · have HW : QuoIs R1 d0 y1 y0 (p - 1) := ⟨(N2.out.wide (by have := BP.out; unfold W32; omega) by0 c3).1⟩
            have c3' : (4294967296 : Int) ≤ (t : Int) + (y1 : Int) := by omega
            have C3 := Shut.mk c3
            clear c3
            go_wp2
            go_meet
            exact ⟨by rw [HQ0.out, ← HW.out]; exact congrArg (Value.int .u64) (by have := BP.out; omega), rfl⟩
          · have c3' := notLe (show (t : Int) + (y1 : Int) < 4294967296 by omega)
            have C3 := Shut.mk c3
            clear c3
            go_wp2
            go_roundg (p - 1)
            case measure => have := BP.out; omega
            case rel => have := BP.out; have := C3.out; exact ⟨p - 1, t + y1, by go_num, by go_num, N2, by omega, by omega, by omega, rfl⟩
        · have c1' := notLe (show (p : Int) < 4294967296 by omega)
          have BP := Shut.mk hk
          have eP' := eP (by omega)
          have bP : (P : Int) ≤ 18446744073709551615 := by have := hp1.out (by omega); omega
          have C1 := Shut.mk c1
          clear eP hp1 hk bp c1
          by_cases c2 : t * 4294967296 + d0 < P
          · obtain ⟨n1, n2⟩ := HN.out (.inr c2)
            have N2 := Shut.mk n2
            have c2' : 4294967296 * (t : Int) + (d0 : Int) < (P : Int) := by omega
            have N1 := Shut.mk n1
            have pz : (1 : Int) ≤ (p : Int) := by omega
            have pz2 : (p : Int) ≤ 4294967295 := by have := C1.out; omega
            clear n1 n2 c2 HN HF
            by_cases c3 : 4294967296 ≤ t + y1
            · have HW : QuoIs R1 d0 y1 y0 (p - 1) := ⟨(N2.out.wide (by have := C1.out; unfold W32; omega) by0 c3).1⟩
              have c3' : (4294967296 : Int) ≤ (t : Int) + (y1 : Int) := by omega
              have C3 := Shut.mk c3
              clear c3
              go_wp2
              go_meet
              exact ⟨by rw [HQ0.out, ← HW.out]; exact congrArg (Value.int .u64) (by have := N1.out; have := C1.out; omega), rfl⟩
            · have c3' := notLe (show (t : Int) + (y1 : Int) < 4294967296 by omega)
              have C3 := Shut.mk c3
              clear c3
              go_wp2
              go_roundg (p - 1)
              case measure => have := N1.out; have := BP.out; omega
              case rel => have := N1.out; have := BP.out; have := C3.out; have := C1.out; exact ⟨p - 1, t + y1, by go_num, by go_num, N2, by omega, by omega, by omega, rfl⟩
          · have HW : QuoIs R1 d0 y1 y0 p := ⟨(HF.out (by unfold W32; omega)).1⟩
            have c2' := notLt (show (P : Int) ≤ 4294967296 * (t : Int) + (d0 : Int) by omega)
            clear c2 HN HF
            go_wp2
            go_meet
            exact ⟨by rw [HQ0.out, ← HW.out], rfl⟩
    case rest =>
      obtain ⟨rfl, rfl⟩ := hcut
      go_wp2
      go_ret2
      exact ⟨rfl, 0, rfl⟩

theorem wrap_nat {n : Nat} (h : n < 18446744073709551616) : IntKind.u64.wrap (n : Int) = (n : Int) := IntWalk.u64_in _ ⟨by omega, by omega⟩
theorem wrap_mod (n : Nat) : IntKind.u64.wrap (n : Int) = ((n % 18446744073709551616 : Nat) : Int) := by rw [IntKind.wrap_u64]; omega
theorem wrap_diff {b c r n p : Nat} (hb : b = n % 18446744073709551616) (hc : c = p % 18446744073709551616) (h : n = p + r) (hr : r < 18446744073709551616) : IntKind.u64.wrap ((b : Int) - (c : Int)) = (r : Int) := by
  rw [IntKind.wrap_u64]; omega
theorem mask32 {n : Nat} (h : n < 18446744073709551616) : bits BinOp.and IntKind.u64 (n : Int) 4294967295 = ((n % 4294967296 : Nat) : Int) := by
  have e := u64_and_nat n 4294967295 h (by decide)
  rw [show ((4294967295 : Nat) : Int) = 4294967295 from rfl] at e
  rw [e, show (4294967295 : Nat) = 2 ^ 32 - 1 from rfl, Nat.and_two_pow_sub_one_eq_mod]

theorem div64_any (hi lo y : Nat) (w : World) (hlo : lo < 18446744073709551616) (hy : y < 18446744073709551616) (hhi : hi < y) :
    Calls Tryz.prog 173 #[.int .u64 hi, .int .u64 lo, .int .u64 y] w fun e w' => e = .returned (.tuple #[.int .u64 (((hi * W64 + lo) / y : Nat) : Int), .int .u64 (((hi * W64 + lo) % y : Nat) : Int)]) ∧ ∃ j, w' = w.drewN j := by
  rcases Nat.eq_zero_or_pos hi with h0 | h0
  · subst h0
    have h := div64_small lo y w hlo hy hhi
    rw [Nat.zero_mul, Nat.zero_add]
    exact h
  · obtain ⟨b1, b2⟩ := bl_ge (N := y) (by omega)
    have b3 := bl_lt y
    have b4 : bl y ≤ 64 := bl_le (k := 64) hy
    obtain ⟨s, hs⟩ : ∃ s, 64 - bl y = s := ⟨_, rfl⟩
    have es : bl y + s = 64 := by omega
    have hY1 : y * 2 ^ s < 2 ^ 64 := by
      rw [← es, Nat.pow_add]
      exact Nat.mul_lt_mul_of_pos_right b3 (Nat.two_pow_pos s)
    have hY2 : 2 ^ 63 ≤ y * 2 ^ s := by
      rw [show 63 = bl y - 1 + s by omega, Nat.pow_add]
      exact Nat.mul_le_mul_right _ b1
    have hH : hi * 2 ^ s + 2 ^ s ≤ y * 2 ^ s := by
      have := Nat.mul_le_mul_right (2 ^ s) (show hi + 1 ≤ y from hhi)
      rwa [Nat.add_mul, Nat.one_mul] at this
    obtain ⟨_, _, l3, l4⟩ := shl_parts 64 s lo 0 (by omega) hlo (Nat.two_pow_pos s)
    have hjoin := nat_join s (hi * 2 ^ s) (lo / 2 ^ (64 - s)) (Nat.mul_mod_left _ _) l3
    have hHH : ((hi * 2 ^ s : Nat) : Int) = (hi : Int) * 2 ^ s := by simp
    have hYY : ((y * 2 ^ s : Nat) : Int) = (y : Int) * 2 ^ s := by simp
    have hLL : ((lo * 2 ^ s : Nat) : Int) = (lo : Int) * 2 ^ s := by simp
    have hl1 : (lo : Int) / 2 ^ (64 - s) = ((lo / 2 ^ (64 - s) : Nat) : Int) := by simp
    have hkey : (hi * W64 + lo) * 2 ^ s = (hi * 2 ^ s + lo / 2 ^ (64 - s)) * 18446744073709551616 + lo * 2 ^ s % 18446744073709551616 := by
      have e1 : hi * W64 * 2 ^ s = hi * 2 ^ s * 18446744073709551616 := Nat.mul_right_comm _ _ _
      have l5 : lo * 2 ^ s = lo * 2 ^ s % 18446744073709551616 + lo / 2 ^ (64 - s) * 18446744073709551616 := l4
      rw [Nat.add_mul, Nat.add_mul, e1]
      omega
    have hdiv := scaled_div (hi * W64 + lo) y s
    have hmod : ∀ R, (hi * W64 + lo) * 2 ^ s % (y * 2 ^ s) = R → (hi * W64 + lo) % y = R / 2 ^ s := fun R => scaled
    have hR2 : ∀ R : Nat, (R : Int) / 2 ^ s = ((R / 2 ^ s : Nat) : Int) := fun R => by simp
    rw [hkey] at hdiv hmod
    rw [← hdiv]
    have hL := (Go.Proofs.Tryz.bits_LeadingZeros64 (y : Int) w (by omega) (by omega)).mono (R' := fun e w' => e = .returned (.int .i64 (s : Int)) ∧ w = w') (by
      rintro e w' ⟨rfl, rfl⟩
      refine ⟨?_, rfl⟩
      rw [Int.toNat_natCast, bitLen_bl 64 y hy (by omega)]
      exact ret_int (by omega))
    have eY : IntKind.u64.wrap ((y : Int) * 2 ^ s) = ((y * 2 ^ s : Nat) : Int) := by rw [← hYY]; exact wrap_nat hY1
    have eH : IntKind.u64.wrap ((hi : Int) * 2 ^ s) = ((hi * 2 ^ s : Nat) : Int) := by rw [← hHH]; exact wrap_nat (Nat.lt_of_le_of_lt (Nat.le_trans (Nat.le_add_right _ _) hH) hY1)
    have eL := wrap_mod (lo * 2 ^ s)
    rw [hLL] at eL
    generalize y * 2 ^ s = Y at *
    generalize hi * 2 ^ s = H at *
    generalize lo / 2 ^ (64 - s) = l1 at *
    obtain ⟨L, hLe⟩ : ∃ L, lo * 2 ^ s % 18446744073709551616 = L := ⟨_, rfl⟩
    rw [hLe] at eL hdiv hmod ⊢
    have bL : L < 18446744073709551616 := by rw [← hLe]; exact Nat.mod_lt _ (by decide)
    obtain ⟨U, hU⟩ : ∃ U, H + l1 = U := ⟨_, rfl⟩
    rw [hU] at hdiv hmod ⊢
    have hUY : U < Y := by omega
    have hY1' : Y < 18446744073709551616 := hY1
    have hY2' : 9223372036854775808 ≤ Y := hY2
    have eU : bits BinOp.or IntKind.u64 (H : Int) (l1 : Int) = (U : Int) := by
      rw [u64_or_nat _ _ (by omega) (by omega), hjoin, hU]
    have sY : Y / 4294967296 * W32 + Y % 4294967296 = Y := by unfold W32; omega
    have h2 := two_halves (U := U) (d1 := L / 4294967296) (d0 := L % 4294967296) (Y := Y) rfl rfl (by omega)
    have e6 : U * 18446744073709551616 + L = (U * W32 + L / 4294967296) * W32 + L % 4294967296 := by unfold W32; omega
    rw [e6, h2.1]
    rw [e6, h2.2] at hmod
    have hm := hmod _ rfl
    rw [hm]
    have q1l := div_lt_half (R := U) (d := L / 4294967296) hUY (by unfold W32; omega)
    have R1l := Nat.mod_lt (U * W32 + L / 4294967296) (show 0 < Y by omega)
    have hN1 := Nat.div_add_mod (U * W32 + L / 4294967296) Y
    rw [Nat.mul_comm Y] at hN1
    obtain ⟨q1, hq1⟩ : ∃ q1, (U * W32 + L / 4294967296) / Y = q1 := ⟨_, rfl⟩
    obtain ⟨R1, hR1⟩ : ∃ R1, (U * W32 + L / 4294967296) % Y = R1 := ⟨_, rfl⟩
    rw [hq1] at q1l hN1 ⊢
    rw [hR1] at R1l hN1 ⊢
    have q0l := div_lt_half (R := R1) (d := L % 4294967296) R1l (by unfold W32; omega)
    have R2l := Nat.mod_lt (R1 * W32 + L % 4294967296) (show 0 < Y by omega)
    have hN2 := Nat.div_add_mod (R1 * W32 + L % 4294967296) Y
    rw [Nat.mul_comm Y] at hN2
    obtain ⟨q0, hq0⟩ : ∃ q0, (R1 * W32 + L % 4294967296) / Y = q0 := ⟨_, rfl⟩
    obtain ⟨R2, hR2'⟩ : ∃ R2, (R1 * W32 + L % 4294967296) % Y = R2 := ⟨_, rfl⟩
    rw [hq0] at q0l hN2 ⊢
    rw [hR2'] at R2l hN2 ⊢
    have yy1 : 0 < Y / 4294967296 := by omega
    have hd1 : L / 4294967296 < W32 := by unfold W32; omega
    have hd0 : L % 4294967296 < W32 := by unfold W32; omega
    have tdq : ∀ u : Nat, u < Y → IntKind.u64.wrap ((u : Int) / ((Y / 4294967296 : Nat) : Int)) = ((u / (Y / 4294967296) : Nat) : Int) := fun u hu => by
      rw [← Int.natCast_ediv]
      exact wrap_nat (Nat.lt_of_le_of_lt (Nat.div_le_self _ _) (by omega))
    have tdr : ∀ u : Nat, u < Y → IntKind.u64.wrap ((u : Int) - IntKind.u64.wrap (((u / (Y / 4294967296) : Nat) : Int) * ((Y / 4294967296 : Nat) : Int))) = ((u % (Y / 4294967296) : Nat) : Int) := fun u hu => by
      have h := Nat.div_add_mod u (Y / 4294967296)
      rw [Nat.mul_comm] at h
      have h3 := Nat.mod_le u (Y / 4294967296)
      rw [← Int.natCast_mul, wrap_nat (by omega)]
      generalize u / (Y / 4294967296) * (Y / 4294967296) = pp at *
      generalize u % (Y / 4294967296) = rr at *
      rw [show (u : Int) - (pp : Int) = ((rr : Nat) : Int) by omega]
      exact wrap_nat (by omega)
    have bfirst : ∀ u : Nat, u < Y → u / (Y / 4294967296) ≤ 4294967297 := fun u hu =>
      half_first (U := u) (y1 := Y / 4294967296) (y0 := Y % 4294967296) (by omega) (by omega) (by unfold W32; omega)
    have brest : ∀ u : Nat, u % (Y / 4294967296) < 4294967296 := fun u => Nat.lt_of_lt_of_le (Nat.mod_lt _ yy1) (by omega)
    refine div64_core hi lo y s Y (Y / 4294967296) (Y % 4294967296) H l1 U L (L / 4294967296) (L % 4294967296) (U / (Y / 4294967296)) (U % (Y / 4294967296)) q1 q0 R1 R2 w hlo hy hhi h0 (by omega)
      (Lib.hid hL) eY (by omega) (mask32 hY1') eH hl1 eU eL (by omega) (mask32 bL) (by omega) (by omega) (by omega) (by omega) (by omega) (by omega)
      (tdq U hUY) (tdr U hUY) ⟨by omega⟩ ⟨half_start yy1 hd1⟩ (bfirst U hUY) (brest U) ⟨by rw [sY, hq1]⟩
      (q1 * W32 + q0) (R2 / 2 ^ s) (U * 4294967296 % 18446744073709551616) ((U * 4294967296 + L / 4294967296) % 18446744073709551616) (q1 * Y % 18446744073709551616)
      (R1 * 4294967296 % 18446744073709551616) ((R1 * 4294967296 + L % 4294967296) % 18446744073709551616) (q0 * Y % 18446744073709551616) (q1 * W32) (R1 / (Y / 4294967296)) (R1 % (Y / 4294967296))
      ?_ ?_ ?_ ?_ (tdq R1 R1l) (tdr R1 R1l) ⟨by omega⟩ ⟨half_start yy1 hd0⟩ (bfirst R1 R1l) (brest R1) ⟨by rw [sY, hq0]⟩ ?_ ?_ ?_ ?_ ?_ ?_ (hR2 R2)
    · rw [IntKind.wrap_u64]; omega
    · rw [IntKind.wrap_u64]; omega
    · rw [← Int.natCast_mul]; exact wrap_mod _
    · exact wrap_diff rfl rfl hN1.symm (by omega)
    · rw [IntKind.wrap_u64]; omega
    · rw [IntKind.wrap_u64]; omega
    · rw [← Int.natCast_mul]; exact wrap_mod _
    · exact wrap_diff rfl rfl hN2.symm (by omega)
    · unfold W32 at *; rw [IntKind.wrap_u64]; omega
    · unfold W32 at *; rw [IntKind.wrap_u64]; omega
end Go.Proofs.YtljbnnpmnoejeaaGreatDoor.nn
