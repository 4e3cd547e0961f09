/- Joined texts, what is wanted of them: Num, DivNum, DivFacts, Mem, Append, Write, AddRel, AddTimes, Long, Add, Awake, Cmp, RefSum, Widen, DivideBy, Guess, Sub32, RefSub, Subtract, SubTimes, DivideB, Narrow, Product, TimesPlus, Bt, FromDigits, Flt, FdA, FdB, Fb, RefClass, RefWiden, Shape, FbNum, Shape2, Shape5, Shape6, Shape7, Shape9, FbNum2, ShapeNum, FdD, FdRound, FdParse, FdCut, FdCut2, FdCut3, NnA, RefTwice, RdA, RdC, RdD, FdScan, FdScan2, RdH, NnB, NuA, NumLaws, OpenS. -/
import Derived.Below
import Derived.Laws.BitsAllLaws
import Derived.Lib.BitFns
import Derived.Laws.OwnMore
import Derived.Deep.AppendLies
import Derived.Deep.Draws
import Derived.Maps.AppendAt
import Derived.RegionTactic
import Derived.OwnWalk
import Derived.Deep.RegionLaw
import Derived.WalkKit
import Derived.Test.YtljbnnpmnoejeaaProg
import Derived.WalkSpells
import Derived.Lib.Hide
import Derived.Laws.Rows
import Derived.Lib.ItoaNum
import Derived.Lib.Builder
import Derived.Lib.Repeat
import Derived.Lib.Strings
import Derived.Lib.TrimByte
import Derived.Shelf.Small.Bits
import Derived.Shelf.Small.Strs
import Derived.Shelf.Strconv.Itoa0
import Derived.Laws.Externs
import Derived.Deep.RegionHeld3
import Derived.Deep.QuietTactic
import Derived.BigQuiet
import Derived.Deep.RegionWith
import Derived.IntWalk
import Derived.Deep.CutBlock
import Derived.Deep.CutRange
import Derived.Deep.LoopGhost
import Derived.Laws.BitsLemmas
import Derived.Deep.DeepCutAuto
import Derived.Shelf.Spec.BitsCarry
import Derived.Laws.Bits64
import Derived.Laws.CopyOwn
import Derived.Lib.MinMax
import Derived.RowKit
import Derived.Great.Walk
import Derived.KernelRfl
import Derived.Deep.WholeRow
import Derived.Test.YtljbnnpmnoejeaaRows
import Derived.ProofKit
import Derived.SizedLaws
import Derived.ChangeMaps5
namespace Go.Proofs.Ytljbnnpmnoejeaa.nn

/-- the value of n limbs of f at base B, the lowest first -/
def sm (B : Nat) (f : Nat → Nat) : Nat → Nat
  | 0 => 0
  | n + 1 => sm B f n + f n * B ^ n

/-- all limbs below B -/
def Lt (B : Nat) (f : Nat → Nat) (n : Nat) : Prop := ∀ i, i < n → f i < B

/-- trimmed: no zero limb at the end -/
def Trm (f : Nat → Nat) (n : Nat) : Prop := n = 0 ∨ f (n - 1) ≠ 0

/-- f with x at place k -/
def upd (f : Nat → Nat) (k x : Nat) : Nat → Nat := fun i => if i = k then x else f i

theorem upd_at (f : Nat → Nat) (k x : Nat) : upd f k x k = x := by simp [upd]
theorem upd_ne (f : Nat → Nat) {k x i : Nat} (h : i ≠ k) : upd f k x i = f i := by simp [upd, h]

theorem sm_congr (B : Nat) {f g : Nat → Nat} {n : Nat} (h : ∀ i, i < n → f i = g i) : sm B f n = sm B g n := by
  induction n with
  | zero => rfl
  | succ n ih => rw [sm, sm, ih (fun i hi => h i (by omega)), h n (by omega)]

theorem sm_lt {B : Nat} {f : Nat → Nat} {n : Nat} (h : Lt B f n) : sm B f n < B ^ n := by
  induction n with
  | zero => simp [sm]
  | succ n ih =>
    have h1 := ih (fun i hi => h i (by omega))
    have h2 : f n + 1 ≤ B := h n (by omega)
    have h3 : (f n + 1) * B ^ n ≤ B * B ^ n := Nat.mul_le_mul_right _ h2
    rw [sm, Nat.pow_succ, Nat.mul_comm (B ^ n) B]
    rw [Nat.add_mul] at h3
    omega

theorem Lt.mono {B : Nat} {f : Nat → Nat} {n m : Nat} (h : Lt B f n) (hm : m ≤ n) : Lt B f m := fun i hi => h i (by omega)

theorem Lt.upd {B : Nat} {f : Nat → Nat} {n k x : Nat} (h : Lt B f n) (hx : x < B) : Lt B (upd f k x) n := fun i hi => by
  by_cases e : i = k
  · subst e; rw [upd_at]; exact hx
  · rw [upd_ne f e]; exact h i hi

theorem sm_upd_out (B : Nat) (f : Nat → Nat) {n k : Nat} (x : Nat) (h : n ≤ k) : sm B (upd f k x) n = sm B f n :=
  sm_congr B fun i hi => upd_ne f (by omega)

theorem sm_snoc (B : Nat) (f : Nat → Nat) (n x : Nat) : sm B (upd f n x) (n + 1) = sm B f n + x * B ^ n := by
  rw [sm, sm_upd_out B f x (Nat.le_refl n), upd_at]

/-- the value from place k on -/
theorem sm_split (B : Nat) (f : Nat → Nat) (k m : Nat) : sm B f (k + m) = sm B f k + sm B (fun i => f (k + i)) m * B ^ k := by
  induction m with
  | zero => simp [sm]
  | succ m ih =>
    rw [← Nat.add_assoc, sm, ih, sm, Nat.add_mul, Nat.pow_add, Nat.mul_assoc, Nat.mul_comm (B ^ m) (B ^ k)]
    omega

theorem sm_upd (B : Nat) (f : Nat → Nat) {n k : Nat} (x : Nat) (h : k < n) : sm B (upd f k x) n + f k * B ^ k = sm B f n + x * B ^ k := by
  induction n with
  | zero => omega
  | succ n ih =>
    by_cases e : k = n
    · subst e
      rw [sm, sm_upd_out B f x (Nat.le_refl k), upd_at, sm]
      omega
    · rw [sm, sm, upd_ne f (by omega : n ≠ k)]
      have := ih (by omega)
      omega

theorem sm_ge {B : Nat} {f : Nat → Nat} {n : Nat} (h : f n ≠ 0) : B ^ n ≤ sm B f (n + 1) := by
  have : 1 * B ^ n ≤ f n * B ^ n := Nat.mul_le_mul_right _ (by omega)
  rw [sm]
  omega

end Go.Proofs.Ytljbnnpmnoejeaa.nn
namespace Go.Proofs.Ytljbnnpmnoejeaa.nn

/-- the base of half words -/
def W32 : Nat := 4294967296

/-- a guess q with the rest r of U by the high half y1; Y is the divisor, d the next half -/
structure Half (U d y1 y0 q r : Nat) : Prop where
  eq : q * y1 + r = U
  lt : U * W32 + d < (q + 1) * (y1 * W32 + y0)

/-- the guess is too great -/
theorem Half.next {U d y1 y0 q r : Nat} (h : Half U d y1 y0 q r) (hU : U < y1 * W32 + y0) (hd : d < W32) (hc : W32 ≤ q ∨ r * W32 + d < q * y0) : 0 < q ∧ Half U d y1 y0 (q - 1) (r + y1) := by
  have hlt : U * W32 + d < q * (y1 * W32 + y0) := by
    rcases hc with hc | hc
    · have h1 : W32 * (y1 * W32 + y0) ≤ q * (y1 * W32 + y0) := Nat.mul_le_mul_right _ hc
      have h2 : W32 * (U + 1) ≤ W32 * (y1 * W32 + y0) := Nat.mul_le_mul_left _ hU
      rw [Nat.mul_add, Nat.mul_comm W32 U] at h2
      omega
    · rw [← h.eq, Nat.mul_add, Nat.add_mul, ← Nat.mul_assoc]
      omega
  have h0 : 0 < q := by
    rcases Nat.eq_zero_or_pos q with h0 | h0
    · rw [h0, Nat.zero_mul] at hlt; omega
    · exact h0
  obtain ⟨p, rfl⟩ : ∃ p, q = p + 1 := ⟨q - 1, by omega⟩
  refine ⟨h0, ?_, by rw [Nat.add_sub_cancel]; exact hlt⟩
  rw [Nat.add_sub_cancel, ← h.eq, Nat.add_mul]
  omega

theorem Half.fits {U d y1 y0 q r : Nat} (h : Half U d y1 y0 q r) (hc : q * y0 ≤ r * W32 + d) : q = (U * W32 + d) / (y1 * W32 + y0) ∧ q * (y1 * W32 + y0) ≤ U * W32 + d := by
  have h1 : q * (y1 * W32 + y0) ≤ U * W32 + d := by
    rw [← h.eq, Nat.mul_add, Nat.add_mul, ← Nat.mul_assoc]
    omega
  exact ⟨(Nat.div_eq_of_lt_le h1 h.lt).symm, h1⟩

/-- a rest as great as a half word ends it -/
theorem Half.wide {U d y1 y0 q r : Nat} (h : Half U d y1 y0 q r) (hq : q ≤ W32) (hy0 : y0 < W32) (hr : W32 ≤ r) : q = (U * W32 + d) / (y1 * W32 + y0) ∧ q * (y1 * W32 + y0) ≤ U * W32 + d := by
  refine h.fits ?_
  have h1 : q * y0 ≤ W32 * W32 := Nat.mul_le_mul hq (Nat.le_of_lt hy0)
  have h2 : W32 * W32 ≤ r * W32 := Nat.mul_le_mul_right _ hr
  omega

section
/-- the base of wide limbs, as in AddTimes; B is any base here -/
structure Guess (B U d y1 y0 q r : Nat) : Prop where
  eq : q * y1 + r = U
  lt : U * B + d < (q + 1) * (y1 * B + y0)

variable {B U d y1 y0 q r : Nat}

/-- the guess is too great -/
theorem Guess.next (h : Guess B U d y1 y0 q r) (hc : r * B + d < q * y0) : 0 < q ∧ Guess B U d y1 y0 (q - 1) (r + y1) := by
  have hlt : U * B + d < q * (y1 * B + y0) := by
    rw [← h.eq, Nat.mul_add, Nat.add_mul, ← Nat.mul_assoc]
    omega
  have h0 : 0 < q := by
    rcases Nat.eq_zero_or_pos q with h0 | h0
    · rw [h0, Nat.zero_mul] at hlt; omega
    · exact h0
  obtain ⟨p, rfl⟩ : ∃ p, q = p + 1 := ⟨q - 1, by omega⟩
  refine ⟨h0, ?_, by rw [Nat.add_sub_cancel]; exact hlt⟩
  rw [Nat.add_sub_cancel, ← h.eq, Nat.add_mul]
  omega

theorem Guess.fits (h : Guess B U d y1 y0 q r) (hc : q * y0 ≤ r * B + d) : q = (U * B + d) / (y1 * B + y0) := by
  have h1 : q * (y1 * B + y0) ≤ U * B + d := by
    rw [← h.eq, Nat.mul_add, Nat.add_mul, ← Nat.mul_assoc]
    omega
  exact (Nat.div_eq_of_lt_le h1 h.lt).symm

/-- a rest as great as the base ends it -/
theorem Guess.wide (h : Guess B U d y1 y0 q r) (hq : q ≤ B) (hy0 : y0 < B) (hr : B ≤ r) : q = (U * B + d) / (y1 * B + y0) := by
  refine h.fits ?_
  have h1 : q * y0 ≤ B * B := Nat.mul_le_mul hq (Nat.le_of_lt hy0)
  have h2 : B * B ≤ r * B := Nat.mul_le_mul_right _ hr
  omega

/-- what is guessed -/
def gs (B x2 x1 x0 y1 y0 : Nat) : Nat := if y1 ≤ x2 then B - 1 else ((x2 * B + x1) * B + x0) / (y1 * B + y0)

end
end Go.Proofs.Ytljbnnpmnoejeaa.nn
namespace Go.Proofs.Ytljbnnpmnoejeaa.nn

theorem sm_above {B : Nat} {f : Nat → Nat} {k n : Nat} (h : ∀ j, k ≤ j → j < n → f j = 0) (hk : k ≤ n) : sm B f n = sm B f k := by
  obtain ⟨m, rfl⟩ : ∃ m, n = k + m := ⟨n - k, by omega⟩
  rw [sm_split, sm_congr B (f := fun i => f (k + i)) (g := fun _ => 0) (fun i hi => h (k + i) (by omega) (by omega))]
  have : sm B (fun _ => 0) m = 0 := by
    clear h hk
    induction m with
    | zero => rfl
    | succ m ih => rw [sm, ih]; simp
  rw [this]
  simp

theorem sm_small {B : Nat} {f : Nat → Nat} {n : Nat} (h : sm B f (n + 1) < B ^ n) : f n = 0 := by
  rcases Nat.eq_zero_or_pos (f n) with h0 | h0
  · exact h0
  · have := sm_ge (B := B) (f := f) (n := n) (by omega); omega

theorem sm_first (B : Nat) (f : Nat → Nat) (i n : Nat) : sm B (fun j => f (i + j)) (n + 1) = f i + sm B (fun j => f (i + 1 + j)) n * B := by
  rw [Nat.add_comm n 1, sm_split]
  have e1 : sm B (fun j => f (i + j)) 1 = f i := by simp [sm]
  rw [e1, Nat.pow_one]
  congr 3
  funext j
  rw [← Nat.add_assoc]

/-- the stretch from i on, of n limbs, replaced -/
def put (f : Nat → Nat) (i n : Nat) (f1 : Nat → Nat) : Nat → Nat := fun j => if i ≤ j ∧ j < i + n then f1 (j - i) else f j
theorem put_in (f : Nat → Nat) {i n j : Nat} (f1 : Nat → Nat) (h : j < n) : put f i n f1 (i + j) = f1 j := by
  simp only [put]
  rw [if_pos (by omega), Nat.add_sub_cancel_left]
theorem put_out (f : Nat → Nat) {i n j : Nat} (f1 : Nat → Nat) (h : j < i ∨ i + n ≤ j) : put f i n f1 j = f j := by
  simp only [put]
  rw [if_neg (by omega)]
theorem Lt.put {B : Nat} {f f1 : Nat → Nat} {i n N : Nat} (h : Lt B f N) (h1 : Lt B f1 n) : Lt B (put f i n f1) N := fun j hj => by
  by_cases c : i ≤ j ∧ j < i + n
  · obtain ⟨m, rfl⟩ : ∃ m, j = i + m := ⟨j - i, by omega⟩
    rw [put_in f f1 (by omega)]
    exact h1 m (by omega)
  · rw [put_out f f1 (by omega)]
    exact h j hj

/-- what holds of the numbers when the limbs from i on of the quotient are there: fr the rest (N limbs), fq the quotient (Q limbs) -/
structure Long (B S D n Q : Nat) (fr fq : Nat → Nat) (i : Nat) : Prop where
  hr : Lt B fr (Q + n)
  hq : Lt B fq Q
  zr : ∀ j, i + n ≤ j → j < Q + n → fr j = 0
  zq : ∀ j, j < i → fq j = 0
  val : sm B fr (Q + n) + D * sm B fq Q = S
  lt : sm B (fun j => fr (i + j)) n < D

theorem Long.first {B S D n Q : Nat} {fr fq : Nat → Nat} {i : Nat} (H : Long B S D n Q fr fq (i + 1)) (hi : i < Q) : sm B (fun j => fr (i + j)) (n + 1) < D * B := by
  rw [sm_first]
  have h1 := H.hr i (by omega)
  have h2 : (sm B (fun j => fr (i + 1 + j)) n + 1) * B ≤ D * B := Nat.mul_le_mul_right _ H.lt
  rw [Nat.add_mul] at h2
  omega

theorem Long.step {B S D n Q : Nat} {fr fq : Nat → Nat} {i : Nat} (H : Long B S D n Q fr fq (i + 1)) (hi : i < Q) {f1 : Nat → Nat} (l1 : Lt B f1 (n + 1)) (hD : D < B ^ n) (hD0 : 0 < D)
    (h1 : sm B f1 (n + 1) = sm B (fun j => fr (i + j)) (n + 1) % D) : Long B S D n Q (put fr i (n + 1) f1) (upd fq i (sm B (fun j => fr (i + j)) (n + 1) / D)) i := by
  have hq := (Nat.div_lt_iff_lt_mul hD0).2 (by rw [Nat.mul_comm]; exact H.first hi)
  have hm := Nat.mod_lt (sm B (fun j => fr (i + j)) (n + 1)) hD0
  have hz := H.zr
  have e1 : sm B fr (Q + n) = sm B fr (i + (n + 1)) := sm_above (fun j a b => hz j (by omega) b) (by omega)
  have e2 : sm B (put fr i (n + 1) f1) (Q + n) = sm B (put fr i (n + 1) f1) (i + (n + 1)) := sm_above (fun j a b => by rw [put_out fr f1 (by omega)]; exact hz j (by omega) b) (by omega)
  have e3 : sm B (fun j => put fr i (n + 1) f1 (i + j)) (n + 1) = sm B f1 (n + 1) := sm_congr B fun j hj => put_in fr f1 hj
  have e4 : sm B (put fr i (n + 1) f1) i = sm B fr i := sm_congr B fun j hj => put_out fr f1 (by omega)
  have hf1 : f1 n = 0 := sm_small (by rw [h1]; omega)
  have hv := H.val
  rw [e1, sm_split] at hv
  rw [sm_split B (put fr i (n + 1) f1) i (n + 1), e3, e4, h1] at e2
  have e5 := sm_upd B fq (sm B (fun j => fr (i + j)) (n + 1) / D) hi
  rw [H.zq i (by omega)] at e5
  have e6 := Nat.div_add_mod (sm B (fun j => fr (i + j)) (n + 1)) D
  have e7 : sm B (fun j => put fr i (n + 1) f1 (i + j)) n = sm B f1 (n + 1) := by
    rw [sm_congr B (g := f1) (fun j hj => put_in fr f1 (by omega)), sm, hf1]; simp
  refine ⟨H.hr.put l1, H.hq.upd hq, fun j a b => ?_, fun j a => ?_, ?_, ?_⟩
  · by_cases c : j = i + n
    · subst c
      rw [put_in fr f1 (by omega)]; exact hf1
    · rw [put_out fr f1 (by omega)]; exact hz j (by omega) b
  · rw [upd_ne fq (by omega)]; exact H.zq j (by omega)
  · rw [e2]
    generalize sm B (fun j => fr (i + j)) (n + 1) = A at *
    generalize A / D = q at *
    generalize A % D = r at *
    generalize sm B (upd fq i q) Q = Z at *
    have c1 := congrArg (D * ·) e5
    simp only [Nat.mul_add, Nat.zero_mul, Nat.add_zero] at c1
    have c2 := congrArg (· * B ^ i) e6
    simp only [Nat.add_mul] at c2
    rw [c1, ← Nat.mul_assoc]
    omega
  · rw [e7, h1]; exact hm

theorem Long.last {B S D n Q : Nat} {fr fq : Nat → Nat} (H : Long B S D n Q fr fq 0) : sm B fq Q = S / D ∧ sm B fr (Q + n) = S % D := by
  have hl := H.lt
  simp only [Nat.zero_add] at hl
  have e1 : sm B fr (Q + n) = sm B fr n := sm_above (fun j a b => H.zr j (by omega) b) (by omega)
  have hv := H.val
  rw [e1] at hv ⊢
  have h0 : 0 < D := by omega
  rw [← hv, Nat.add_mul_mod_self_left, Nat.mod_eq_of_lt hl, Nat.add_mul_div_left _ _ h0, Nat.div_eq_of_lt hl]
  exact ⟨by omega, rfl⟩

end Go.Proofs.Ytljbnnpmnoejeaa.nn
namespace Go.Proofs.Ytljbnnpmnoejeaa.nn
open Go.RowKit

/-- the slice at address A reads as n integers f 0 .. f (n - 1) of kind k, in a block that is there -/
def Rd (w : World) (k : IntKind) (A : Option Addr) (n : Nat) (f : Nat → Nat) : Prop :=
  0 < n → ∃ b off, A = some ⟨b, off, none⟩ ∧ b < w.heap.size ∧ ∀ i, i < n → w.cell? ⟨b, off + i, none⟩ = some (.int k (f i : Int))

section
variable {w w' : World} {k : IntKind} {A : Option Addr} {n m : Nat} {f g : Nat → Nat}

theorem Rd.keep (h : Rd w k A n f) (hs : w.heap.size ≤ w'.heap.size) (hk : ∀ b o, b < w.heap.size → w'.cell? ⟨b, o, none⟩ = w.cell? ⟨b, o, none⟩) : Rd w' k A n f := fun hn => by
  obtain ⟨b, off, e, hb, hc⟩ := h hn
  exact ⟨b, off, e, by omega, fun i hi => (hk b _ hb).trans (hc i hi)⟩
theorem Rd.drewN (h : Rd w k A n f) (j : Nat) : Rd (w.drewN j) k A n f := h
theorem Rd.alloc (h : Rd w k A n f) (o : Obj) : Rd (w.alloc o) k A n f :=
  h.keep (by simp) fun _ _ hlt => World.cell?_alloc_lt w o _ hlt
theorem Rd.mono (h : Rd w k A n f) (hm : m ≤ n) : Rd w k A m f := fun h0 => by
  obtain ⟨b, off, e, hb, hc⟩ := h (by omega)
  exact ⟨b, off, e, hb, fun i hi => hc i (by omega)⟩
theorem Rd.lt {b o : Nat} (h : Rd w k A n f) (e : A = some ⟨b, o, none⟩) (h0 : 0 < n) : b < w.heap.size := by
  obtain ⟨b', o', e', hb, _⟩ := h h0
  rw [e] at e'
  injection e' with e'
  injection e' with e'
  omega
/-- the limbs as a list of values -/
def vl (k : IntKind) (f : Nat → Nat) (n : Nat) : List Value := (List.range n).map fun i => .int k (f i : Int)

theorem vl_length (k : IntKind) (f : Nat → Nat) (n : Nat) : (vl k f n).length = n := by simp [vl]
theorem vl_at (k : IntKind) (f : Nat → Nat) {n i : Nat} (h : i < n) : (vl k f n)[i]? = some (.int k (f i : Int)) := by simp [vl, h]
end

end Go.Proofs.Ytljbnnpmnoejeaa.nn
namespace Go.Proofs.Ytljbnnpmnoejeaa.nn
open Go.RowKit

/-- n limbs of f, then h's -/
def jn (f : Nat → Nat) (n : Nat) (h : Nat → Nat) : Nat → Nat := fun i => if i < n then f i else h (i - n)
theorem jn_lo (f h : Nat → Nat) {n i : Nat} (hi : i < n) : jn f n h i = f i := by simp [jn, hi]
theorem jn_hi (f h : Nat → Nat) (n i : Nat) : jn f n h (n + i) = h i := by
  rw [jn, if_neg (by omega), Nat.add_sub_cancel_left]
theorem sm_jn (B : Nat) (f h : Nat → Nat) (n m : Nat) : sm B (jn f n h) (n + m) = sm B f n + sm B h m * B ^ n := by
  rw [sm_split, sm_congr B (f := jn f n h) (g := f) (fun i hi => jn_lo f h hi), sm_congr B (f := fun i => jn f n h (n + i)) (g := h) (fun i _ => jn_hi f h n i)]
theorem Lt.jn {B : Nat} {f h : Nat → Nat} {n m : Nat} (lf : Lt B f n) (lh : Lt B h m) : Lt B (nn.jn f n h) (n + m) := fun i hi => by
  by_cases e : i < n
  · rw [jn_lo f h e]; exact lf i e
  · have := jn_hi f h n (i - n)
    rw [show n + (i - n) = i from by omega] at this
    rw [this]; exact lh _ (by omega)

/-- a new block of one cell -/
theorem rd_one (w : World) (K : IntKind) (x : Nat) (e : TypeId) : Rd (w.alloc (.cells #[.int K (x : Int)] e)) K (some ⟨w.heap.size, 0, none⟩) 1 (fun _ => x) := fun _ =>
  ⟨w.heap.size, 0, rfl, by simp, fun i hi => by
    obtain rfl : i = 0 := by omega
    rw [World.cell?_alloc_at _ _ _ _ rfl]; rfl⟩

section
variable {P : Program} {w : World}

end
end Go.Proofs.Ytljbnnpmnoejeaa.nn
namespace Go.Proofs.Ytljbnnpmnoejeaa.nn
open Go.RowKit

/-- block g is just the cells cur of element type e, none frozen -/
def Bk (w : World) (g : Nat) (e : TypeId) (cur : Array Value) : Prop := w.heap[g]? = some (.cells cur e (0, 0))

/-- from place off on stand the limbs f -/
def Ints (cur : Array Value) (k : IntKind) (off n : Nat) (f : Nat → Nat) : Prop := ∀ i, i < n → cur[off + i]? = some (.int k (f i : Int))

/-- in block g, between off and off + n alone, something was written -/
structure Wrote (w w' : World) (g : Nat) (e : TypeId) (cur cur' : Array Value) (off n : Nat) : Prop where
  blk : Bk w' g e cur'
  size : cur'.size = cur.size
  out : ∀ i, i < off ∨ off + n ≤ i → cur'[i]? = cur[i]?
  grown : w.grownBy w' (some g)
  hsize : w'.heap.size = w.heap.size

section
variable {w w' w'' : World} {g : Nat} {e : TypeId} {cur cur' cur'' : Array Value} {off n m i : Nat} {k : IntKind} {f : Nat → Nat}

theorem Bk.lt (h : Bk w g e cur) : g < w.heap.size := (Array.getElem?_eq_some_iff.1 h).1
theorem Bk.cell (h : Bk w g e cur) (i : Nat) : w.cell? ⟨g, i, none⟩ = cur[i]? := cell_of_row w g i cur e (0, 0) h
theorem Bk.set_ (h : Bk w g e cur) (i : Nat) (u : Value) : Bk (w.setCell ⟨g, i, none⟩ u) g e (cur.setIfInBounds i u) := by
  unfold Bk at h ⊢
  simp [World.setCell, Array.getElem?_modify, h]
theorem Bk.drewN (h : Bk w g e cur) (j : Nat) : Bk (w.drewN j) g e cur := h
theorem Bk.grown {row : Option Nat} (h : Bk w g e cur) (hb : w.grownBy w' row) (hg : some g ≠ row) : Bk w' g e cur := (hb.block g h.lt hg).trans h

theorem Ints.mono (h : Ints cur k off n f) (hm : m ≤ n) : Ints cur k off m f := fun i hi => h i (by omega)
theorem Ints.lt (h : Ints cur k off n f) (hi : i < n) : off + i < cur.size := (Array.getElem?_eq_some_iff.1 (h i hi)).1
theorem Ints.set_ (h : Ints cur k off n f) (i x : Nat) (hi : i < n) : Ints (cur.setIfInBounds (off + i) (.int k (x : Int))) k off n (upd f i x) := fun j hj => by
  rw [Array.getElem?_setIfInBounds]
  by_cases e : j = i
  · subst e; rw [if_pos rfl, if_pos (h.lt hi), upd_at]
  · rw [if_neg (by omega), upd_ne f e]; exact h j hj
theorem Ints.rd (h : Ints cur k off n f) (hb : Bk w g e cur) : Rd w k (some ⟨g, off, none⟩) n f := fun _ => ⟨g, off, rfl, hb.lt, fun i hi => (hb.cell _).trans (h i hi)⟩

theorem Wrote.refl (h : Bk w g e cur) (off n : Nat) : Wrote w w g e cur cur off n :=
  ⟨h, rfl, fun _ _ => rfl, ⟨rfl, rfl, rfl, Nat.le_refl _, fun _ _ _ => rfl⟩, rfl⟩
theorem Wrote.drewN (h : Wrote w w' g e cur cur' off n) (j : Nat) : Wrote w (w'.drewN j) g e cur cur' off n :=
  ⟨h.blk, h.size, h.out, ⟨h.grown.os, h.grown.tape, h.grown.output, h.grown.size, h.grown.block⟩, h.hsize⟩
theorem Wrote.set_ (h : Wrote w w' g e cur cur' off n) (i : Nat) (hi : i < n) (u : Value) : Wrote w (w'.setCell ⟨g, off + i, none⟩ u) g e cur (cur'.setIfInBounds (off + i) u) off n :=
  ⟨h.blk.set_ _ u, by rw [Array.size_setIfInBounds, h.size], fun j hj => by rw [Array.getElem?_setIfInBounds, if_neg (by omega)]; exact h.out j hj,
   ⟨h.grown.os, h.grown.tape, h.grown.output, by simpa [World.setCell] using h.grown.size, fun b hb hne => (Below.heap_setCell w' ⟨g, off + i, none⟩ u b (by rintro rfl; exact hne rfl)).trans (h.grown.block b hb hne)⟩,
   by simpa [World.setCell] using h.hsize⟩
theorem Wrote.trans (h : Wrote w w' g e cur cur' off n) (h' : Wrote w' w'' g e cur' cur'' off n) : Wrote w w'' g e cur cur'' off n :=
  ⟨h'.blk, h'.size.trans h.size, fun i hi => (h'.out i hi).trans (h.out i hi),
   ⟨h'.grown.os.trans h.grown.os, h'.grown.tape.trans h.grown.tape, h'.grown.output.trans h.grown.output, Nat.le_trans h.grown.size h'.grown.size,
    fun b hb hne => (h'.grown.block b (by have := h.hsize; omega) hne).trans (h.grown.block b hb hne)⟩, h'.hsize.trans h.hsize⟩
/-- a stretch within a stretch -/
theorem Wrote.wide (h : Wrote w w' g e cur cur' off n) {off' n' : Nat} (h1 : off' ≤ off) (h2 : off + n ≤ off' + n') : Wrote w w' g e cur cur' off' n' :=
  ⟨h.blk, h.size, fun i hi => h.out i (by omega), h.grown, h.hsize⟩
end

end Go.Proofs.Ytljbnnpmnoejeaa.nn
namespace Go.Proofs.Ytljbnnpmnoejeaa.nn
open Go.RowKit

/-- what holds when the first i limbs are added (m of h's), with the carry k -/
def AddRel (K : IntKind) (Bs : Nat) (w wr : World) (g : Nat) (e : TypeId) (cur : Array Value) (off n : Nat) (f h f' : Nat → Nat) (cur' : Array Value) (k i m : Nat) : Prop :=
  Wrote w wr g e cur cur' off n ∧ Ints cur' K off n f' ∧ Lt Bs f' n ∧ (∀ j, i ≤ j → j < n → f' j = f j) ∧
    sm Bs f' i + k * Bs ^ i = sm Bs f i + sm Bs h m

section
variable {K : IntKind} {Bs : Nat} {w wr : World} {g : Nat} {e : TypeId} {cur : Array Value} {off n : Nat} {f h f' : Nat → Nat} {cur' : Array Value} {k i m : Nat}

theorem carry_eq {a b c v k' Bs P : Nat} (hk : a + b + c = v + k' * Bs) : a * P + b * P + c * P = v * P + k' * (P * Bs) := by
  have e2 := congrArg (· * P) hk
  simp only [Nat.add_mul] at e2
  rw [Nat.mul_comm P Bs, ← Nat.mul_assoc]
  exact e2

theorem AddRel.step (H : AddRel K Bs w wr g e cur off n f h f' cur' k i i) (hi : i < n) (k' v : Nat) (hk : f' i + h i + k = v + k' * Bs) (hv : v < Bs) {z : Int} (hz : z = (v : Int)) :
    AddRel K Bs w (wr.setCell ⟨g, off + i, none⟩ (.int K z)) g e cur off n f h (upd f' i v) (cur'.setIfInBounds (off + i) (.int K (v : Int))) k' (i + 1) (i + 1) := by
  obtain ⟨h1, h2, h3, h4, h5⟩ := H
  rw [hz]
  refine ⟨h1.set_ i hi _, h2.set_ i _ hi, h3.upd hv, fun j ha hb => ?_, ?_⟩
  · rw [upd_ne f' (by omega)]; exact h4 j (by omega) hb
  · rw [sm_snoc, sm, sm, ← h4 i (Nat.le_refl _) hi, Nat.pow_succ]
    have := carry_eq (P := Bs ^ i) hk
    omega

/-- one more limb, of the greater number alone -/
theorem AddRel.more (H : AddRel K Bs w wr g e cur off n f h f' cur' k i m) (hi : i < n) (k' v : Nat) (hk : f' i + k = v + k' * Bs) (hv : v < Bs) {z : Int} (hz : z = (v : Int)) :
    AddRel K Bs w (wr.setCell ⟨g, off + i, none⟩ (.int K z)) g e cur off n f h (upd f' i v) (cur'.setIfInBounds (off + i) (.int K (v : Int))) k' (i + 1) m := by
  obtain ⟨h1, h2, h3, h4, h5⟩ := H
  rw [hz]
  refine ⟨h1.set_ i hi _, h2.set_ i _ hi, h3.upd hv, fun j ha hb => ?_, ?_⟩
  · rw [upd_ne f' (by omega)]; exact h4 j (by omega) hb
  · rw [sm_snoc, sm, ← h4 i (Nat.le_refl _) hi, Nat.pow_succ]
    have := carry_eq (a := f' i) (b := 0) (P := Bs ^ i) (by simpa using hk)
    omega

end
end Go.Proofs.Ytljbnnpmnoejeaa.nn
namespace Go.Proofs.Ytljbnnpmnoejeaa.nn
open Go.RowKit

/-- the base of wide limbs -/
def W64 : Nat := 18446744073709551616

/-- what holds when i limbs are done, with the carry k -/
def MulRel (w wr : World) (g : Nat) (e : TypeId) (cur : Array Value) (off n : Nat) (f h : Nat → Nat) (F : Nat) (f' : Nat → Nat) (cur' : Array Value) (k i : Nat) : Prop :=
  Wrote w wr g e cur cur' off n ∧ Ints cur' .u64 off n f' ∧ Lt W64 f' n ∧ (∀ j, i ≤ j → j < n → f' j = f j) ∧ sm W64 f' i + k * W64 ^ i = sm W64 f i + F * sm W64 h i

theorem MulRel.step {w wr : World} {g : Nat} {e : TypeId} {cur : Array Value} {off n : Nat} {f h : Nat → Nat} {F : Nat} {f' : Nat → Nat} {cur' : Array Value} {k i : Nat} (H : MulRel w wr g e cur off n f h F f' cur' k i) (hi : i < n) (k' v : Nat)
    (hk : f' i + h i * F + k = v + k' * W64) (hv : v < W64) :
    MulRel w (wr.setCell ⟨g, off + i, none⟩ (.int .u64 (v : Int))) g e cur off n f h F (upd f' i v) (cur'.setIfInBounds (off + i) (.int .u64 (v : Int))) k' (i + 1) := by
  obtain ⟨h1, h2, h3, h4, h5⟩ := H
  refine ⟨h1.set_ i hi _, h2.set_ i _ hi, h3.upd hv, fun j ha hb => ?_, ?_⟩
  · rw [upd_ne f' (by omega)]; exact h4 j (by omega) hb
  · have e1 : sm W64 f (i + 1) = sm W64 f i + f i * W64 ^ i := rfl
    have e2 : sm W64 h (i + 1) = sm W64 h i + h i * W64 ^ i := rfl
    rw [sm_snoc, e1, e2, ← h4 i (Nat.le_refl _) hi, Nat.pow_succ W64 i, Nat.mul_add]
    have := carry_eq (P := W64 ^ i) hk
    have e3 : F * (h i * W64 ^ i) = h i * F * W64 ^ i := by rw [← Nat.mul_assoc, Nat.mul_comm F]
    rw [e3]
    omega

end Go.Proofs.Ytljbnnpmnoejeaa.nn
namespace Go.Proofs.Ytljbnnpmnoejeaa.nn
open Go.RowKit

/-- a slice of slices of 32-bit limbs -/
def Rds (w : World) (A : Option Addr) (n : Nat) (AA : Nat → Option Addr) (L C : Nat → Nat) (F : Nat → Nat → Nat) : Prop :=
  0 < n → ∃ b off, A = some ⟨b, off, none⟩ ∧ b < w.heap.size ∧ ∀ i, i < n → w.cell? ⟨b, off + i, none⟩ = some (.slice (AA i) (L i) (C i)) ∧ L i ≤ C i ∧ C i ≤ maxLen ∧ Rd w .u32 (AA i) (L i) (F i)

theorem Rds.keep {w w' : World} {A : Option Addr} {n : Nat} {AA : Nat → Option Addr} {L C : Nat → Nat} {F : Nat → Nat → Nat} (h : Rds w A n AA L C F)
    (hs : w.heap.size ≤ w'.heap.size) (hk : ∀ b o, b < w.heap.size → w'.cell? ⟨b, o, none⟩ = w.cell? ⟨b, o, none⟩) : Rds w' A n AA L C F := fun hn => by
  obtain ⟨b, off, e, hb, hc⟩ := h hn
  exact ⟨b, off, e, by omega, fun i hi => ⟨(hk b _ hb).trans (hc i hi).1, (hc i hi).2.1, (hc i hi).2.2.1, (hc i hi).2.2.2.keep hs hk⟩⟩
end Go.Proofs.Ytljbnnpmnoejeaa.nn
namespace Go.Proofs.Ytljbnnpmnoejeaa.nn
open Go.RowKit

/-- the slice at A of length n reads as the trimmed number R -/
structure Num (w : World) (A : Option Addr) (n c : Nat) (f : Nat → Nat) (R : Nat) : Prop where
  le : n ≤ c
  cap : c ≤ maxLen
  rd : Rd w .u32 A n f
  lt : Lt (2 ^ 32) f n
  trm : Trm f n
  val : sm (2 ^ 32) f n = R

end Go.Proofs.Ytljbnnpmnoejeaa.nn
namespace Go.Proofs.Ytljbnnpmnoejeaa.nn
open Go.RowKit

theorem hsz (w : World) (o : Obj) : (w.alloc o).heap.size = w.heap.size + 1 := by simp
end Go.Proofs.Ytljbnnpmnoejeaa.nn
namespace Go.Proofs.Ytljbnnpmnoejeaa.nn
open Go.RowKit

theorem ret_int {k : IntKind} {a b : Int} (h : a = b) : Ending.returned (.int k a) = .returned (.int k b) := by rw [h]

end Go.Proofs.Ytljbnnpmnoejeaa.nn
namespace Go.Proofs.Ytljbnnpmnoejeaa.nn
open Go.RowKit

/-- what holds at the head of sum's loop -/
def SumRel (base : Nat) (w0 wr : World) (s : Value) (i k : Nat) (F : Nat → Nat) (G : Nat → Nat) : Prop :=
  ∃ f' : Nat → Nat, wr.ownsRow base 44 1 s i (vl .u32 f' i) ∧ Below base w0 wr ∧ base ≤ wr.heap.size ∧ Lt (2 ^ 32) f' i ∧ k ≤ 1 ∧ sm (2 ^ 32) f' i + k * (2 ^ 32) ^ i = sm (2 ^ 32) F i + sm (2 ^ 32) G i

theorem pow_s (B i : Nat) : B ^ (i + 1) = B ^ i * B := Nat.pow_succ B i

theorem SumRel.step {base : Nat} {w0 wr w1 : World} {v : Value} {i k : Nat} {F G f' : Nat → Nat} (o : Obj) (hF : F i < 2 ^ 32) (hG : G i < 2 ^ 32)
    (h2 : Below base w0 wr) (h3 : base ≤ wr.heap.size) (h4 : Lt (2 ^ 32) f' i) (h5 : k ≤ 1) (h6 : sm (2 ^ 32) f' i + k * (2 ^ 32) ^ i = sm (2 ^ 32) F i + sm (2 ^ 32) G i)
    (ho : w1.ownsRow base 44 1 v (i + 1) (vl .u32 (jn f' i (fun _ => (k + F i + G i) % 4294967296)) (i + 1))) (hb : Below base (wr.alloc o) w1) :
    SumRel base w0 w1 v (i + 1) ((k + F i + G i) / 4294967296) F G := by
  have hb1 := (h2.alloc h3 o).trans hb
  have hs := hb.size
  rw [hsz] at hs
  refine ⟨_, ho, hb1, by omega, h4.jn (m := 1) (fun _ _ => Nat.mod_lt _ (by decide)), by omega, ?_⟩
  have e1 : sm (2 ^ 32) (fun _ => (k + F i + G i) % 4294967296) 1 = (k + F i + G i) % 4294967296 := by simp [sm]
  rw [sm_jn, e1]
  simp only [sm]
  rw [pow_s (2 ^ 32) i]
  have e := carry_eq (P := (2 ^ 32) ^ i) (Bs := 2 ^ 32) (a := F i) (b := G i) (c := k) (v := (k + F i + G i) % 4294967296) (k' := (k + F i + G i) / 4294967296) (by omega)
  omega

end Go.Proofs.Ytljbnnpmnoejeaa.nn
namespace Go.Proofs.Ytljbnnpmnoejeaa.nn
open Go.RowKit

theorem w64_pow (j : Nat) : W64 ^ j = (2 ^ 32) ^ (2 * j) := by
  rw [Nat.pow_mul (2 ^ 32) 2 j]
  rfl

end Go.Proofs.Ytljbnnpmnoejeaa.nn
namespace Go.Proofs.Ytljbnnpmnoejeaa.nn
open Go.RowKit

/-- what holds when the limbs from t on are divided, with the rest r -/
def DivRel (w wr : World) (g : Nat) (e : TypeId) (cur : Array Value) (off n : Nat) (f : Nat → Nat) (d : Nat) (f' : Nat → Nat) (cur' : Array Value) (r t : Nat) : Prop :=
  Wrote w wr g e cur cur' off n ∧ Ints cur' .u64 off n f' ∧ Lt W64 f' n ∧ r < d ∧ sm W64 f n + d * sm W64 f' t = d * sm W64 f' n + r * W64 ^ t + sm W64 f' t

theorem DivRel.step {w wr : World} {g : Nat} {e : TypeId} {cur : Array Value} {off n : Nat} {f : Nat → Nat} {d : Nat} {f' : Nat → Nat} {cur' : Array Value} {r s q r' : Nat} (H : DivRel w wr g e cur off n f d f' cur' r (s + 1)) (hs : s < n) (j : Nat)
    (hq : d * q + r' = r * W64 + f' s) (hqq : q < W64) (hr : r' < d) :
    DivRel w ((wr.drewN j).setCell ⟨g, off + s, none⟩ (.int .u64 (q : Int))) g e cur off n f d (upd f' s q) (cur'.setIfInBounds (off + s) (.int .u64 (q : Int))) r' s := by
  obtain ⟨h1, h2, h3, _, h5⟩ := H
  refine ⟨(h1.drewN j).set_ s hs _, h2.set_ s _ hs, h3.upd hqq, hr, ?_⟩
  have a1 := sm_upd W64 f' q hs
  have a2 : sm W64 f' (s + 1) = sm W64 f' s + f' s * W64 ^ s := rfl
  rw [sm_upd_out W64 f' q (Nat.le_refl s)]
  rw [a2, Nat.pow_succ W64 s, Nat.mul_add d] at h5
  have b1 := congrArg (d * ·) a1
  simp only [Nat.mul_add] at b1
  have b2 := congrArg (· * W64 ^ s) hq
  simp only [Nat.add_mul] at b2
  have b3 : d * (q * W64 ^ s) = d * q * W64 ^ s := by rw [Nat.mul_assoc]
  have b4 : r * (W64 ^ s * W64) = r * W64 * W64 ^ s := by rw [Nat.mul_comm (W64 ^ s), ← Nat.mul_assoc]
  rw [b3] at b1
  rw [b4] at h5
  omega

end Go.Proofs.Ytljbnnpmnoejeaa.nn
namespace Go.Proofs.Ytljbnnpmnoejeaa.nn
open Go.RowKit

/-- what holds at the loop's head -/
structure GsRel (U d y1 y0 q r hi lo : Nat) : Prop where
  gs : Guess W64 U d y1 y0 q r
  mul : q * y0 = hi * W64 + lo
  qlt : q < W64
  rlt : r < W64
  llt : lo < W64

theorem GsRel.more {U d y1 y0 q r hi lo : Nat} (H : GsRel U d y1 y0 q r hi lo) (hc : r < hi ∨ (hi = r ∧ d < lo)) (hd : d < W64) : 0 < q ∧ Guess W64 U d y1 y0 (q - 1) (r + y1) := by
  refine H.gs.next ?_
  rw [H.mul]
  rcases hc with hc | ⟨hc, hl⟩
  · have : (r + 1) * W64 ≤ hi * W64 := Nat.mul_le_mul_right _ hc
    rw [Nat.add_mul] at this
    omega
  · subst hc; omega

end Go.Proofs.Ytljbnnpmnoejeaa.nn
namespace Go.Proofs.Ytljbnnpmnoejeaa.nn
open Go.RowKit

/-- difference and borrow -/
def sd (x y b : Nat) : Nat := (x + 4294967296 - y - b) % 4294967296
def sb (x y b : Nat) : Nat := if x < y + b then 1 else 0

end Go.Proofs.Ytljbnnpmnoejeaa.nn
namespace Go.Proofs.Ytljbnnpmnoejeaa.nn
open Go.RowKit

/-- what holds at the head of less's loop -/
def LessRel (base : Nat) (w0 wr : World) (s : Value) (i k : Nat) (F G : Nat → Nat) : Prop :=
  ∃ f' : Nat → Nat, wr.ownsRow base 44 1 s i (vl .u32 f' i) ∧ Below base w0 wr ∧ base ≤ wr.heap.size ∧ Lt (2 ^ 32) f' i ∧ sm (2 ^ 32) F i + k * (2 ^ 32) ^ i = sm (2 ^ 32) f' i + sm (2 ^ 32) G i

theorem borrow_eq {a b c v k' Bs P : Nat} (hk : a + k' * Bs = v + b + c) : a * P + k' * (P * Bs) = v * P + b * P + c * P := by
  have e2 := congrArg (· * P) hk
  simp only [Nat.add_mul] at e2
  rw [Nat.mul_comm P Bs, ← Nat.mul_assoc]
  exact e2

theorem LessRel.step {base : Nat} {w0 wr w1 : World} {v : Value} {i k : Nat} {F G f' : Nat → Nat} (o : Obj) (hF : F i < 2 ^ 32) (hG : G i < 2 ^ 32) (hk : k ≤ 1)
    (h2 : Below base w0 wr) (h3 : base ≤ wr.heap.size) (h4 : Lt (2 ^ 32) f' i) (h6 : sm (2 ^ 32) F i + k * (2 ^ 32) ^ i = sm (2 ^ 32) f' i + sm (2 ^ 32) G i)
    (ho : w1.ownsRow base 44 1 v (i + 1) (vl .u32 (jn f' i (fun _ => (F i + 4294967296 - G i - k) % 4294967296)) (i + 1))) (hb : Below base (wr.alloc o) w1) :
    LessRel base w0 w1 v (i + 1) (1 - (F i + 4294967296 - G i - k) / 4294967296) F G := by
  have hb1 := (h2.alloc h3 o).trans hb
  have hs := hb.size
  rw [hsz] at hs
  refine ⟨_, ho, hb1, by omega, h4.jn (m := 1) (fun _ _ => Nat.mod_lt _ (by decide)), ?_⟩
  have e1 : sm (2 ^ 32) (fun _ => (F i + 4294967296 - G i - k) % 4294967296) 1 = (F i + 4294967296 - G i - k) % 4294967296 := by simp [sm]
  rw [sm_jn, e1]
  simp only [sm]
  rw [pow_s (2 ^ 32) i]
  have e := borrow_eq (P := (2 ^ 32) ^ i) (Bs := 2 ^ 32) (a := F i) (b := G i) (c := k) (v := (F i + 4294967296 - G i - k) % 4294967296) (k' := 1 - (F i + 4294967296 - G i - k) / 4294967296) (by omega)
  omega

/-- one of two -/
def two {α : Type} (x y : α) : Nat → α := fun i => match i with | 0 => x | _ + 1 => y

end Go.Proofs.Ytljbnnpmnoejeaa.nn
namespace Go.Proofs.Ytljbnnpmnoejeaa.nn
open Go.RowKit

/-- what holds when the first i limbs are done, with the borrow k -/
def SubRel (w wr : World) (g : Nat) (e : TypeId) (cur : Array Value) (off n : Nat) (f G f' : Nat → Nat) (cur' : Array Value) (k i : Nat) : Prop :=
  Wrote w wr g e cur cur' off n ∧ Ints cur' .u32 off n f' ∧ Lt (2 ^ 32) f' n ∧ (∀ j, i ≤ j → j < n → f' j = f j) ∧
    sm (2 ^ 32) f i + k * (2 ^ 32) ^ i = sm (2 ^ 32) f' i + sm (2 ^ 32) G i

theorem SubRel.step {w wr : World} {g : Nat} {e : TypeId} {cur : Array Value} {off n : Nat} {f G f' : Nat → Nat} {cur' : Array Value} {k i : Nat} (H : SubRel w wr g e cur off n f G f' cur' k i) (hi : i < n) (hG : G i < 4294967296) (hk : k ≤ 1) :
    SubRel w (wr.setCell ⟨g, off + i, none⟩ (.int .u32 (sd (f' i) (G i) k : Nat))) g e cur off n f G (upd f' i (sd (f' i) (G i) k)) (cur'.setIfInBounds (off + i) (.int .u32 (sd (f' i) (G i) k : Nat))) (sb (f' i) (G i) k) (i + 1) := by
  obtain ⟨h1, h2, h3, h4, h5⟩ := H
  have hx : f' i < 2 ^ 32 := h3 i hi
  refine ⟨h1.set_ i hi _, h2.set_ i _ hi, h3.upd (Nat.mod_lt _ (by decide)), fun j ha hb => ?_, ?_⟩
  · rw [upd_ne f' (by omega)]; exact h4 j (by omega) hb
  · rw [sm_snoc]
    simp only [sm]
    rw [pow_s (2 ^ 32) i, ← h4 i (Nat.le_refl _) hi]
    have e := borrow_eq (P := (2 ^ 32) ^ i) (Bs := 2 ^ 32) (a := f' i) (b := G i) (c := k) (v := sd (f' i) (G i) k) (k' := sb (f' i) (G i) k) (by unfold sd sb; split <;> omega)
    omega

end Go.Proofs.Ytljbnnpmnoejeaa.nn
namespace Go.Proofs.Ytljbnnpmnoejeaa.nn
open Go.RowKit

/-- difference and borrow at 64 bits -/
def sd64 (x y b : Nat) : Nat := (x + W64 - y - b) % W64
def sb64 (x y b : Nat) : Nat := if x < y + b then 1 else 0
theorem sb64_le (x y b : Nat) : sb64 x y b ≤ 1 := by unfold sb64; split <;> omega
theorem sd64_lt (x y b : Nat) : sd64 x y b < W64 := Nat.mod_lt _ (by decide)
theorem sd64_eq {x y b : Nat} (hx : x < W64) (hy : y < W64) (hb : b ≤ 1) : sd64 x y b + y + b = x + sb64 x y b * W64 := by
  unfold sd64 sb64 W64 at *
  split <;> omega

/-- what holds when i limbs are done, with the carry k and the borrow b -/
def StRel (w wr : World) (g : Nat) (e : TypeId) (cur : Array Value) (off n : Nat) (f h : Nat → Nat) (F : Nat) (f' : Nat → Nat) (cur' : Array Value) (k b i : Nat) : Prop :=
  Wrote w wr g e cur cur' off n ∧ Ints cur' .u64 off n f' ∧ Lt W64 f' n ∧ (∀ j, i ≤ j → j < n → f' j = f j) ∧ sm W64 f' i + F * sm W64 h i = sm W64 f i + (k + b) * W64 ^ i ∧ k < W64 ∧ b ≤ 1

theorem StRel.step {w wr : World} {g : Nat} {e : TypeId} {cur : Array Value} {off n : Nat} {f h : Nat → Nat} {F : Nat} {f' : Nat → Nat} {cur' : Array Value} {k b i : Nat} (H : StRel w wr g e cur off n f h F f' cur' k b i) (hi : i < n) (l k' : Nat)
    (hk : h i * F + k = l + k' * W64) (hl : l < W64) (hk' : k' < W64) :
    StRel w (wr.setCell ⟨g, off + i, none⟩ (.int .u64 ((sd64 (f' i) l b : Nat) : Int))) g e cur off n f h F (upd f' i (sd64 (f' i) l b)) (cur'.setIfInBounds (off + i) (.int .u64 ((sd64 (f' i) l b : Nat) : Int))) k' (sb64 (f' i) l b) (i + 1) := by
  obtain ⟨h1, h2, h3, h4, h5, _, h7⟩ := H
  refine ⟨h1.set_ i hi _, h2.set_ i _ hi, h3.upd (sd64_lt _ _ _), fun j ha hb => ?_, ?_, hk', sb64_le _ _ _⟩
  · rw [upd_ne f' (by omega)]; exact h4 j (by omega) hb
  · have e1 : sm W64 f (i + 1) = sm W64 f i + f i * W64 ^ i := rfl
    have e2 : sm W64 h (i + 1) = sm W64 h i + h i * W64 ^ i := rfl
    have e4 := sd64_eq (h3 i hi) hl h7
    rw [sm_snoc, e1, e2, Nat.pow_succ W64 i, Nat.mul_add]
    rw [h4 i (Nat.le_refl _) hi] at e4 ⊢
    generalize sd64 (f i) l b = v at *
    generalize sb64 (f i) l b = b' at *
    have c1 := congrArg (· * W64 ^ i) e4
    have c2 := congrArg (· * W64 ^ i) hk
    simp only [Nat.add_mul] at c1 c2 h5 ⊢
    have e3 : F * (h i * W64 ^ i) = h i * F * W64 ^ i := by rw [← Nat.mul_assoc, Nat.mul_comm F]
    have e5 : k' * (W64 ^ i * W64) = k' * W64 * W64 ^ i := by rw [Nat.mul_comm (W64 ^ i), ← Nat.mul_assoc]
    have e6 : b' * (W64 ^ i * W64) = b' * W64 * W64 ^ i := by rw [Nat.mul_comm (W64 ^ i), ← Nat.mul_assoc]
    rw [e3, e5, e6]
    omega

/-- behind subTimes: the difference, or, with the borrow 1, one power more -/
def StEnd (w w' : World) (g : Nat) (e : TypeId) (cur : Array Value) (off n : Nat) (f h : Nat → Nat) (F : Nat) (e' : Ending) : Prop :=
  ∃ (b : Nat) (f' : Nat → Nat) (cur' : Array Value), e' = .returned (.int .u64 (b : Int)) ∧ b ≤ 1 ∧ Wrote w w' g e cur cur' off (n + 1) ∧ Ints cur' .u64 off (n + 1) f' ∧ Lt W64 f' (n + 1) ∧ sm W64 f' (n + 1) + F * sm W64 h n = sm W64 f (n + 1) + b * W64 ^ (n + 1)

theorem StRel.last {w wr : World} {g : Nat} {e : TypeId} {cur : Array Value} {off n : Nat} {f h : Nat → Nat} {F : Nat} {f' : Nat → Nat} {cur' : Array Value} {k b : Nat} (H : StRel w wr g e cur off (n + 1) f h F f' cur' k b n) :
    StEnd w (wr.setCell ⟨g, off + n, none⟩ (.int .u64 ((sd64 (f' n) k b : Nat) : Int))) g e cur off n f h F (.returned (.int .u64 ((sb64 (f' n) k b : Nat) : Int))) := by
  obtain ⟨h1, h2, h3, h4, h5, h6, h7⟩ := H
  refine ⟨_, _, _, rfl, sb64_le _ _ _, h1.set_ n (Nat.lt_succ_self n) _, h2.set_ n _ (Nat.lt_succ_self n), h3.upd (sd64_lt _ _ _), ?_⟩
  have e1 : sm W64 f (n + 1) = sm W64 f n + f n * W64 ^ n := rfl
  have e4 := sd64_eq (h3 n (Nat.lt_succ_self n)) h6 h7
  rw [sm_snoc, e1, Nat.pow_succ W64 n]
  rw [h4 n (Nat.le_refl _) (Nat.lt_succ_self n)] at e4 ⊢
  generalize sd64 (f n) k b = v at *
  generalize sb64 (f n) k b = b' at *
  have c1 := congrArg (· * W64 ^ n) e4
  simp only [Nat.add_mul] at c1 h5 ⊢
  have e6 : b' * (W64 ^ n * W64) = b' * W64 * W64 ^ n := by rw [Nat.mul_comm (W64 ^ n), ← Nat.mul_assoc]
  rw [e6]
  omega

end Go.Proofs.Ytljbnnpmnoejeaa.nn
namespace Go.Proofs.Ytljbnnpmnoejeaa.nn
open Go.RowKit

/-- a slice as the cells that copy reads -/
theorem Rd.cells {w : World} {K : IntKind} {A : Option Addr} {n : Nat} {f : Nat → Nat} (h : Rd w K A n f) (h0 : 0 < n) : ∃ ad, A = some ad ∧ ∀ j u, (vl K f n)[j]? = some u → w.cell? (ad.add j) = some u := by
  obtain ⟨b, off, e, _, hc⟩ := h h0
  refine ⟨_, e, fun j u hu => ?_⟩
  have hj : j < n := by
    have := (List.getElem?_eq_some_iff.1 hu).1
    rwa [vl_length] at this
  rw [vl_at K f hj] at hu
  injection hu with hu
  subst hu
  have hadd : (⟨b, off, none⟩ : Addr).add j = ⟨b, off + j, none⟩ := by unfold Addr.add; split <;> simp_all
  rw [hadd]
  exact hc j hj

/-- what holds at the loop's head, with t limbs of the quotient still to come -/
def DivLoop (w7 wr : World) (g1 g2 : Nat) (e : TypeId) (Q S D m t : Nat) : Prop :=
  ∃ (fr : Nat → Nat) (cur1 : Array Value) (fq : Nat → Nat) (cur2 : Array Value), Bk wr g1 e cur1 ∧ Ints cur1 .u64 0 (Q + m) fr ∧ Bk wr g2 e cur2 ∧ Ints cur2 .u64 0 Q fq ∧ Long W64 S D m Q fr fq t ∧ Below g1 w7 wr

/-- behind one limb -/
theorem DivLoop.step {w7 wr w8 : World} {g1 g2 : Nat} {e : TypeId} {Q S D m i : Nat} {fr : Nat → Nat} {cur1 : Array Value} {fq : Nat → Nat} {cur2 cur1' : Array Value} {f1 : Nat → Nat}
    (hg : g1 < g2) (hg7 : g1 ≤ w7.heap.size) (hi1 : Ints cur1 .u64 0 (Q + m) fr) (hb2 : Bk wr g2 e cur2) (hi2 : Ints cur2 .u64 0 Q fq) (hL : Long W64 S D m Q fr fq (i + 1)) (hB : Below g1 w7 wr) (hi : i < Q) (hD : D < W64 ^ m) (hD0 : 0 < D)
    (hw : Wrote wr w8 g1 e cur1 cur1' i (m + 1)) (hi' : Ints cur1' .u64 i (m + 1) f1) (l1 : Lt W64 f1 (m + 1)) (hv : sm W64 f1 (m + 1) = sm W64 (fun j => fr (i + j)) (m + 1) % D) :
    DivLoop w7 (w8.setCell ⟨g2, i, none⟩ (.int .u64 ((sm W64 (fun j => fr (i + j)) (m + 1) / D : Nat) : Int))) g1 g2 e Q S D m i := by
  have hbk1 := hw.blk
  have hbk2 := hb2.grown hw.grown (by intro h; injection h with h; omega)
  have hw2 := (Wrote.refl hbk2 0 Q).set_ i hi (.int .u64 ((sm W64 (fun j => fr (i + j)) (m + 1) / D : Nat) : Int))
  have h2 := hi2.set_ i (sm W64 (fun j => fr (i + j)) (m + 1) / D) hi
  simp only [Nat.zero_add] at hw2 h2
  have hB1 := (hB.grown hw.grown (Nat.le_trans hg7 hB.size) (fun k hk => by injection hk with hk; omega))
  refine ⟨put fr i (m + 1) f1, cur1', _, _, hbk1.grown hw2.grown (by intro h; injection h with h; omega), fun j hj => ?_, hw2.blk, h2, hL.step hi l1 hD hD0 hv, hB1.grown hw2.grown (Nat.le_trans hg7 hB1.size) (fun k hk => by injection hk with hk; omega)⟩
  rw [Nat.zero_add]
  by_cases c : i ≤ j ∧ j < i + (m + 1)
  · obtain ⟨k, rfl⟩ : ∃ k, j = i + k := ⟨j - i, by omega⟩
    rw [put_in fr f1 (by omega)]
    exact hi' k (by omega)
  · rw [put_out fr f1 (by omega), hw.out j (by omega)]
    have := hi1 j hj
    rwa [Nat.zero_add] at this

end Go.Proofs.Ytljbnnpmnoejeaa.nn
namespace Go.Proofs.Ytljbnnpmnoejeaa.nn
open Go.RowKit

/-- one of two limbs -/
def duo (x y : Nat) : Nat → Nat := fun i => if i = 0 then x else y

/-- what holds when i wide limbs are cut -/
def NarRel (base : Nat) (w0 wr : World) (s : Value) (i : Nat) (f : Nat → Nat) : Prop :=
  ∃ f' : Nat → Nat, wr.ownsRow base 44 1 s (2 * i) (vl .u32 f' (2 * i)) ∧ Below base w0 wr ∧ base ≤ wr.heap.size ∧ Lt (2 ^ 32) f' (2 * i) ∧ sm (2 ^ 32) f' (2 * i) = sm W64 f i

theorem NarRel.step {base : Nat} {w0 wr w1 : World} {v : Value} {i : Nat} {f f' : Nat → Nat} (o : Obj) (h2 : Below base w0 wr) (h3 : base ≤ wr.heap.size) (h4 : Lt (2 ^ 32) f' (2 * i)) (h5 : sm (2 ^ 32) f' (2 * i) = sm W64 f i) (hx : f i < W64)
    (ho : w1.ownsRow base 44 1 v (2 * i + 2) (vl .u32 (jn f' (2 * i) (duo (f i % 4294967296) (f i / 4294967296))) (2 * i + 2))) (hb : Below base (wr.alloc o) w1) : NarRel base w0 w1 v (i + 1) f := by
  have hb1 := (h2.alloc h3 o).trans hb
  have hs := hb.size
  rw [hsz] at hs
  have e : 2 * (i + 1) = 2 * i + 2 := by omega
  refine ⟨jn f' (2 * i) (duo (f i % 4294967296) (f i / 4294967296)), by rw [e]; exact ho, hb1, by omega, ?_, ?_⟩
  · rw [e]
    refine h4.jn (m := 2) (fun j hj => ?_)
    unfold duo
    unfold W64 at hx
    split <;> omega
  · rw [e, sm_jn, h5]
    have e1 : sm W64 f (i + 1) = sm W64 f i + f i * W64 ^ i := rfl
    have e2 : sm (2 ^ 32) (duo (f i % 4294967296) (f i / 4294967296)) 2 = f i := by
      simp [sm, duo]
      omega
    rw [e1, e2, w64_pow]

end Go.Proofs.Ytljbnnpmnoejeaa.nn
namespace Go.Proofs.Ytljbnnpmnoejeaa.nn
open Go.RowKit

/-- what holds when i limbs of f are done: the lowest i + m places hold f's first i limbs times h, the rest is 0 -/
def ProdRel (w wr : World) (g : Nat) (e : TypeId) (cur : Array Value) (n m : Nat) (f h : Nat → Nat) (i : Nat) : Prop :=
  ∃ (f' : Nat → Nat) (cur' : Array Value), Wrote w wr g e cur cur' 0 (n + m) ∧ Ints cur' .u64 0 (n + m) f' ∧ Lt W64 f' (n + m) ∧ sm W64 f' (i + m) = sm W64 f i * sm W64 h m ∧ ∀ j, i + m ≤ j → j < n + m → f' j = 0

/-- behind one row: the stretch from i on is rewritten, the carry is stored behind it -/
theorem ProdRel.step {w wr w1 : World} {g : Nat} {e : TypeId} {cur cur' cur1 : Array Value} {n m i k : Nat} {f h f' f1 : Nat → Nat} (hw : Wrote w wr g e cur cur' 0 (n + m)) (hin : Ints cur' .u64 0 (n + m) f') (lf' : Lt W64 f' (n + m))
    (hv : sm W64 f' (i + m) = sm W64 f i * sm W64 h m) (hz : ∀ j, i + m ≤ j → j < n + m → f' j = 0) (hi : i < n) (hk : k < W64)
    (hm : MulRel wr w1 g e cur' i m (fun j => f' (i + j)) h (f i) f1 cur1 k m) :
    ProdRel w (w1.setCell ⟨g, i + m, none⟩ (.int .u64 (k : Int))) g e cur n m f h (i + 1) := by
  obtain ⟨h1, h2, h3, _, h5⟩ := hm
  have hw1 := hw.trans (h1.wide (off' := 0) (n' := n + m) (by omega) (by omega))
  have hi1 : Ints cur1 .u64 0 (n + m) (fun j => if i ≤ j ∧ j < i + m then f1 (j - i) else f' j) := fun j hj => by
    rw [Nat.zero_add]
    by_cases hc : i ≤ j ∧ j < i + m
    · have := h2 (j - i) (by omega)
      rw [show i + (j - i) = j by omega] at this
      simp only [if_pos hc]
      exact this
    · simp only [if_neg hc]
      have := hin j hj
      rw [Nat.zero_add] at this
      rw [h1.out j (by omega)]
      exact this
  have lf1 : Lt W64 (fun j => if i ≤ j ∧ j < i + m then f1 (j - i) else f' j) (n + m) := fun j hj => by
    by_cases hc : i ≤ j ∧ j < i + m
    · simp only [if_pos hc]; exact h3 _ (by omega)
    · simp only [if_neg hc]; exact lf' j hj
  have h6 := hw1.set_ (i + m) (by omega) (.int .u64 (k : Int))
  have h7 := hi1.set_ (i + m) k (by omega)
  simp only [Nat.zero_add] at h6 h7
  refine ⟨_, _, h6, h7, lf1.upd hk, ?_, fun j ha hb => ?_⟩
  · rw [show i + 1 + m = (i + m) + 1 by omega, sm_snoc, sm_split W64 _ i m]
    rw [sm_split W64 f' i m] at hv
    have e1 : sm W64 (fun j => if i ≤ j ∧ j < i + m then f1 (j - i) else f' j) i = sm W64 f' i := sm_congr _ fun j hj => by rw [if_neg (by omega)]
    have e2 : sm W64 (fun t => (fun j => if i ≤ j ∧ j < i + m then f1 (j - i) else f' j) (i + t)) m = sm W64 f1 m := sm_congr _ fun j hj => by
      show (if i ≤ i + j ∧ i + j < i + m then f1 (i + j - i) else f' (i + j)) = _
      rw [if_pos (by omega), Nat.add_sub_cancel_left]
    have e3 : sm W64 f (i + 1) = sm W64 f i + f i * W64 ^ i := rfl
    rw [e1, e2, e3, Nat.add_mul, ← hv, Nat.pow_add]
    have h8 := congrArg (· * W64 ^ i) h5
    simp only [Nat.add_mul] at h8
    have e4 : k * (W64 ^ i * W64 ^ m) = k * W64 ^ m * W64 ^ i := by ac_rfl
    have e5 : f i * W64 ^ i * sm W64 h m = f i * sm W64 h m * W64 ^ i := by ac_rfl
    rw [e4, e5]
    omega
  · rw [upd_ne _ (by omega)]
    rw [if_neg (by omega)]
    exact hz j (by omega) hb

end Go.Proofs.Ytljbnnpmnoejeaa.nn
namespace Go.Proofs.Ytljbnnpmnoejeaa.nn
open Go.RowKit

/-- what holds when i limbs are done, with k to carry -/
def TpRel (w wr : World) (g : Nat) (e : TypeId) (cur : Array Value) (n : Nat) (f : Nat → Nat) (F M : Nat) (f' : Nat → Nat) (cur' : Array Value) (k i : Nat) : Prop :=
  Wrote w wr g e cur cur' 0 n ∧ Ints cur' .u64 0 n f' ∧ Lt W64 f' n ∧ (∀ j, i ≤ j → j < n → f' j = f j) ∧ sm W64 f' i + k * W64 ^ i = sm W64 f i * F + M
theorem TpRel.step {w wr : World} {g : Nat} {e : TypeId} {cur : Array Value} {n : Nat} {f : Nat → Nat} {F M : Nat} {f' : Nat → Nat} {cur' : Array Value} {k i : Nat} (H : TpRel w wr g e cur n f F M f' cur' k i) (hi : i < n) (k' v : Nat)
    (hk : f' i * F + k = v + k' * W64) (hv : v < W64) :
    TpRel w (wr.setCell ⟨g, i, none⟩ (.int .u64 (v : Int))) g e cur n f F M (upd f' i v) (cur'.setIfInBounds i (.int .u64 (v : Int))) k' (i + 1) := by
  obtain ⟨h1, h2, h3, h4, h5⟩ := H
  have a := h1.set_ i hi (.int .u64 (v : Int))
  have b := h2.set_ i v hi
  rw [Nat.zero_add] at a b
  refine ⟨a, b, h3.upd hv, fun j ha hb => ?_, ?_⟩
  · rw [upd_ne f' (by omega)]; exact h4 j (by omega) hb
  · have e1 : sm W64 f (i + 1) = sm W64 f i + f i * W64 ^ i := rfl
    rw [sm_snoc, e1, ← h4 i (Nat.le_refl _) hi, Nat.pow_succ W64 i, Nat.add_mul]
    have e2 : f' i * W64 ^ i * F = f' i * F * W64 ^ i := by rw [Nat.mul_assoc, Nat.mul_comm (W64 ^ i), ← Nat.mul_assoc]
    have e3 : f' i * F * W64 ^ i + k * W64 ^ i = v * W64 ^ i + k' * (W64 ^ i * W64) := by
      rw [← Nat.add_mul, hk, Nat.add_mul, Nat.mul_assoc, Nat.mul_comm W64]
    rw [e2]
    omega
end Go.Proofs.Ytljbnnpmnoejeaa.nn
namespace Go.Proofs.Ytljbnnpmnoejeaa.nn

/-- byte i of a text -/
def bt (s : ByteArray) (i : Nat) : Nat := if h : i < s.size then s[i].toNat else 0
theorem bt_at {s : ByteArray} {i : Nat} (h : i < s.size) : bt s i = s[i].toNat := dif_pos h
end Go.Proofs.Ytljbnnpmnoejeaa.nn
namespace Go.Proofs.Ytljbnnpmnoejeaa.nn
open Go.RowKit

def dg (x : Nat) : Bool := decide (48 ≤ x ∧ x ≤ 57)
/-- the first n bytes are digits -/
def dgs (f : Nat → Nat) : Nat → Bool
  | 0 => true
  | n + 1 => dgs f n && dg (f n)
/-- the number of n digits -/
def dv (f : Nat → Nat) : Nat → Nat
  | 0 => 0
  | n + 1 => dv f n * 10 + (f n - 48)
theorem dgs_mono {f : Nat → Nat} {n m : Nat} (h : dgs f n = true) (hm : m ≤ n) : dgs f m = true := by
  induction n with
  | zero => obtain rfl : m = 0 := by omega
            rfl
  | succ n ih =>
    by_cases e : m = n + 1
    · subst e; exact h
    · rw [dgs, Bool.and_eq_true] at h; exact ih h.1 (by omega)
theorem dgs_at {f : Nat → Nat} {n i : Nat} (h : dgs f n = true) (hi : i < n) : 48 ≤ f i ∧ f i ≤ 57 := by
  have := dgs_mono h (show i + 1 ≤ n by omega)
  rw [dgs, Bool.and_eq_true] at this
  exact of_decide_eq_true this.2
end Go.Proofs.Ytljbnnpmnoejeaa.nn
namespace Go.Proofs.Ytljbnnpmnoejeaa.nn

def h52 : Nat := 4503599627370496
/-- the least unit's exponent, below 0 -/
def e74 : Nat := 1074
/-- what the bits b (without a sign) say, in least units; beyond the greatest it goes on -/
def vf (b : Nat) : Nat := if b / h52 = 0 then b else (h52 + b % h52) * 2 ^ (b / h52 - 1)

theorem vf_at {k c : Nat} (hc : c ≤ 2 * h52) (hk : k = 0 ∨ h52 ≤ c) : vf (k * h52 + c) = c * 2 ^ k := by
  have h0 : 0 < h52 := by decide
  unfold vf
  by_cases h1 : c < h52
  · obtain rfl : k = 0 := by omega
    rw [Nat.zero_mul, Nat.zero_add, Nat.div_eq_of_lt h1, if_pos rfl, Nat.pow_zero, Nat.mul_one]
  · by_cases h2 : c < 2 * h52
    · obtain ⟨d, rfl⟩ : ∃ d, c = h52 + d := ⟨c - h52, by omega⟩
      have hd : d < h52 := by omega
      have e : k * h52 + (h52 + d) = d + h52 * (k + 1) := by rw [Nat.mul_add, Nat.mul_comm h52 k]; omega
      rw [e, Nat.add_mul_div_left _ _ h0, Nat.div_eq_of_lt hd, Nat.add_mul_mod_self_left, Nat.mod_eq_of_lt hd, if_neg (by omega)]
      congr 2
      omega
    · obtain rfl : c = 2 * h52 := by omega
      have e : k * h52 + 2 * h52 = 0 + h52 * (k + 2) := by rw [Nat.mul_add, Nat.mul_comm h52 k]; omega
      rw [e, Nat.add_mul_div_left _ _ h0, Nat.zero_div, Nat.add_mul_mod_self_left, Nat.zero_mod, if_neg (by omega), Nat.zero_add, show k + 2 - 1 = k + 1 by omega, Nat.pow_succ, Nat.add_zero, ← Nat.mul_assoc, Nat.mul_right_comm, Nat.mul_comm h52 2]
theorem bits_form (b : Nat) : ∃ k c, b = k * h52 + c ∧ c < 2 * h52 ∧ (k = 0 ∨ h52 ≤ c) := by
  have h0 : 0 < h52 := by decide
  have h1 := Nat.div_add_mod b h52
  have h2 := Nat.mod_lt b h0
  by_cases h : b / h52 = 0
  · rw [h, Nat.mul_zero, Nat.zero_add] at h1
    rw [h1] at h2
    exact ⟨0, b, by omega, by omega, .inl rfl⟩
  · obtain ⟨k, hk⟩ := Nat.exists_eq_succ_of_ne_zero h
    refine ⟨k, h52 + b % h52, ?_, by omega, .inr (by omega)⟩
    rw [hk, Nat.succ_eq_add_one, Nat.mul_add, Nat.mul_comm h52 k] at h1
    omega
theorem vf_succ (b : Nat) : vf b < vf (b + 1) := by
  obtain ⟨k, c, rfl, hc, hk⟩ := bits_form b
  rw [Nat.add_assoc, vf_at (by omega) hk, vf_at (by omega) (by omega)]
  exact Nat.mul_lt_mul_of_pos_right (by omega) (Nat.two_pow_pos k)
theorem vf_mono {a b : Nat} (h : a ≤ b) : vf a ≤ vf b := by
  induction b with
  | zero => obtain rfl : a = 0 := by omega
            exact Nat.le_refl _
  | succ b ih =>
    by_cases e : a = b + 1
    · subst e; exact Nat.le_refl _
    · exact Nat.le_trans (ih (by omega)) (Nat.le_of_lt (vf_succ b))
theorem vf_lt {a b : Nat} (h : a < b) : vf a < vf b := Nat.lt_of_lt_of_le (vf_succ a) (vf_mono h)
/-- X over Y is nearest to b -/
structure Near (X Y b : Nat) : Prop where
  lo : b = 0 ∨ (vf (b - 1) + vf b) * Y < 2 * X ∨ ((vf (b - 1) + vf b) * Y = 2 * X ∧ b % 2 = 0)
  hi : 2 * X < (vf b + vf (b + 1)) * Y ∨ (2 * X = (vf b + vf (b + 1)) * Y ∧ b % 2 = 0)

theorem near_mono {X Y X' Y' b b' : Nat} (hY : 0 < Y) (hY' : 0 < Y') (h : X * Y' ≤ X' * Y) (n : Near X Y b) (n' : Near X' Y' b') : b ≤ b' := by
  rcases Nat.lt_or_ge b' b with hlt | hge
  · exfalso
    have m1 : vf b' ≤ vf (b - 1) := vf_mono (by omega)
    have m2 : vf (b' + 1) ≤ vf b := vf_mono (by omega)
    have hPQ : vf b' + vf (b' + 1) ≤ vf (b - 1) + vf b := by omega
    have hPQ' : b' ≠ b - 1 → vf b' + vf (b' + 1) < vf (b - 1) + vf b := fun hne => by
      have := vf_lt (show b' < b - 1 by omega)
      omega
    have lo := n.lo
    have hi := n'.hi
    obtain ⟨P, hP⟩ : ∃ P, vf b' + vf (b' + 1) = P := ⟨_, rfl⟩
    obtain ⟨Q, hQ⟩ : ∃ Q, vf (b - 1) + vf b = Q := ⟨_, rfl⟩
    rw [hP, hQ] at hPQ
    rw [hP, hQ] at hPQ'
    rw [hQ] at lo
    rw [hP] at hi
    have hYY := Nat.mul_pos hY hY'
    have a1 : P * (Y * Y') ≤ Q * (Y * Y') := Nat.mul_le_mul_right _ hPQ
    have lo' : (Q * Y) * Y' < (2 * X) * Y' ∨ ((Q * Y) * Y' = (2 * X) * Y' ∧ b % 2 = 0) := by
      rcases lo with lo | lo | ⟨lo, hb⟩
      · omega
      · exact .inl (Nat.mul_lt_mul_of_pos_right lo hY')
      · exact .inr ⟨by rw [lo], hb⟩
    have hi' : (2 * X') * Y < (P * Y') * Y ∨ ((2 * X') * Y = (P * Y') * Y ∧ b' % 2 = 0) := by
      rcases hi with hi | ⟨hi, hb⟩
      · exact .inl (Nat.mul_lt_mul_of_pos_right hi hY)
      · exact .inr ⟨by rw [hi], hb⟩
    have e1 : (Q * Y) * Y' = Q * (Y * Y') := Nat.mul_assoc _ _ _
    have e2 : (P * Y') * Y = P * (Y * Y') := by rw [Nat.mul_assoc, Nat.mul_comm Y' Y]
    have e3 : (2 * X) * Y' = 2 * (X * Y') := Nat.mul_assoc _ _ _
    have e4 : (2 * X') * Y = 2 * (X' * Y) := Nat.mul_assoc _ _ _
    by_cases hb : b' = b - 1
    · omega
    · have a2 : P * (Y * Y') < Q * (Y * Y') := Nat.mul_lt_mul_of_pos_right (hPQ' hb) hYY
      omega
  · exact hge
theorem near_uniq {X Y b b' : Nat} (hY : 0 < Y) (n : Near X Y b) (n' : Near X Y b') : b = b' :=
  Nat.le_antisymm (near_mono hY hY (Nat.le_refl _) n n') (near_mono hY hY (Nat.le_refl _) n' n)
/-! powers of two as bounds -/
end Go.Proofs.Ytljbnnpmnoejeaa.nn
namespace Go.Proofs.Ytljbnnpmnoejeaa.nn
open Go.RowKit

/-- the value v is a trimmed number in memory -/
def N (w : World) (v : Value) (X : Nat) : Prop := ∃ A n c f, v = .slice A n c ∧ Num w A n c f X
section
variable {w w' : World} {v u : Value} {X Y : Nat}
theorem N.drewN (h : N w v X) (j : Nat) : N (w.drewN j) v X := by
  obtain ⟨A, n, c, f, rfl, h1⟩ := h
  exact ⟨A, n, c, f, rfl, h1.le, h1.cap, h1.rd.drewN j, h1.lt, h1.trm, h1.val⟩
theorem N.alloc (h : N w v X) (o : Obj) : N (w.alloc o) v X := by
  obtain ⟨A, n, c, f, rfl, h1⟩ := h
  exact ⟨A, n, c, f, rfl, h1.le, h1.cap, h1.rd.alloc o, h1.lt, h1.trm, h1.val⟩
end
end Go.Proofs.Ytljbnnpmnoejeaa.nn
namespace Go.Proofs.Ytljbnnpmnoejeaa.nn
open Go.RowKit

/-- the sign's bit -/
def sB (neg : Bool) : Nat := if neg then 9223372036854775808 else 0
/-- how many of the first n bytes are digits, without a gap -/
def dc (f : Nat → Nat) : Nat → Nat
  | 0 => 0
  | n + 1 => if dc f n = n ∧ dg (f n) = true then n + 1 else dc f n
theorem dc_facts (f : Nat → Nat) (n : Nat) : dc f n ≤ n ∧ dgs f (dc f n) = true ∧ (dc f n = n ∨ dg (f (dc f n)) = false) := by
  induction n with
  | zero => exact ⟨Nat.le_refl _, rfl, .inl rfl⟩
  | succ n ih =>
    obtain ⟨h1, h2, h3⟩ := ih
    unfold dc
    by_cases h : dc f n = n ∧ dg (f n) = true
    · rw [if_pos h]
      refine ⟨Nat.le_refl _, ?_, .inl rfl⟩
      rw [h.1] at h2
      rw [dgs, h2, h.2]
      rfl
    · rw [if_neg h]
      refine ⟨by omega, h2, .inr ?_⟩
      rcases h3 with h3 | h3
      · rw [h3]
        cases hd : dg (f n) with
        | false => rfl
        | true => exact absurd ⟨h3, hd⟩ h
      · exact h3
theorem dgs_no {f : Nat → Nat} {n k : Nat} (h : dgs f n = true) (hk : k < n) (hd : dg (f k) = false) : False := by
  have := dgs_at h hk
  have h2 : dg (f k) = true := decide_eq_true this
  rw [hd] at h2
  cases h2
theorem dc_eq {f : Nat → Nat} {n k : Nat} (hk : k ≤ n) (h : dgs f k = true) (he : k = n ∨ dg (f k) = false) : dc f n = k := by
  obtain ⟨h1, h2, h3⟩ := dc_facts f n
  rcases Nat.lt_trichotomy (dc f n) k with g | g | g
  · rcases h3 with h3 | h3
    · omega
    · exact (dgs_no h g h3).elim
  · exact g
  · rcases he with he | he
    · omega
    · exact (dgs_no h2 g he).elim
theorem nil_text {s : ByteArray} (h : s.size = 0) : s = ⟨#[]⟩ := by
  obtain ⟨d⟩ := s
  congr 1
  exact Array.eq_empty_of_size_eq_zero h
theorem not_nil_text {s : ByteArray} (h : 0 < s.size) : s.toList.isEmpty = false := by
  rw [ByteArray.toList_eq]
  cases hl : s.data.toList with
  | nil =>
    have : s.data.toList.length = s.size := rfl
    rw [hl] at this
    simp at this
    omega
  | cons a l => rfl
end Go.Proofs.Ytljbnnpmnoejeaa.nn
namespace Go.Proofs.Ytljbnnpmnoejeaa.nn

/-- bits of an exponent, of a fraction -/
def xb (w : Nat) : Nat := if w = 16 then 5 else if w = 32 then 8 else 11
def fb (w : Nat) : Nat := if w = 16 then 10 else if w = 32 then 23 else 52
/-- a width, and bits that it has -/
def wOk (w : Int) : Prop := w = 16 ∨ w = 32 ∨ w = 64
instance (w : Int) : Decidable (wOk w) := by unfold wOk; infer_instance
def fits (w : Int) (x : Nat) : Prop := wOk w ∧ (w < 64 → x < 2 ^ w.toNat)
instance (w : Int) (x : Nat) : Decidable (fits w x) := by unfold fits; infer_instance
def fr (w x : Nat) : Nat := x % 2 ^ fb w
end Go.Proofs.Ytljbnnpmnoejeaa.nn
namespace Go.Proofs.Ytljbnnpmnoejeaa.nn
open Go.RowKit

def wx (k : Int) : Nat := if wOk k then xb k.toNat else 0
theorem pow_up {a b : Nat} (h : a ≤ b) : 2 ^ a ≤ 2 ^ b := Nat.pow_le_pow_right (by decide) h
end Go.Proofs.Ytljbnnpmnoejeaa.nn
namespace Go.Proofs.Ytljbnnpmnoejeaa.nn
open Go.RowKit

def bia (k : Nat) : Nat := if k = 16 then 15 else if k = 32 then 127 else 1023
/-- how far m goes to the left until its highest bit is bit 52 -/
def nrm (m : Nat) : Nat := 52 - m.log2
theorem nrm_lt {m t : Nat} (hm : 0 < m) (hb : m < 4503599627370496) : (t < nrm m ↔ m * 2 ^ t < 4503599627370496) := by
  have h1 := Nat.log2_self_le (n := m) (by omega)
  have h2 := Nat.lt_log2_self (n := m)
  have h3 : m.log2 < 52 := (Nat.log2_lt (by omega)).2 hb
  unfold nrm
  constructor
  · intro h
    have h4 : m * 2 ^ t < 2 ^ (m.log2 + 1) * 2 ^ t := Nat.mul_lt_mul_of_pos_right h2 (Nat.two_pow_pos t)
    rw [← Nat.pow_add] at h4
    have h5 : 2 ^ (m.log2 + 1 + t) ≤ 2 ^ 52 := pow_up (by omega)
    exact Nat.lt_of_lt_of_le h4 h5
  · intro h
    rcases Nat.lt_or_ge t (52 - m.log2) with h' | h'
    · exact h'
    · have h4 : 2 ^ m.log2 * 2 ^ t ≤ m * 2 ^ t := Nat.mul_le_mul_right _ h1
      rw [← Nat.pow_add] at h4
      have h5 : 2 ^ 52 ≤ 2 ^ (m.log2 + t) := pow_up (by omega)
      exact absurd (Nat.lt_of_le_of_lt (Nat.le_trans h5 h4) h) (by decide)
theorem nrm_hi {m : Nat} (hm : 0 < m) (hb : m < 4503599627370496) : m * 2 ^ nrm m < 9007199254740992 ∧ 4503599627370496 ≤ m * 2 ^ nrm m := by
  have h1 := Nat.log2_self_le (n := m) (by omega)
  have h2 := Nat.lt_log2_self (n := m)
  have h3 : m.log2 < 52 := (Nat.log2_lt (by omega)).2 hb
  unfold nrm
  have h4 : m * 2 ^ (52 - m.log2) < 2 ^ (m.log2 + 1) * 2 ^ (52 - m.log2) := Nat.mul_lt_mul_of_pos_right h2 (Nat.two_pow_pos _)
  have h5 : 2 ^ m.log2 * 2 ^ (52 - m.log2) ≤ m * 2 ^ (52 - m.log2) := Nat.mul_le_mul_right _ h1
  rw [← Nat.pow_add] at h4 h5
  rw [show m.log2 + 1 + (52 - m.log2) = 53 by omega] at h4
  rw [show m.log2 + (52 - m.log2) = 52 by omega] at h5
  rw [show (2 : Nat) ^ 53 = 9007199254740992 by decide] at h4
  rw [show (2 : Nat) ^ 52 = 4503599627370496 by decide] at h5
  exact ⟨h4, h5⟩
end Go.Proofs.Ytljbnnpmnoejeaa.nn
namespace Go.Proofs.Ytljbnnpmnoejeaa.nn
open Go.RowKit

def kOk (k : Nat) : Prop := k = 16 ∨ k = 32 ∨ k = 64
def onz (k : Nat) : Nat := 2 ^ xb k - 1
def hdn (k : Nat) : Nat := 2 ^ fb k
theorem kOk.facts {k : Nat} (h : kOk k) : (k = 16 ∧ xb k = 5 ∧ fb k = 10 ∧ onz k = 31 ∧ bia k = 15 ∧ hdn k = 1024) ∨ (k = 32 ∧ xb k = 8 ∧ fb k = 23 ∧ onz k = 255 ∧ bia k = 127 ∧ hdn k = 8388608) ∨ (k = 64 ∧ xb k = 11 ∧ fb k = 52 ∧ onz k = 2047 ∧ bia k = 1023 ∧ hdn k = 4503599627370496) := by
  rcases h with rfl | rfl | rfl
  · exact .inl (by decide)
  · exact .inr (.inl (by decide))
  · exact .inr (.inr (by decide))
/-- the worlds behind a call's boxed shape -/
structure Bs (w : World) (k : Nat) (W : World) : Prop where
  c0 : W.cell? ⟨w.heap.size, 0, none⟩ = some (.int .i64 (k : Int))
  c1 : W.cell? ⟨w.heap.size, 1, none⟩ = some (.int .i64 (xb k : Int))
  c2 : W.cell? ⟨w.heap.size, 2, none⟩ = some (.int .i64 (fb k : Int))
  b : Below w.heap.size w W
  z : w.heap.size < W.heap.size
theorem Bs.all {w W : World} {k : Nat} (h : Bs w k W) : W.cell? ⟨w.heap.size, 0, none⟩ = some (.int .i64 (k : Int)) ∧ W.cell? ⟨w.heap.size, 1, none⟩ = some (.int .i64 (xb k : Int)) ∧ W.cell? ⟨w.heap.size, 2, none⟩ = some (.int .i64 (fb k : Int)) ∧ Bs w k W := ⟨h.c0, h.c1, h.c2, h⟩
end Go.Proofs.Ytljbnnpmnoejeaa.nn
namespace Go.Proofs.Ytljbnnpmnoejeaa.nn

/-! parts and bits -/
theorem b52 : (2 : Nat) ^ 52 = 4503599627370496 := by decide
/-! widened and narrowed, in parts -/
/-- a width's parts: bits of an exponent, of a fraction; what is taken from the exponent; the exponents' number -/
structure Wd (E F B T : Nat) : Prop where
  e : 2 ^ (E - 1) - 1 = B
  t : 2 ^ E = T
  bt : T = 2 * B + 2
  b : 1 ≤ B ∧ B ≤ 127
  f : 1 ≤ F ∧ F ≤ 23 ∧ F ≤ B
/-- the wider parts -/
def wX (B T F X M : Nat) : Nat := if X = T - 1 then 2047 else if 0 < X then X + 1023 - B else if 0 < M then 1024 - B - nrm (M * 2 ^ (52 - F)) else 0
def wM (T F X M : Nat) : Nat := if X = T - 1 ∨ 0 < X then M * 2 ^ (52 - F) else if 0 < M then M * 2 ^ (52 - F) * 2 ^ nrm (M * 2 ^ (52 - F)) - 4503599627370496 else 0
section
variable {E F B T X M : Nat}
theorem Wd.small (_ : Wd E F B T) (hM : M < 2 ^ F) (h0 : 0 < M) : 0 < M * 2 ^ (52 - F) ∧ M * 2 ^ (52 - F) < 4503599627370496 ∧ 2 ^ (52 - F) ≤ M * 2 ^ (52 - F) := by
  have hF := (‹Wd E F B T›).f
  have hp := Nat.two_pow_pos (52 - F)
  refine ⟨Nat.mul_pos h0 hp, ?_, Nat.le_mul_of_pos_left _ h0⟩
  rw [← b52, show 52 = F + (52 - F) by omega, Nat.pow_add, show F + (52 - F) - F = 52 - F by omega]
  exact Nat.mul_lt_mul_of_pos_right hM hp
theorem nrm_pos {m : Nat} (hm : 0 < m) (hb : m < 4503599627370496) : 1 ≤ nrm m := (nrm_lt hm hb).2 (by simpa using hb)
theorem Wd.nrm_le (h : Wd E F B T) (hM : M < 2 ^ F) (h0 : 0 < M) : nrm (M * 2 ^ (52 - F)) ≤ F := by
  obtain ⟨s1, s2, s3⟩ := h.small hM h0
  have hF := h.f
  rcases Nat.lt_or_ge F (nrm (M * 2 ^ (52 - F))) with h' | h'
  · have h1 := (nrm_lt s1 s2).1 h'
    have h2 : 2 ^ (52 - F) * 2 ^ F ≤ M * 2 ^ (52 - F) * 2 ^ F := Nat.mul_le_mul_right _ s3
    rw [← Nat.pow_add, show 52 - F + F = 52 by omega, b52] at h2
    omega
  · exact h'
/-- the wider parts are parts -/
theorem Wd.wide (h : Wd E F B T) (hX : X < T) (hM : M < 2 ^ F) : wX B T F X M ≤ 2047 ∧ wM T F X M < 4503599627370496 := by
  have hF := h.f
  have hB := h.b
  have hbt := h.bt
  have hp := Nat.two_pow_pos (52 - F)
  have hm : M * 2 ^ (52 - F) < 4503599627370496 := by
    rw [← b52, show 52 = F + (52 - F) by omega, Nat.pow_add, show F + (52 - F) - F = 52 - F by omega]
    exact Nat.mul_lt_mul_of_pos_right hM hp
  unfold wX wM
  by_cases c1 : X = T - 1
  · rw [if_pos c1, if_pos (.inl c1)]; exact ⟨Nat.le_refl _, hm⟩
  · rw [if_neg c1]
    by_cases c2 : 0 < X
    · rw [if_pos c2, if_pos (.inr c2)]; exact ⟨by omega, hm⟩
    · rw [if_neg c2, if_neg (show ¬ (X = T - 1 ∨ 0 < X) by omega)]
      by_cases c3 : 0 < M
      · obtain ⟨s1, s2, _⟩ := h.small hM c3
        have := nrm_hi s1 s2
        rw [if_pos c3, if_pos c3]; omega
      · rw [if_neg c3, if_neg c3]; omega
end
end Go.Proofs.Ytljbnnpmnoejeaa.nn
namespace Go.Proofs.Ytljbnnpmnoejeaa.nn
open Go.RowKit

def lim (k : Nat) : Nat := if k = 16 then 65536 else if k = 32 then 4294967296 else 18446744073709551616
end Go.Proofs.Ytljbnnpmnoejeaa.nn
namespace Go.Proofs.Ytljbnnpmnoejeaa.nn
open Go.RowKit Go.Great

/-- a result of a struct of three numbers: its block, of a world that calls have changed -/
structure Rs3 (w : World) (T : TypeId) (W : World) : Prop where
  blk : W.heap[w.heap.size]? = some (.cells #[.int .i64 0, .int .i64 0, .int .i64 0] T (0, 0))
  b : Below w.heap.size w W
  z : w.heap.size < W.heap.size
theorem Rs3.all {w W : World} {T : TypeId} (h : Rs3 w T W) : W.cell? ⟨w.heap.size, 0, none⟩ = some (.int .i64 0) ∧ W.cell? ⟨w.heap.size, 1, none⟩ = some (.int .i64 0) ∧ W.cell? ⟨w.heap.size, 2, none⟩ = some (.int .i64 0) ∧ (∀ i, W.frozen? ⟨w.heap.size, i, none⟩ = false) :=
  ⟨cell_of_row _ _ 0 _ _ _ h.blk, cell_of_row _ _ 1 _ _ _ h.blk, cell_of_row _ _ 2 _ _ _ h.blk, fun i => by have := h.blk; simp [World.frozen?, this]⟩
end Go.Proofs.Ytljbnnpmnoejeaa.nn
namespace Go.Proofs.Ytljbnnpmnoejeaa.nn
open Go.RowKit Go.Great

theorem fits.facts {k : Int} {x : Nat} (h : fits k x) (hx : x < 18446744073709551616) : kOk k.toNat ∧ x < lim k.toNat := by
  obtain ⟨h1, h2⟩ := h
  unfold wOk at h1
  rcases h1 with rfl | rfl | rfl
  · exact ⟨.inl rfl, h2 (by decide)⟩
  · exact ⟨.inr (.inl rfl), h2 (by decide)⟩
  · exact ⟨.inr (.inr rfl), hx⟩
end Go.Proofs.Ytljbnnpmnoejeaa.nn
namespace Go.Proofs.Ytljbnnpmnoejeaa.nn
open Go.RowKit

section
variable {m a b : Nat} {n : Int}
end
theorem kOk.bt {k : Nat} (h : kOk k) : onz k = 2 * bia k + 1 := by have := h.facts; omega
end Go.Proofs.Ytljbnnpmnoejeaa.nn
namespace Go.Proofs.Ytljbnnpmnoejeaa.nn
open Go.RowKit

/-- the worlds behind a call's two boxed shapes -/
structure Bs2 (w : World) (k j : Nat) (W : World) : Prop where
  c0 : W.cell? ⟨w.heap.size, 0, none⟩ = some (.int .i64 (k : Int))
  c1 : W.cell? ⟨w.heap.size, 1, none⟩ = some (.int .i64 (xb k : Int))
  c2 : W.cell? ⟨w.heap.size, 2, none⟩ = some (.int .i64 (fb k : Int))
  d0 : W.cell? ⟨w.heap.size + 1, 0, none⟩ = some (.int .i64 (j : Int))
  d1 : W.cell? ⟨w.heap.size + 1, 1, none⟩ = some (.int .i64 (xb j : Int))
  d2 : W.cell? ⟨w.heap.size + 1, 2, none⟩ = some (.int .i64 (fb j : Int))
  b : Below w.heap.size w W
  z : w.heap.size + 1 < W.heap.size
theorem Bs2.all {w W : World} {k j : Nat} (h : Bs2 w k j W) : W.cell? ⟨w.heap.size, 0, none⟩ = some (.int .i64 (k : Int)) ∧ W.cell? ⟨w.heap.size, 1, none⟩ = some (.int .i64 (xb k : Int)) ∧ W.cell? ⟨w.heap.size, 2, none⟩ = some (.int .i64 (fb k : Int)) ∧
    W.cell? ⟨w.heap.size + 1, 0, none⟩ = some (.int .i64 (j : Int)) ∧ W.cell? ⟨w.heap.size + 1, 1, none⟩ = some (.int .i64 (xb j : Int)) ∧ W.cell? ⟨w.heap.size + 1, 2, none⟩ = some (.int .i64 (fb j : Int)) ∧ Bs2 w k j W := ⟨h.c0, h.c1, h.c2, h.d0, h.d1, h.d2, h⟩
end Go.Proofs.Ytljbnnpmnoejeaa.nn
namespace Go.Proofs.Ytljbnnpmnoejeaa.nn

/-! order -/
section
variable {E F B T X M X' M' : Nat}
set_option maxRecDepth 100000 in
theorem Wd.val_lt (h : Wd E F B T) (hX : X < T - 1) (hM : M < 2 ^ F) : wX B T F X M * 4503599627370496 + wM T F X M < (X + 1024 - B) * 4503599627370496 := by
  have hB := h.b
  have hbt := h.bt
  have hF := h.f
  by_cases c2 : 0 < X
  · have hw := (h.wide (X := X) (by omega) hM).2
    have e1 : wX B T F X M = X + 1023 - B := by unfold wX; rw [if_neg (by omega), if_pos c2]
    rw [e1, show X + 1024 - B = X + 1023 - B + 1 by omega, Nat.succ_mul]
    exact Nat.add_lt_add_left hw _
  · obtain rfl : X = 0 := by omega
    by_cases c3 : 0 < M
    · obtain ⟨s1, s2, _⟩ := h.small hM c3
      have hw := (h.wide (X := 0) (by omega) hM).2
      have n3 := nrm_pos s1 s2
      have n4 := h.nrm_le hM c3
      have e1 : wX B T F 0 M = 1024 - B - nrm (M * 2 ^ (52 - F)) := by unfold wX; rw [if_neg (by omega), if_neg c2, if_pos c3]
      rw [e1]
      omega
    · have e1 : wX B T F 0 M = 0 := by unfold wX; rw [if_neg (by omega), if_neg c2, if_neg c3]
      have e2 : wM T F 0 M = 0 := by unfold wM; rw [if_neg (by omega), if_neg c3]
      rw [e1, e2, Nat.zero_mul, Nat.zero_add]
      exact Nat.mul_pos (by omega) (by decide)
set_option maxRecDepth 100000 in
theorem Wd.mono (h : Wd E F B T) (hX' : X' < T) (hM : M < 2 ^ F) (hM' : M' < 2 ^ F) (hi : X' = T - 1 → M' = 0) (hl : X < X' ∨ X = X' ∧ M < M') :
    wX B T F X M * 4503599627370496 + wM T F X M < wX B T F X' M' * 4503599627370496 + wM T F X' M' := by
  have hB := h.b
  have hbt := h.bt
  have hF := h.f
  have hp := Nat.two_pow_pos (52 - F)
  rcases hl with hl | ⟨rfl, hl⟩
  · have h1 := h.val_lt (X := X) (by omega) hM
    have h2 : X' + 1023 - B ≤ wX B T F X' M' := by
      unfold wX
      split
      · omega
      · rw [if_pos (by omega)]; exact Nat.le_refl _
    have h3 : (X + 1024 - B) * 4503599627370496 ≤ wX B T F X' M' * 4503599627370496 := Nat.mul_le_mul_right _ (by omega)
    exact Nat.lt_of_lt_of_le h1 (Nat.le_trans h3 (Nat.le_add_right _ _))
  · have c1 : X ≠ T - 1 := fun h => by have := hi h; omega
    have hN : M * 2 ^ (52 - F) < M' * 2 ^ (52 - F) := Nat.mul_lt_mul_of_pos_right hl hp
    by_cases c2 : 0 < X
    · have e1 : ∀ m, wX B T F X m = X + 1023 - B := fun m => by unfold wX; rw [if_neg c1, if_pos c2]
      have e2 : ∀ m, wM T F X m = m * 2 ^ (52 - F) := fun m => if_pos (.inr c2)
      rw [e1, e1, e2, e2]
      omega
    · obtain rfl : X = 0 := by omega
      have c3' : 0 < M' := by omega
      obtain ⟨s1', s2', _⟩ := h.small hM' c3'
      obtain ⟨m1', m2'⟩ := nrm_hi s1' s2'
      have n4' := h.nrm_le hM' c3'
      have e1' : wX B T F 0 M' = 1024 - B - nrm (M' * 2 ^ (52 - F)) := by unfold wX; rw [if_neg c1, if_neg c2, if_pos c3']
      have e2' : wM T F 0 M' = M' * 2 ^ (52 - F) * 2 ^ nrm (M' * 2 ^ (52 - F)) - 4503599627370496 := by unfold wM; rw [if_neg (by omega), if_pos c3']
      rw [e1', e2']
      by_cases c3 : 0 < M
      · obtain ⟨s1, s2, _⟩ := h.small hM c3
        obtain ⟨m1, m2⟩ := nrm_hi s1 s2
        have n4 := h.nrm_le hM c3
        have e1 : wX B T F 0 M = 1024 - B - nrm (M * 2 ^ (52 - F)) := by unfold wX; rw [if_neg c1, if_neg c2, if_pos c3]
        have e2 : wM T F 0 M = M * 2 ^ (52 - F) * 2 ^ nrm (M * 2 ^ (52 - F)) - 4503599627370496 := by unfold wM; rw [if_neg (by omega), if_pos c3]
        rw [e1, e2]
        obtain ⟨N, hNN⟩ : ∃ N, M * 2 ^ (52 - F) = N := ⟨_, rfl⟩
        obtain ⟨N', hNN'⟩ : ∃ N', M' * 2 ^ (52 - F) = N' := ⟨_, rfl⟩
        rw [hNN] at m1 m2 n4 hN s1 s2 ⊢
        rw [hNN'] at m1' m2' n4' hN s1' s2' ⊢
        have ht : nrm N' ≤ nrm N := by
          rcases Nat.lt_or_ge (nrm N) (nrm N') with h1 | h1
          · have h2 := (nrm_lt s1' s2').1 h1
            have h3 : N * 2 ^ nrm N < N' * 2 ^ nrm N := Nat.mul_lt_mul_of_pos_right hN (Nat.two_pow_pos _)
            omega
          · exact h1
        rcases Nat.lt_or_ge (nrm N') (nrm N) with h1 | h1
        · have h2 : (1024 - B - nrm N + 1) * 4503599627370496 ≤ (1024 - B - nrm N') * 4503599627370496 := Nat.mul_le_mul_right _ (by omega)
          rw [Nat.succ_mul] at h2
          obtain ⟨a, ha⟩ : ∃ a, (1024 - B - nrm N) * 4503599627370496 = a := ⟨_, rfl⟩
          obtain ⟨a', ha'⟩ : ∃ a', (1024 - B - nrm N') * 4503599627370496 = a' := ⟨_, rfl⟩
          rw [ha, ha'] at h2 ⊢
          clear ha ha'
          omega
        · have h2 : nrm N = nrm N' := by omega
          have h3 : N * 2 ^ nrm N < N' * 2 ^ nrm N := Nat.mul_lt_mul_of_pos_right hN (Nat.two_pow_pos _)
          rw [h2] at h3 m1 m2 ⊢
          omega
      · have e1 : wX B T F 0 M = 0 := by unfold wX; rw [if_neg c1, if_neg c2, if_neg c3]
        have e2 : wM T F 0 M = 0 := by unfold wM; rw [if_neg (by omega), if_neg c3]
        rw [e1, e2, Nat.zero_mul, Nat.zero_add]
        exact Nat.lt_of_lt_of_le (Nat.mul_pos (by omega) (by decide)) (Nat.le_add_right _ _)
end
/-! whole numbers -/
end Go.Proofs.Ytljbnnpmnoejeaa.nn
namespace Go.Proofs.Ytljbnnpmnoejeaa.nn

/-- m times 2^e is m' times 2^e' -/
def Sm (m : Nat) (e : Int) (m' : Nat) (e' : Int) : Prop := ∃ a b : Nat, e - (a : Int) = e' - (b : Int) ∧ m * 2 ^ a = m' * 2 ^ b
section
variable {m m' m'' : Nat} {e e' e'' : Int}
theorem Sm.refl (m : Nat) (e : Int) : Sm m e m e := ⟨0, 0, rfl, rfl⟩
theorem Sm.symm (h : Sm m e m' e') : Sm m' e' m e := by
  obtain ⟨a, b, h1, h2⟩ := h
  exact ⟨b, a, h1.symm, h2.symm⟩
theorem Sm.trans (h : Sm m e m' e') (h' : Sm m' e' m'' e'') : Sm m e m'' e'' := by
  obtain ⟨a, b, h1, h2⟩ := h
  obtain ⟨c, d, h3, h4⟩ := h'
  refine ⟨a + c, d + b, by omega, ?_⟩
  rw [Nat.pow_add, Nat.pow_add, ← Nat.mul_assoc, h2, ← Nat.mul_assoc, ← h4, Nat.mul_right_comm]
end
section
variable {k m X M : Nat} {e : Int}
end
end Go.Proofs.Ytljbnnpmnoejeaa.nn
namespace Go.Proofs.Ytljbnnpmnoejeaa.nn
open Go.RowKit

/-- the bits of what is infinite -/
def inf : Nat := 2047 * h52
end Go.Proofs.Ytljbnnpmnoejeaa.nn
namespace Go.Proofs.Ytljbnnpmnoejeaa.nn
open Go.RowKit

/-- the number that digits with an exponent are, over another -/
def rX (s : ByteArray) (z : Int) : Nat := dv (bt s) s.size * 10 ^ z.toNat
def rY (z : Int) : Nat := 10 ^ (-z).toNat
theorem rY_pos (z : Int) : 0 < rY z := Nat.pow_pos (by decide)
/-- b is the nearest -/
def RN (s : ByteArray) (z : Int) (b : Nat) : Prop := Near (rX s z * 2 ^ e74) (rY z) b
def roV (neg : Bool) (b : Nat) : Nat := if b < inf then sB neg + b else 0
def roE (b : Nat) : Nat := if b < inf then 0 else 8
end Go.Proofs.Ytljbnnpmnoejeaa.nn
namespace Go.Proofs.Ytljbnnpmnoejeaa.nn

/-- how many digits stand in s from place a on -/
def rn (s : ByteArray) (a : Nat) : Nat := dc (fun i => bt s (a + i)) (s.size - a)
theorem rn_le (s : ByteArray) (a : Nat) : rn s a ≤ s.size - a := (dc_facts _ _).1
/-- from place a to place b -/
def cutT (s : ByteArray) (a b : Nat) : ByteArray := s.extract a b
theorem cutT_size {s : ByteArray} {a b : Nat} (h : b ≤ s.size) : (cutT s a b).size = b - a := by
  unfold cutT
  rw [ByteArray.size_extract]
  omega
theorem bt_cutT {s : ByteArray} {a b i : Nat} (h : b ≤ s.size) (hi : i < b - a) : bt (cutT s a b) i = bt s (a + i) := by
  have h1 : i < (s.extract a b).size := by
    have := cutT_size (a := a) h
    unfold cutT at this
    omega
  have h2 : a + i < s.size := by omega
  show bt (s.extract a b) i = _
  rw [bt_at h1, bt_at h2, ByteArray.getElem_extract]
end Go.Proofs.Ytljbnnpmnoejeaa.nn
namespace Go.Proofs.Ytljbnnpmnoejeaa.nn
open Go.RowKit

/-- in s, at place a -/
def at_ (s : ByteArray) (a c : Nat) : Bool := decide (a < s.size ∧ bt s a = c)
/-- cutSign, in s at place a -/
def sgB (s : ByteArray) (a : Nat) : Bool := if at_ s a 43 then false else at_ s a 45
def sgA (s : ByteArray) (a : Nat) : Nat := if at_ s a 43 then a + 1 else if at_ s a 45 then a + 1 else a
end Go.Proofs.Ytljbnnpmnoejeaa.nn
namespace Go.Proofs.Ytljbnnpmnoejeaa.nn
open Go.RowKit

def plZ (ng : Bool) (X F : ByteArray) : Int := (if ng then -(dv (bt X) X.size : Int) else (dv (bt X) X.size : Int)) - (F.size : Int)
end Go.Proofs.Ytljbnnpmnoejeaa.nn
namespace Go.Proofs.Ytljbnnpmnoejeaa.nn
open Go.RowKit

/-! the places of a written number -/
def cA (s : ByteArray) : Nat := if at_ s 0 45 then 1 else 0
def cB (s : ByteArray) : Nat := cA s + rn s (cA s)
def cDot (s : ByteArray) : Bool := at_ s (cB s) 46
def cC (s : ByteArray) : Nat := if cDot s then cB s + 1 + rn s (cB s + 1) else cB s
def cE (s : ByteArray) : Bool := at_ s (cC s) 101 || at_ s (cC s) 69
def cS (s : ByteArray) : Nat := sgA s (cC s + 1)
def cD (s : ByteArray) : Nat := if cE s then cS s + rn s (cS s) else cC s
/-- the form is right -/
def cOk (s : ByteArray) : Bool := decide (0 < rn s (cA s)) && (!cDot s || decide (0 < rn s (cB s + 1))) && (!cE s || decide (0 < rn s (cS s))) && decide (cD s = s.size)
def cW (s : ByteArray) : ByteArray := cutT s (cA s) (cB s)
def cF (s : ByteArray) : ByteArray := if cDot s then cutT s (cB s + 1) (cC s) else ⟨#[]⟩
def cX (s : ByteArray) : ByteArray := if cE s then cutT s (cS s) (cD s) else ⟨#[]⟩
def cN (s : ByteArray) : Bool := if cE s then sgB s (cC s + 1) else false
theorem at_le {s : ByteArray} {a c : Nat} (h : at_ s a c = true) : a < s.size ∧ bt s a = c := of_decide_eq_true h
theorem cA_le (s : ByteArray) : cA s ≤ s.size := by
  unfold cA
  split
  · have := (at_le ‹_›).1; omega
  · omega
/-! the two boxes of cut: the answer's, at the call's first block, and the parts' behind it -/
section
variable {w W W' : World} {a b c d e : Value}
end
end Go.Proofs.Ytljbnnpmnoejeaa.nn
namespace Go.Proofs.Ytljbnnpmnoejeaa.nn

/-- the state behind a byte: 0 ahead of all, 1 behind -, 2 behind a 0 ahead, 3 in digits, 4 behind the point, 5 in digits behind it, 6 behind e, 7 behind e's sign, 8 in digits behind e, 9 none -/
def nst (q b : Nat) : Nat :=
  if dg b = true then (if q = 0 ∨ q = 1 then (if b = 48 then 2 else 3) else if q = 3 then 3 else if q = 4 ∨ q = 5 then 5 else if q = 6 ∨ q = 7 ∨ q = 8 then 8 else 9)
  else if b = 45 then (if q = 0 then 1 else if q = 6 then 7 else 9)
  else if b = 43 then (if q = 6 then 7 else 9)
  else if b = 46 then (if q = 2 ∨ q = 3 then 4 else 9)
  else if b = 101 ∨ b = 69 then (if q = 2 ∨ q = 3 ∨ q = 5 then 6 else 9)
  else 9
/-- the state behind n bytes -/
def nq (f : Nat → Nat) : Nat → Nat
  | 0 => 0
  | n + 1 => nst (nq f n) (f n)
/-- is a number whole here -/
def nacc (q : Nat) : Bool := decide (q = 2 ∨ q = 3 ∨ q = 5 ∨ q = 8)
/-- where a number ends, or errs, and how -/
structure NmIs (s : ByteArray) (p e : Nat) : Prop where
  le : p ≤ s.size
  go : nq (bt s) p ≠ 9
  no : p < s.size → nq (bt s) (p + 1) = 9
  er : e = if nacc (nq (bt s) p) = true then 0 else if p = s.size then 3 else 4
theorem nst_nine (b : Nat) : nst 9 b = 9 := by
  unfold nst
  simp
theorem nst_le {q b : Nat} : nst q b ≤ 9 := by
  unfold nst
  repeat' split
  all_goals omega
theorem nq_le (f : Nat → Nat) (n : Nat) : nq f n ≤ 9 := by
  cases n with
  | zero => show 0 ≤ 9; omega
  | succ n => exact nst_le
theorem nq_more {f : Nat → Nat} {n : Nat} (h : nq f n = 9) (m : Nat) : nq f (n + m) = 9 := by
  induction m with
  | zero => exact h
  | succ m ih => rw [← Nat.add_assoc, nq, ih, nst_nine]
theorem nq_less {f : Nat → Nat} {n m : Nat} (h : nq f n ≠ 9) (hm : m ≤ n) : nq f m ≠ 9 := fun g => h (by
  have := nq_more g (n - m)
  rwa [Nat.add_sub_cancel' hm] at this)
theorem nq_congr {f g : Nat → Nat} {n : Nat} (h : ∀ i, i < n → f i = g i) : nq f n = nq g n := by
  induction n with
  | zero => rfl
  | succ n ih => rw [nq, nq, ih (fun i hi => h i (by omega)), h n (by omega)]
theorem NmIs.uniq {s : ByteArray} {p e p' e' : Nat} (h : NmIs s p e) (h' : NmIs s p' e') : p = p' ∧ e = e' := by
  have hp : p = p' := by
    rcases Nat.lt_trichotomy p p' with g | g | g
    · exact absurd (h.no (Nat.lt_of_lt_of_le g h'.le)) (nq_less h'.go g)
    · exact g
    · exact absurd (h'.no (Nat.lt_of_lt_of_le g h.le)) (nq_less h.go g)
  subst hp
  exact ⟨rfl, h.er.trans h'.er.symm⟩
/-- behind n bytes the state is q -/
def At (s : ByteArray) (n q : Nat) : Prop := n ≤ s.size ∧ nq (bt s) n = q
theorem At.zero (s : ByteArray) : At s 0 0 := ⟨Nat.zero_le _, rfl⟩
theorem At.step {s : ByteArray} {n q b q' : Nat} (h : At s n q) (hn : n < s.size) (hb : bt s n = b) (e : nst q b = q') : At s (n + 1) q' := ⟨hn, by rw [nq, h.2, hb, e]⟩
theorem nst_digit {q b : Nat} (h : dg b = true) (hq : q = 3 ∨ q = 5 ∨ q = 8) : nst q b = q := by
  unfold nst
  rw [if_pos h]
  rcases hq with rfl | rfl | rfl <;> simp
/-- through digits -/
theorem At.run {s : ByteArray} {n q m : Nat} (h : At s n q) (hq : q = 3 ∨ q = 5 ∨ q = 8) (hm : n + m ≤ s.size) (hd : dgs (fun i => bt s (n + i)) m = true) : At s (n + m) q := by
  induction m with
  | zero => exact h
  | succ m ih =>
    have h1 := ih (by omega) (dgs_mono hd (Nat.le_succ m))
    have h2 := dgs_at hd (Nat.lt_succ_self m)
    exact h1.step (by omega) rfl (nst_digit (decide_eq_true h2) hq)
theorem rn_facts (s : ByteArray) (a : Nat) : dgs (fun i => bt s (a + i)) (rn s a) = true ∧ (rn s a = s.size - a ∨ dg (bt s (a + rn s a)) = false) := (dc_facts _ _).2
theorem rn_zero {s : ByteArray} {a : Nat} (ha : a < s.size) (h : rn s a = 0) : dg (bt s a) = false := by
  rcases (rn_facts s a).2 with g | g
  · omega
  · rwa [h] at g
theorem rn_pos {s : ByteArray} {a : Nat} (h : 0 < rn s a) : a < s.size ∧ dg (bt s a) = true := by
  have h1 := rn_le s a
  refine ⟨by omega, ?_⟩
  have h2 := dgs_at (rn_facts s a).1 h
  exact decide_eq_true h2
/-- at a place where a digit must come, n digits come -/
theorem At.digits {s : ByteArray} {a q q' : Nat} (h : At s a q) (hq : (q = 4 ∧ q' = 5) ∨ ((q = 6 ∨ q = 7) ∧ q' = 8)) (hn : 0 < rn s a) : At s (a + rn s a) q' := by
  have h1 := rn_le s a
  obtain ⟨h2, h3⟩ := rn_pos hn
  have hst : nst q (bt s a) = q' := by
    unfold nst
    rw [if_pos h3]
    rcases hq with ⟨rfl, rfl⟩ | ⟨rfl | rfl, rfl⟩ <;> simp
  have h4 := h.step h2 rfl hst
  have h5 := h4.run (m := rn s a - 1) (by rcases hq with ⟨_, rfl⟩ | ⟨_, rfl⟩ <;> simp) (by omega) (by
    have h6 := (rn_facts s a).1
    have : ∀ m, m + 1 ≤ rn s a → dgs (fun i => bt s (a + 1 + i)) m = true := by
      intro m
      induction m with
      | zero => intro _; rfl
      | succ m ih =>
        intro hm
        rw [dgs, ih (by omega), Bool.true_and]
        have := dgs_at h6 (show m + 1 < rn s a by omega)
        rw [show a + 1 + m = a + (m + 1) by omega]
        exact decide_eq_true this
    exact this _ (by omega))
  rwa [show a + 1 + (rn s a - 1) = a + rn s a by omega] at h5
/-- at the beginning: 0, or digits -/
theorem At.first {s : ByteArray} {a q : Nat} (h : At s a q) (hq : q = 0 ∨ q = 1) (hn : 0 < rn s a) : (bt s a = 48 → At s (a + 1) 2) ∧ (bt s a ≠ 48 → At s (a + rn s a) 3) := by
  have h1 := rn_le s a
  obtain ⟨h2, h3⟩ := rn_pos hn
  refine ⟨fun g => h.step h2 g ?_, fun g => ?_⟩
  · rcases hq with rfl | rfl <;> rfl
  · have hst : nst q (bt s a) = 3 := by
      unfold nst
      rw [if_pos h3, if_pos hq, if_neg g]
    have h4 := h.step h2 rfl hst
    have h5 := h4.run (m := rn s a - 1) (.inl rfl) (by omega) (by
      have h6 := (rn_facts s a).1
      have : ∀ m, m + 1 ≤ rn s a → dgs (fun i => bt s (a + 1 + i)) m = true := by
        intro m
        induction m with
        | zero => intro _; rfl
        | succ m ih =>
          intro hm
          rw [dgs, ih (by omega), Bool.true_and]
          have := dgs_at h6 (show m + 1 < rn s a by omega)
          rw [show a + 1 + m = a + (m + 1) by omega]
          exact decide_eq_true this
      exact this _ (by omega))
    rwa [show a + 1 + (rn s a - 1) = a + rn s a by omega] at h5
/-- where no digit comes though one must -/
theorem At.bad {s : ByteArray} {a q : Nat} (h : At s a q) (hq : q = 0 ∨ q = 1 ∨ q = 4 ∨ q = 6 ∨ q = 7) (hn : rn s a = 0) (h0 : q = 0 → a < s.size → bt s a ≠ 45) (h6 : q = 6 → a < s.size → bt s a ≠ 45 ∧ bt s a ≠ 43) : NmIs s a (if s.size ≤ a then 3 else 4) := by
  refine ⟨h.1, by rw [h.2]; omega, fun hl => ?_, ?_⟩
  · rw [nq, h.2]
    have hd := rn_zero hl hn
    have g0 := fun e => h0 e hl
    have g6 := fun e => h6 e hl
    unfold nst
    rw [hd]
    generalize bt s a = b at *
    rcases hq with rfl | rfl | rfl | rfl | rfl
    · have := g0 rfl; simp [this]
    · simp
    · simp
    · have := g6 rfl; simp [this.1, this.2]
    · simp
  · have ha := h.1
    have hq2 : nacc (nq (bt s) a) = false := by
      rw [h.2]
      rcases hq with rfl | rfl | rfl | rfl | rfl <;> rfl
    rw [hq2, if_neg (show ¬ (false = true) by decide)]
    by_cases e : a = s.size
    · rw [if_pos e, if_pos (by omega)]
    · rw [if_neg e, if_neg (by omega)]
/-- where a number ends -/
theorem At.fine {s : ByteArray} {a q : Nat} (h : At s a q) (hq : q = 2 ∨ q = 3 ∨ q = 5 ∨ q = 8) (hd : a < s.size → q ≠ 2 → dg (bt s a) = false) (hp : a < s.size → (q = 2 ∨ q = 3) → bt s a ≠ 46) (he : a < s.size → q ≠ 8 → bt s a ≠ 101 ∧ bt s a ≠ 69) : NmIs s a 0 := by
  refine ⟨h.1, by rw [h.2]; omega, fun hl => ?_, ?_⟩
  · rw [nq, h.2]
    have g1 := hd hl
    have g2 := hp hl
    have g3 := he hl
    generalize bt s a = b at *
    unfold nst
    rcases hq with rfl | rfl | rfl | rfl
    · have e2 := g2 (.inl rfl)
      obtain ⟨e3, e4⟩ := g3 (by omega)
      split
      · simp
      · simp [e3, e4]
    · have e1 := g1 (by omega)
      have e2 := g2 (.inr rfl)
      obtain ⟨e3, e4⟩ := g3 (by omega)
      rw [e1]
      simp [e2, e3, e4]
    · have e1 := g1 (by omega)
      obtain ⟨e3, e4⟩ := g3 (by omega)
      rw [e1]
      simp [e3, e4]
    · have e1 := g1 (by omega)
      rw [e1]
      simp
  · rw [h.2]
    rcases hq with rfl | rfl | rfl | rfl <;> rfl
/-- what is ahead of a number's end is a number -/
theorem NmIs.cut {s : ByteArray} {p : Nat} (h : NmIs s p 0) : NmIs (cutT s 0 p) p 0 := by
  have hz : (cutT s 0 p).size = p := by rw [cutT_size h.le]; omega
  have hc : nq (bt (cutT s 0 p)) p = nq (bt s) p := nq_congr fun i hi => by rw [bt_cutT h.le (by omega), Nat.zero_add]
  refine ⟨by omega, by rw [hc]; exact h.go, fun hl => by omega, ?_⟩
  rw [hc, hz]
  have := h.er
  split
  · rfl
  · rename_i hn
    rw [if_neg hn] at this
    split at this <;> omega
theorem bt_left {a b : ByteArray} {i : Nat} (h : i < a.size) : bt (a ++ b) i = bt a i := by
  rw [bt_at (show i < (a ++ b).size by rw [ByteArray.size_append]; omega), bt_at h, ByteArray.getElem_append_left h]
theorem bt_right {a b : ByteArray} {i : Nat} (h : i < b.size) : bt (a ++ b) (a.size + i) = bt b i := by
  rw [bt_at (show a.size + i < (a ++ b).size by rw [ByteArray.size_append]; omega), bt_at h, ByteArray.getElem_append_right (Nat.le_add_right _ _)]
  congr 1
  simp
/-- all ahead of the byte that errs, and a digit, is a number -/
theorem NmIs.one {s : ByteArray} {p e : Nat} (h : NmIs s p e) (he : e ≠ 0) : NmIs (cutT s 0 p ++ ⟨#[49]⟩) (p + 1) 0 := by
  have hz : (cutT s 0 p).size = p := by rw [cutT_size h.le]; omega
  have hz2 : (cutT s 0 p ++ ⟨#[49]⟩).size = p + 1 := by rw [ByteArray.size_append, hz]; rfl
  have hc : nq (bt (cutT s 0 p ++ ⟨#[49]⟩)) p = nq (bt s) p := nq_congr fun i hi => by
    rw [bt_left (by omega), bt_cutT h.le (by omega), Nat.zero_add]
  have hl : bt (cutT s 0 p ++ ⟨#[49]⟩) p = 49 := by
    have := bt_right (a := cutT s 0 p) (b := ⟨#[49]⟩) (i := 0) (by decide)
    rw [hz, Nat.add_zero] at this
    rw [this]
    rfl
  have hg := h.go
  have hle := nq_le (bt s) p
  have hna : nacc (nq (bt s) p) = false := by
    cases hh : nacc (nq (bt s) p) with
    | false => rfl
    | true => have := h.er; rw [hh, if_pos rfl] at this; exact absurd this he
  have hst : nacc (nq (bt (cutT s 0 p ++ ⟨#[49]⟩)) (p + 1)) = true := by
    rw [nq, hc, hl]
    generalize nq (bt s) p = q at *
    have h3 : q = 0 ∨ q = 1 ∨ q = 4 ∨ q = 6 ∨ q = 7 := by
      unfold nacc at hna
      have := of_decide_eq_false hna
      omega
    rcases h3 with rfl | rfl | rfl | rfl | rfl <;> rfl
  refine ⟨by omega, fun g => ?_, fun hl => by omega, by rw [hst, if_pos rfl]⟩
  rw [g] at hst
  exact absurd hst (by decide)
/-- whatever stands behind the byte that errs -/
theorem NmIs.more {s : ByteArray} {p : Nat} (h : NmIs s p 4) (T : ByteArray) : NmIs (cutT s 0 (p + 1) ++ T) p 4 ∧ p < s.size := by
  have he := h.er
  have hna : nacc (nq (bt s) p) = false := by
    cases hh : nacc (nq (bt s) p) with
    | false => rfl
    | true => rw [hh, if_pos rfl] at he; omega
  rw [hna, if_neg (by decide)] at he
  have hp : p < s.size := by
    have := h.le
    split at he <;> omega
  have hz : (cutT s 0 (p + 1)).size = p + 1 := by rw [cutT_size (by omega)]; omega
  have hz2 : (cutT s 0 (p + 1) ++ T).size = p + 1 + T.size := by rw [ByteArray.size_append, hz]
  have hc : ∀ k, k ≤ p + 1 → nq (bt (cutT s 0 (p + 1) ++ T)) k = nq (bt s) k := fun k hk => nq_congr fun i hi => by
    rw [bt_left (by omega), bt_cutT (by omega) (by omega), Nat.zero_add]
  refine ⟨⟨by omega, by rw [hc p (by omega)]; exact h.go, fun _ => by rw [hc (p + 1) (by omega)]; exact h.no hp, ?_⟩, hp⟩
  rw [hc p (by omega), hna, if_neg (by decide), if_neg (by omega)]
theorem NmIs.err {s : ByteArray} {p e : Nat} (h : NmIs s p e) : e = 0 ∨ (e = 3 ∧ p = s.size) ∨ (e = 4 ∧ p < s.size) := by
  have he := h.er
  have := h.le
  split at he
  · exact .inl he
  · split at he
    · exact .inr (.inl ⟨he, by omega⟩)
    · exact .inr (.inr ⟨he, by omega⟩)
end Go.Proofs.Ytljbnnpmnoejeaa.nn
namespace Go.Proofs.Ytljbnnpmnoejeaa.nn
open Go.RowKit

/-- what holds at the head of twice's loop -/
def TwRel (base : Nat) (w0 wr : World) (s : Value) (i b b0 : Nat) (f : Nat → Nat) : Prop :=
  ∃ f' : Nat → Nat, wr.ownsRow base 44 1 s i (vl .u32 f' i) ∧ Below base w0 wr ∧ base ≤ wr.heap.size ∧ Lt (2 ^ 32) f' i ∧ sm (2 ^ 32) f' i + b * (2 ^ 32) ^ i = 2 * sm (2 ^ 32) f i + b0

theorem TwRel.step {base : Nat} {w0 wr w1 : World} {v : Value} {i b b0 : Nat} {f f' : Nat → Nat} (o : Obj) (hb : b ≤ 1) (h2 : Below base w0 wr) (h3 : base ≤ wr.heap.size) (h4 : Lt (2 ^ 32) f' i)
    (h6 : sm (2 ^ 32) f' i + b * (2 ^ 32) ^ i = 2 * sm (2 ^ 32) f i + b0)
    (ho : w1.ownsRow base 44 1 v (i + 1) (vl .u32 (jn f' i (fun _ => f i * 2 % 4294967296 + b)) (i + 1))) (hb1 : Below base (wr.alloc o) w1) : TwRel base w0 w1 v (i + 1) (f i / 2147483648) b0 f := by
  have hb2 := (h2.alloc h3 o).trans hb1
  have hs := hb1.size
  rw [hsz] at hs
  refine ⟨_, ho, hb2, by omega, h4.jn (m := 1) (fun _ _ => by show f i * 2 % 4294967296 + b < 2 ^ 32; omega), ?_⟩
  have e1 : sm (2 ^ 32) (fun _ => f i * 2 % 4294967296 + b) 1 = f i * 2 % 4294967296 + b := by simp [sm]
  have er : sm (2 ^ 32) f (i + 1) = sm (2 ^ 32) f i + f i * (2 ^ 32) ^ i := rfl
  rw [sm_jn, e1, er, pow_s (2 ^ 32) i]
  have e := congrArg (· * (2 ^ 32) ^ i) (show f i * 2 % 4294967296 + b + f i / 2147483648 * 2 ^ 32 = 2 * f i + b by omega)
  simp only [Nat.add_mul] at e
  have e2 : f i / 2147483648 * ((2 ^ 32) ^ i * 2 ^ 32) = f i / 2147483648 * 2 ^ 32 * (2 ^ 32) ^ i := by ac_rfl
  have e3 : 2 * (f i * (2 ^ 32) ^ i) = 2 * f i * (2 ^ 32) ^ i := by ac_rfl
  rw [e2, Nat.mul_add, e3, Nat.add_mul]
  omega

end Go.Proofs.Ytljbnnpmnoejeaa.nn
namespace Go.Proofs.Ytljbnnpmnoejeaa.nn
open Go.RowKit

/-- the value v is a number in memory, perhaps with zero limbs at its end; at most m limbs -/
def U (w : World) (v : Value) (X m : Nat) : Prop := ∃ A n c f, v = .slice A n c ∧ n ≤ c ∧ c ≤ maxLen ∧ Rd w .u32 A n f ∧ Lt (2 ^ 32) f n ∧ sm (2 ^ 32) f n = X ∧ n ≤ m
section
variable {w w' : World} {v u : Value} {X Y m m' : Nat}
theorem U.drewN (h : U w v X m) (j : Nat) : U (w.drewN j) v X m := by
  obtain ⟨A, n, c, f, rfl, h1, h2, h3, h4, h5, h6⟩ := h
  exact ⟨A, n, c, f, rfl, h1, h2, h3.drewN j, h4, h5, h6⟩
theorem U.alloc (h : U w v X m) (o : Obj) : U (w.alloc o) v X m := by
  obtain ⟨A, n, c, f, rfl, h1, h2, h3, h4, h5, h6⟩ := h
  exact ⟨A, n, c, f, rfl, h1, h2, h3.alloc o, h4, h5, h6⟩
theorem U.wide (h : U w v X m) (hm : m ≤ m') : U w v X m' := by
  obtain ⟨A, n, c, f, rfl, h1, h2, h3, h4, h5, h6⟩ := h
  exact ⟨A, n, c, f, rfl, h1, h2, h3, h4, h5, Nat.le_trans h6 hm⟩
end
end Go.Proofs.Ytljbnnpmnoejeaa.nn
namespace Go.Proofs.Ytljbnnpmnoejeaa.nn
open Go.RowKit

theorem U.lt {w : World} {v : Value} {X m : Nat} (h : U w v X m) : X < 2 ^ (32 * m) := by
  obtain ⟨A, n, c, f, rfl, h1, h2, h3, h4, h5, h6⟩ := h
  have := sm_lt h4
  rw [h5, ← Nat.pow_mul] at this
  exact Nat.lt_of_lt_of_le this (Nat.pow_le_pow_right (by decide) (by omega))
end Go.Proofs.Ytljbnnpmnoejeaa.nn
namespace Go.Proofs.Ytljbnnpmnoejeaa.nn
open Go.RowKit

/-- one limb in a new block -/
theorem U.one (w : World) (x : Nat) (T : TypeId) (hx : x < 2 ^ 32) : U (w.alloc (.cells #[.int .u32 (x : Int)] T)) (.slice (some ⟨w.heap.size, 0, none⟩) 1 1) x 1 :=
  ⟨_, 1, 1, _, rfl, Nat.le_refl _, by simp [maxLen], rd_one w .u32 x T, fun _ _ => hx, by simp [sm], Nat.le_refl _⟩
end Go.Proofs.Ytljbnnpmnoejeaa.nn
namespace Go.Proofs.Ytljbnnpmnoejeaa.nn
open Go.RowKit

/-! what a text says -/
def scD (s : ByteArray) : ByteArray := cW s ++ cF s
def scZ (s : ByteArray) : Int := plZ (cN s) (cX s) (cF s)
def scLong (s : ByteArray) : Prop := 800 < (cW s).size + (cF s).size ∨ 4 < (cX s).size
def scNeg (s : ByteArray) : Bool := at_ s 0 45
def scN (s : ByteArray) : Nat := dv (bt (scD s)) (scD s).size
def ScIs (s : ByteArray) (V E : Nat) : Prop :=
  (cOk s = false ∧ V = 0 ∧ E = 4) ∨ (cOk s = true ∧ scLong s ∧ V = 0 ∧ E = 2) ∨
  (cOk s = true ∧ ¬ scLong s ∧ (scN s = 0 ∨ scZ s < -2000) ∧ V = sB (scNeg s) ∧ E = 0) ∨
  (cOk s = true ∧ ¬ scLong s ∧ scN s ≠ 0 ∧ 2000 < scZ s ∧ V = 0 ∧ E = 8) ∨
  (cOk s = true ∧ ¬ scLong s ∧ scN s ≠ 0 ∧ -2000 ≤ scZ s ∧ scZ s ≤ 2000 ∧ ∃ b, RN (scD s) (scZ s) b ∧ V = roV (scNeg s) b ∧ E = roE b)
theorem ScIs.uniq {s : ByteArray} {V E V' E' : Nat} (h : ScIs s V E) (h' : ScIs s V' E') : V = V' ∧ E = E' := by
  rcases h with ⟨a1, a2, a3⟩ | ⟨a1, a2, a3, a4⟩ | ⟨a1, a2, a3, a4, a5⟩ | ⟨a1, a2, a3, a4, a5, a6⟩ | ⟨a1, a2, a3, a4, a5, b, hb, a6, a7⟩ <;>
  rcases h' with ⟨b1, b2, b3⟩ | ⟨b1, b2, b3, b4⟩ | ⟨b1, b2, b3, b4, b5⟩ | ⟨b1, b2, b3, b4, b5, b6⟩ | ⟨b1, b2, b3, b4, b5, b', hb', b6, b7⟩
  all_goals first
    | exact ⟨a2.trans b2.symm, a3.trans b3.symm⟩
    | exact ⟨a3.trans b3.symm, a4.trans b4.symm⟩
    | exact ⟨a4.trans b4.symm, a5.trans b5.symm⟩
    | exact ⟨a5.trans b5.symm, a6.trans b6.symm⟩
    | (have e := near_uniq (rY_pos _) hb hb'; subst e; exact ⟨a6.trans b6.symm, a7.trans b7.symm⟩)
    | (exfalso; rw [a1] at b1; cases b1; done)
    | (exfalso; exact a2 b2)
    | (exfalso; exact b2 a2)
    | (exfalso; omega)

end Go.Proofs.Ytljbnnpmnoejeaa.nn
namespace Go.Proofs.Ytljbnnpmnoejeaa.nn
open Go.RowKit

/-- the boxed parts of a call, at block g -/
structure Bq (w : World) (g : Nat) (neg : Bool) (Wt F : ByteArray) (ng : Bool) (X : ByteArray) (W : World) : Prop where
  c0 : W.cell? ⟨g, 0, none⟩ = some (.bool neg)
  c1 : W.cell? ⟨g, 1, none⟩ = some (.string Wt)
  c2 : W.cell? ⟨g, 2, none⟩ = some (.string F)
  c3 : W.cell? ⟨g, 3, none⟩ = some (.bool ng)
  c4 : W.cell? ⟨g, 4, none⟩ = some (.string X)
  b : Below w.heap.size w W
  z : g < W.heap.size
theorem Bq.all {w W : World} {g : Nat} {neg ng : Bool} {Wt F X : ByteArray} (h : Bq w g neg Wt F ng X W) : W.cell? ⟨g, 0, none⟩ = some (.bool neg) ∧ W.cell? ⟨g, 1, none⟩ = some (.string Wt) ∧ W.cell? ⟨g, 2, none⟩ = some (.string F) ∧ W.cell? ⟨g, 3, none⟩ = some (.bool ng) ∧ W.cell? ⟨g, 4, none⟩ = some (.string X) ∧ Bq w g neg Wt F ng X W := ⟨h.c0, h.c1, h.c2, h.c3, h.c4, h⟩

end Go.Proofs.Ytljbnnpmnoejeaa.nn
namespace Go.Proofs.Ytljbnnpmnoejeaa.nn
open Go.RowKit

/-- the number of digits that is asked for behind the point -/
def n1 (s : ByteArray) : Nat := if cDot s then rn s (cB s + 1) else rn s (cA s)
theorem byte_of {s : ByteArray} {a : Nat} (h : a < s.size) : ∃ y, s[a].toNat = y ∧ bt s a = y ∧ y < 256 := ⟨_, rfl, bt_at h, s[a].toNat_lt⟩

end Go.Proofs.Ytljbnnpmnoejeaa.nn
namespace Go.Proofs.Ytljbnnpmnoejeaa.nn
open Go.RowKit

set_option maxRecDepth 100000 in
set_option maxHeartbeats 1000000 in
theorem nrun_any (s : ByteArray) (a : Nat) (w : World) (hs : s.size ≤ 4611686018427387904) (ha : a ≤ s.size) :
    Calls Try.prog 10 #[.string s, .int .i64 (a : Int)] w fun e w' => e = .returned (.int .i64 (rn s a : Int)) ∧ w = w' := by
  go_enter Try.func10, Try.ntmps10
  go_wp2
  go_loop [5] (fun s5 => ∃ i : Nat, a + i ≤ s.size ∧ s5 = .int .i64 (i : Int) ∧ Hid (dgs (fun j => bt s (a + j)) i = true)) (fun s5 => s.size - a - (intOf s5).toNat)
  case atStart => exact ⟨0, by omega, rfl, Lib.hid rfl⟩
  case round =>
    obtain ⟨i, hi, rfl, hd⟩ := hrel
    by_cases hlt : a + i < s.size
    · have hx := bt_at hlt
      obtain ⟨x, hxx⟩ : ∃ x, s[a + i].toNat = x := ⟨_, rfl⟩
      have hx256 : x < 256 := by rw [← hxx]; exact s[a + i].toNat_lt
      rw [hxx] at hx
      have t1 : ((a : Int) + (i : Int)).toNat = a + i := by omega
      by_cases hy : 48 ≤ x ∧ x ≤ 57
      · have HD : Hid (dgs (fun j => bt s (a + j)) (i + 1) = true) := Lib.hid (by rw [dgs, hd.out, hx]; exact decide_eq_true hy)
        obtain ⟨h1, h2⟩ := hy
        clear hx
        go_wp2
        go_round
        case rel => exact ⟨i + 1, by omega, by go_num, HD⟩
        case measure => simp [intOf]; omega
      · have HD : Hid (rn s a = i) := Lib.hid (dc_eq (by omega) hd.out (.inr (by show dg (bt s (a + i)) = false; rw [hx]; exact decide_eq_false hy)))
        clear hx
        by_cases h1 : 48 ≤ x
        · have h2 : 57 < x := by omega
          clear hy
          go_wp2
          go_ret
          exact ⟨ret_int (by rw [HD.out]), rfl⟩
        · clear hy
          go_wp2
          go_ret
          exact ⟨ret_int (by rw [HD.out]), rfl⟩
    · have HD : Hid (rn s a = i) := Lib.hid (dc_eq (by omega) hd.out (.inl (by omega)))
      go_wp2
      go_ret
      exact ⟨ret_int (by rw [HD.out]), rfl⟩
/-- the error of a digit that is not there -/
def nbE (s : ByteArray) (a : Nat) : Nat := if s.size ≤ a then 3 else 4
set_option maxRecDepth 100000 in
set_option maxHeartbeats 1000000 in
theorem nbad_any (s : ByteArray) (a : Nat) (w : World) (_ : s.size ≤ 4611686018427387904) (ha : a ≤ s.size) :
    Calls Try.prog 11 #[.string s, .int .i64 (a : Int)] w fun e w' => e = .returned (.tuple #[.int .i64 (a : Int), .int .i64 (nbE s a : Int)]) ∧ w = w' := by
  unfold nbE
  by_cases h : s.size ≤ a
  · obtain rfl : a = s.size := by omega
    rw [if_pos h]
    go_enter Try.func11, Try.ntmps11
    go_wp2_with fail
    go_ret2
    exact ⟨rfl, rfl⟩
  · rw [if_neg h]
    go_enter Try.func11, Try.ntmps11
    go_wp2_with fail
    go_ret2
    exact ⟨rfl, rfl⟩
/-- what is told of a number at the beginning -/
def NmAns (s : ByteArray) (w : World) (e : Ending) (w' : World) : Prop := ∃ p E : Nat, e = .returned (.tuple #[.int .i64 (p : Int), .int .i64 (E : Int)]) ∧ NmIs s p E ∧ Below w.heap.size w w'
/-- behind the whole part -/
structure Beh (s : ByteArray) (p q : Nat) : Prop where
  at_ : At s p q
  st : q = 2 ∨ q = 3 ∨ q = 5
  dg : p < s.size → q ≠ 2 → nn.dg (bt s p) = false
theorem Beh.first {s : ByteArray} {a q : Nat} (h : At s a q) (hq : q = 0 ∨ q = 1) (hn : 0 < rn s a) : ∃ q', Beh s (a + (if bt s a = 48 then 1 else rn s a)) q' ∧ (q' = 2 ∨ q' = 3) := by
  obtain ⟨h1, h2⟩ := h.first hq hn
  by_cases e : bt s a = 48
  · rw [if_pos e]
    exact ⟨2, ⟨h1 e, .inl rfl, fun _ g => absurd rfl g⟩, .inl rfl⟩
  · rw [if_neg e]
    exact ⟨3, ⟨h2 e, .inr (.inl rfl), fun hl _ => by
      rcases (rn_facts s a).2 with g | g
      · have := rn_le s a; have := h.1; omega
      · exact g⟩, .inr rfl⟩
theorem Beh.point {s : ByteArray} {p q : Nat} (h : Beh s p q) (hq : q = 2 ∨ q = 3) (hd : nn.at_ s p 46 = true) : At s (p + 1) 4 := by
  obtain ⟨h1, h2⟩ := at_le hd
  refine h.at_.step h1 h2 ?_
  rcases hq with rfl | rfl <;> rfl
theorem Beh.frac {s : ByteArray} {p : Nat} (h : At s p 4) (hn : 0 < rn s p) : Beh s (p + rn s p) 5 := by
  refine ⟨h.digits (.inl ⟨rfl, rfl⟩) hn, .inr (.inr rfl), fun hl _ => ?_⟩
  rcases (rn_facts s p).2 with g | g
  · have := rn_le s p; have := h.1; omega
  · exact g
theorem Beh.exp {s : ByteArray} {p q : Nat} (h : Beh s p q) (hd : (nn.at_ s p 101 || nn.at_ s p 69) = true) : At s (p + 1) 6 := by
  rw [Bool.or_eq_true] at hd
  have hq := h.st
  rcases hd with hd | hd
  · obtain ⟨h1, h2⟩ := at_le hd
    refine h.at_.step h1 h2 ?_
    rcases hq with rfl | rfl | rfl <;> rfl
  · obtain ⟨h1, h2⟩ := at_le hd
    refine h.at_.step h1 h2 ?_
    rcases hq with rfl | rfl | rfl <;> rfl
theorem Beh.fine {s : ByteArray} {p q : Nat} (h : Beh s p q) (hd : (nn.at_ s p 101 || nn.at_ s p 69) = false) (hp : (q = 2 ∨ q = 3) → nn.at_ s p 46 = false) : NmIs s p 0 := by
  rw [Bool.or_eq_false_iff] at hd
  refine h.at_.fine (by have := h.st; omega) h.dg (fun hl hq e => ?_) (fun hl _ => ⟨fun e => ?_, fun e => ?_⟩)
  · have := of_decide_eq_false (hp hq); exact this ⟨hl, e⟩
  · have := of_decide_eq_false hd.1; exact this ⟨hl, e⟩
  · have := of_decide_eq_false hd.2; exact this ⟨hl, e⟩
theorem At.signed {s : ByteArray} {p : Nat} (h : At s p 6) (hd : (nn.at_ s p 43 || nn.at_ s p 45) = true) : At s (p + 1) 7 := by
  rw [Bool.or_eq_true] at hd
  rcases hd with hd | hd
  · obtain ⟨h1, h2⟩ := at_le hd
    exact h.step h1 h2 rfl
  · obtain ⟨h1, h2⟩ := at_le hd
    exact h.step h1 h2 rfl
theorem At.last {s : ByteArray} {p q : Nat} (h : At s p q) (hq : q = 6 ∨ q = 7) (hn : 0 < rn s p) : NmIs s (p + rn s p) 0 := by
  refine (h.digits (.inr ⟨hq, rfl⟩) hn).fine (.inr (.inr (.inr rfl))) (fun hl _ => ?_) (fun _ g => by omega) (fun _ g => absurd rfl g)
  rcases (rn_facts s p).2 with g | g
  · have := rn_le s p; have := h.1; omega
  · exact g
theorem at_neg {s : ByteArray} : At s (cA s) (if nn.at_ s 0 45 = true then 1 else 0) := by
  unfold cA
  cases h : nn.at_ s 0 45 with
  | true =>
    obtain ⟨h1, h2⟩ := at_le h
    exact (At.zero s).step h1 h2 rfl
  | false => exact At.zero s

set_option maxRecDepth 100000 in
set_option maxHeartbeats 8000000 in
theorem nscan_any (s : ByteArray) (w : World) (hs : s.size ≤ 4611686018427387904) :
    Calls Try.prog 6 #[.string s] w (NmAns s w) := by
  have a1 := cA_le s
  have HR := Lib.hid (fun a W (ha : a ≤ s.size) => nrun_any s a W hs ha)
  have HBD := Lib.hid (fun a W (ha : a ≤ s.size) => nbad_any s a W hs ha)
  have HA0 := Lib.hid (at_neg (s := s))
  have HB0 := Lib.hid (Below.refl w.heap.size w)
  by_cases h0 : s.size = 0
  · have hr : rn s 0 = 0 := by have := rn_le s 0; omega
    have R0 := Lib.hid (fun W => HR.out 0 W (by omega))
    have B0 := Lib.hid (fun W => HBD.out 0 W (by omega))
    rw [hr] at R0
    have HN : Hid (NmIs s 0 (nbE s 0)) := Lib.hid ((At.zero s).bad (.inl rfl) hr (fun _ h => by omega) (fun h => by omega))
    obtain rfl := nil_text h0
    clear hr h0 HA0 a1 hs
    go_enter Try.func6, Try.ntmps6
    go_wp2_with fail
    refine (R0.out _).mono ?_
    rintro e w' ⟨rfl, rfl⟩
    go_wp2_with fail
    refine (B0.out _).mono ?_
    rintro e w' ⟨rfl, rfl⟩
    go_wp2_with fail
    go_ret2
    exact ⟨0, _, rfl, HN.out, HB0.out⟩
  have hpos : 0 < s.size := by omega
  obtain ⟨x, hxx, hx, hx256⟩ := byte_of hpos
  have hne := not_nil_text hpos
  have hneg : ((x : Int) == 45) = at_ s 0 45 := by
    unfold at_
    rw [hx]
    by_cases h : x = 45
    · rw [decide_eq_true ⟨hpos, h⟩]; subst h; rfl
    · rw [decide_eq_false (fun g => h g.2), beq_eq_false_iff_ne]; omega
  have hA : cA s = if at_ s 0 45 = true then 1 else 0 := rfl
  have HX0 : Hid (at_ s 0 45 = false → bt s 0 ≠ 45) := Lib.hid fun h g => of_decide_eq_false h ⟨hpos, g⟩
  obtain ⟨neg, hng⟩ : ∃ b, at_ s 0 45 = b := ⟨_, rfl⟩
  rw [hng] at hneg hA HA0 HX0
  obtain ⟨a, ha⟩ : ∃ a, cA s = a := ⟨_, rfl⟩
  rw [ha] at hA HA0 a1
  have HA := Lib.hid hA
  clear hA hx hng ha h0
  go_enter Try.func6, Try.ntmps6
  go_upto_if 12 with (fail)
  go_cut [4] (fun s4 wx => s4 = .int .i64 (a : Int) ∧ wx = w)
  case first =>
    cases neg
    all_goals
      go_wp2_with fail
      go_meet
      exact ⟨by rw [HA.out]; rfl, rfl⟩
  case rest =>
    obtain ⟨rfl, hww⟩ := hcut
    obtain rfl : w = wc := hww.symm
    clear hxx hne hneg
    obtain ⟨k0, hk0⟩ : ∃ n, rn s a = n := ⟨_, rfl⟩
    have hkl := rn_le s a
    have R0 := Lib.hid (fun W => HR.out a W a1)
    rw [hk0] at R0 hkl
    by_cases hz : k0 = 0
    · have HN : Hid (NmIs s a (nbE s a)) := Lib.hid (by
        refine HA0.out.bad (by cases neg <;> simp) (by rw [hk0, hz]) (fun g hl => ?_) (fun g => by cases neg <;> simp at g)
        cases neg with
        | true => simp at g
        | false =>
          have h := HA.out
          rw [if_neg (by decide)] at h
          rw [h]
          exact HX0.out rfl)
      have B0 := Lib.hid (fun W => HBD.out a W a1)
      subst hz
      clear hk0 HR HBD
      go_wp2_with fail
      refine (R0.out _).mono ?_
      rintro e w' ⟨rfl, rfl⟩
      go_wp2_with fail
      refine (B0.out _).mono ?_
      rintro e w' ⟨rfl, rfl⟩
      go_wp2_with fail
      go_ret2
      exact ⟨a, _, rfl, HN.out, HB0.out⟩
    · have hz' : ((k0 : Int) == 0) = false := by rw [beq_eq_false_iff_ne]; omega
      have hal : a < s.size := by omega
      obtain ⟨y, hyy, hy, hy256⟩ := byte_of hal
      have HB1 := Lib.hid (Beh.first HA0.out (by cases neg <;> simp) (show 0 < rn s a by omega))
      rw [hk0, hy] at HB1
      obtain ⟨k1, hk1⟩ : ∃ n, (if y = 48 then 1 else k0) = n := ⟨_, rfl⟩
      rw [hk1] at HB1
      have HK1 := Lib.hid hk1
      have hk1l : a + k1 ≤ s.size := by rw [← hk1]; split <;> omega
      have h48 : ((y : Int) == 48) = decide (y = 48) := by
        by_cases h : y = 48
        · subst h; rfl
        · rw [decide_eq_false h, beq_eq_false_iff_ne]; omega
      clear hk0 hk1 hy
      go_wp2_with fail
      refine (R0.out _).mono ?_
      rintro e w' ⟨rfl, rfl⟩
      go_upto_if 26 with (fail)
      clear hz'
      go_cut [5] (fun s5 wx => s5 = .int .i64 (k1 : Int) ∧ wx = w)
      case first =>
        by_cases h : y = 48
        · subst h
          go_wp2_with fail
          go_meet
          exact ⟨by rw [← HK1.out]; rfl, rfl⟩
        · rw [decide_eq_false h]
          go_wp2_with fail
          go_meet
          exact ⟨by rw [← HK1.out, if_neg h], rfl⟩
      case rest =>
        obtain ⟨rfl, hww⟩ := hcut
        obtain rfl : w = wc := hww.symm
        obtain ⟨p, hp⟩ : ∃ p, a + k1 = p := ⟨_, rfl⟩
        have kp : (a : Int) + (k1 : Int) = (p : Int) := by omega
        rw [hp] at HB1 hk1l
        obtain ⟨q, hB, hq⟩ := HB1.out
        have HQ := Lib.hid (And.intro hB hq)
        clear hyy h48 hB hq HB1 hp hz
        go_upto_region 10 with fail
        clear kp
        go_cut [39] (fun s39 wx => s39 = .bool (at_ s p 46) ∧ wx = w)
        case first =>
          by_cases hbl : p < s.size
          · obtain ⟨z, hzz, hz, hz256⟩ := byte_of hbl
            by_cases h46 : z = 46
            · subst h46
              have hdt : Hid (at_ s p 46 = true) := Lib.hid (decide_eq_true ⟨hbl, hz⟩)
              clear hz
              go_wp2_with fail
              go_meet
              exact ⟨by rw [hdt.out], rfl⟩
            · have hdt : Hid (at_ s p 46 = false) := Lib.hid (decide_eq_false (fun g => h46 (hz.symm.trans g.2)))
              have hne46 : ((z : Int) == 46) = false := by rw [beq_eq_false_iff_ne]; omega
              clear hz h46
              go_wp2_with fail
              go_meet
              exact ⟨by rw [hdt.out], rfl⟩
          · have hdt : Hid (at_ s p 46 = false) := Lib.hid (decide_eq_false (fun g => hbl g.1))
            go_wp2_with fail
            go_meet
            exact ⟨by rw [hdt.out], rfl⟩
        case rest =>
          obtain ⟨rfl, hww⟩ := hcut
          obtain rfl : w = wc := hww.symm
          go_upto_if 39 with (fail)
          go_cut [4] (fun s4 wx => (∃ c q', s4 = .int .i64 ((c : Nat) : Int) ∧ c ≤ s.size ∧ Hid (Beh s c q' ∧ ((q' = 2 ∨ q' = 3) → at_ s c 46 = false))) ∧ wx = w)
          case first =>
            cases hdt : at_ s p 46 with
            | true =>
              have hA4 := Beh.point HQ.out.1 HQ.out.2 hdt
              have h1 : p + 1 ≤ s.size := hA4.1
              have R1 := Lib.hid (fun W => HR.out (p + 1) W h1)
              have hml := rn_le s (p + 1)
              have HF := Lib.hid (fun h => Beh.frac hA4 h)
              have HZ := Lib.hid (fun h => hA4.bad (.inr (.inr (.inl rfl))) h (fun g => by omega) (fun g => by omega))
              obtain ⟨m, hm⟩ : ∃ m, rn s (p + 1) = m := ⟨_, rfl⟩
              rw [hm] at R1 hml HF HZ
              have R1' : Hid (∀ W, Calls Try.prog 10 #[.string s, .int .i64 ((p : Int) + 1)] W fun e w' => e = .returned (.int .i64 (m : Int)) ∧ W = w') := R1
              have B1' : Hid (∀ W, Calls Try.prog 11 #[.string s, .int .i64 ((p : Int) + 1)] W fun e w' => e = .returned (.tuple #[.int .i64 ((p + 1 : Nat) : Int), .int .i64 (nbE s (p + 1) : Int)]) ∧ W = w') := Lib.hid (fun W => HBD.out (p + 1) W h1)
              clear hA4 hm R1 hdt HR HBD
              by_cases hm0 : m = 0
              · have HN : Hid (NmIs s (p + 1) (nbE s (p + 1))) := Lib.hid (HZ.out hm0)
                subst hm0
                clear HZ HF
                go_wp2_with fail
                refine (R1'.out _).mono ?_
                rintro e w' ⟨rfl, rfl⟩
                go_wp2_with fail
                refine (B1'.out _).mono ?_
                rintro e w' ⟨rfl, rfl⟩
                go_wp2_with fail
                go_ret2
                exact ⟨p + 1, _, rfl, HN.out, HB0.out⟩
              · have hm' : ((m : Int) == 0) = false := by rw [beq_eq_false_iff_ne]; omega
                have HF2 := Lib.hid (HF.out (by omega))
                clear HF HZ
                go_wp2_with fail
                refine (R1'.out _).mono ?_
                rintro e w' ⟨rfl, rfl⟩
                go_wp2_with fail
                go_meet
                exact ⟨⟨p + 1 + m, 5, by go_num, by omega, Lib.hid ⟨HF2.out, fun g => by omega⟩⟩, rfl⟩
            | false =>
              have HDT := Lib.hid hdt
              clear hdt
              go_wp2_with fail
              go_meet
              exact ⟨⟨p, q, rfl, hk1l, Lib.hid ⟨HQ.out.1, fun _ => HDT.out⟩⟩, rfl⟩
          case rest =>
            obtain ⟨⟨c, q', rfl, hcs, hBQ⟩, hww⟩ := hcut
            obtain rfl : w = wc := hww.symm
            clear HQ hk1l
            go_upto_region 15 with fail
            go_cut [71] (fun s71 wx => s71 = .bool (at_ s c 101 || at_ s c 69) ∧ wx = w)
            case first =>
              by_cases hcl : c < s.size
              · obtain ⟨z, hzz, hz, hz256⟩ := byte_of hcl
                by_cases h1 : z = 101
                · subst h1
                  have hdt : Hid ((at_ s c 101 || at_ s c 69) = true) := Lib.hid (by rw [show at_ s c 101 = true from decide_eq_true ⟨hcl, hz⟩]; rfl)
                  clear hz
                  go_wp2_with fail
                  go_meet
                  exact ⟨by rw [hdt.out], rfl⟩
                · have g1 : at_ s c 101 = false := decide_eq_false (fun g => h1 (hz.symm.trans g.2))
                  have hne1 : ((z : Int) == 101) = false := by rw [beq_eq_false_iff_ne]; omega
                  by_cases h2 : z = 69
                  · subst h2
                    have hdt : Hid ((at_ s c 101 || at_ s c 69) = true) := Lib.hid (by rw [show at_ s c 69 = true from decide_eq_true ⟨hcl, hz⟩, Bool.or_true])
                    clear hz h1 g1
                    go_wp2_with fail
                    go_meet
                    exact ⟨by rw [hdt.out], rfl⟩
                  · have hdt : Hid ((at_ s c 101 || at_ s c 69) = false) := Lib.hid (by rw [g1, show at_ s c 69 = false from decide_eq_false (fun g => h2 (hz.symm.trans g.2))]; rfl)
                    have hne2 : ((z : Int) == 69) = false := by rw [beq_eq_false_iff_ne]; omega
                    clear hz h1 h2 g1
                    go_wp2_with fail
                    go_meet
                    exact ⟨by rw [hdt.out], rfl⟩
              · have hdt : Hid ((at_ s c 101 || at_ s c 69) = false) := Lib.hid (by rw [show at_ s c 101 = false from decide_eq_false (fun g => hcl g.1), show at_ s c 69 = false from decide_eq_false (fun g => hcl g.1)]; rfl)
                go_wp2_with fail
                go_meet
                exact ⟨by rw [hdt.out], rfl⟩
            case rest =>
              obtain ⟨rfl, hww⟩ := hcut
              obtain rfl : w = wc := hww.symm
              cases hE : (at_ s c 101 || at_ s c 69) with
              | false =>
                have HN : Hid (NmIs s c 0) := Lib.hid (hBQ.out.1.fine hE hBQ.out.2)
                clear hE
                go_wp2_with fail
                go_ret2
                exact ⟨c, 0, rfl, HN.out, HB0.out⟩
              | true =>
                have h6 := hBQ.out.1.exp hE
                have hc1 : c + 1 ≤ s.size := h6.1
                have H6 := Lib.hid h6
                obtain ⟨r, hr⟩ : ∃ r, c + 1 = r := ⟨_, rfl⟩
                have kr : (c : Int) + 1 = (r : Int) := by omega
                rw [hr] at H6 hc1
                clear hE h6 hr
                go_upto_region 17 with fail
                clear kr
                go_cut [89] (fun s89 wx => s89 = .bool (at_ s r 43 || at_ s r 45) ∧ wx = w)
                case first =>
                  by_cases hcl : r < s.size
                  · obtain ⟨z, hzz, hz, hz256⟩ := byte_of hcl
                    by_cases h1 : z = 43
                    · subst h1
                      have hdt : Hid ((at_ s r 43 || at_ s r 45) = true) := Lib.hid (by rw [show at_ s r 43 = true from decide_eq_true ⟨hcl, hz⟩]; rfl)
                      clear hz
                      go_wp2_with fail
                      go_meet
                      exact ⟨by rw [hdt.out], rfl⟩
                    · have g1 : at_ s r 43 = false := decide_eq_false (fun g => h1 (hz.symm.trans g.2))
                      have hne1 : ((z : Int) == 43) = false := by rw [beq_eq_false_iff_ne]; omega
                      by_cases h2 : z = 45
                      · subst h2
                        have hdt : Hid ((at_ s r 43 || at_ s r 45) = true) := Lib.hid (by rw [show at_ s r 45 = true from decide_eq_true ⟨hcl, hz⟩, Bool.or_true])
                        clear hz h1 g1
                        go_wp2_with fail
                        go_meet
                        exact ⟨by rw [hdt.out], rfl⟩
                      · have hdt : Hid ((at_ s r 43 || at_ s r 45) = false) := Lib.hid (by rw [g1, show at_ s r 45 = false from decide_eq_false (fun g => h2 (hz.symm.trans g.2))]; rfl)
                        have hne2 : ((z : Int) == 45) = false := by rw [beq_eq_false_iff_ne]; omega
                        clear hz h1 h2 g1
                        go_wp2_with fail
                        go_meet
                        exact ⟨by rw [hdt.out], rfl⟩
                  · have hdt : Hid ((at_ s r 43 || at_ s r 45) = false) := Lib.hid (by rw [show at_ s r 43 = false from decide_eq_false (fun g => hcl g.1), show at_ s r 45 = false from decide_eq_false (fun g => hcl g.1)]; rfl)
                    go_wp2_with fail
                    go_meet
                    exact ⟨by rw [hdt.out], rfl⟩
                case rest =>
                  obtain ⟨rfl, hww⟩ := hcut
                  obtain rfl : w = wc := hww.symm
                  go_upto_if 89 with (fail)
                  go_cut [4] (fun s4 wx => (∃ t q2, s4 = .int .i64 ((t : Nat) : Int) ∧ t ≤ s.size ∧ Hid (At s t q2 ∧ (q2 = 6 ∨ q2 = 7) ∧ (q2 = 6 → t < s.size → bt s t ≠ 45 ∧ bt s t ≠ 43))) ∧ wx = w)
                  case first =>
                    cases hS : (at_ s r 43 || at_ s r 45) with
                    | true =>
                      have h7 := H6.out.signed hS
                      have hr1 : r + 1 ≤ s.size := h7.1
                      have H7 := Lib.hid h7
                      clear hS h7
                      go_wp2_with fail
                      go_meet
                      exact ⟨⟨r + 1, 7, by go_num, hr1, Lib.hid ⟨H7.out, .inr rfl, fun g => by omega⟩⟩, rfl⟩
                    | false =>
                      rw [Bool.or_eq_false_iff] at hS
                      have HS := Lib.hid hS
                      clear hS
                      go_wp2_with fail
                      go_meet
                      exact ⟨⟨r, 6, rfl, hc1, Lib.hid ⟨H6.out, .inl rfl, fun _ hl => ⟨fun g => of_decide_eq_false HS.out.2 ⟨hl, g⟩, fun g => of_decide_eq_false HS.out.1 ⟨hl, g⟩⟩⟩⟩, rfl⟩
                  case rest =>
                    obtain ⟨⟨t, q2, rfl, hts, hT⟩, hww⟩ := hcut
                    obtain rfl : w = wc := hww.symm
                    have R2 := Lib.hid (fun W => HR.out t W hts)
                    have B2 := Lib.hid (fun W => HBD.out t W hts)
                    have hml := rn_le s t
                    have HZ := Lib.hid (fun h => hT.out.1.bad (by have := hT.out.2.1; omega) h (fun g => by have := hT.out.2.1; omega) hT.out.2.2)
                    have HL := Lib.hid (fun h => hT.out.1.last hT.out.2.1 h)
                    obtain ⟨m, hm⟩ : ∃ m, rn s t = m := ⟨_, rfl⟩
                    rw [hm] at R2 hml HZ HL
                    clear hm HR HBD
                    by_cases hm0 : m = 0
                    · have HN : Hid (NmIs s t (nbE s t)) := Lib.hid (HZ.out hm0)
                      subst hm0
                      clear HZ HL
                      go_wp2_with fail
                      refine (R2.out _).mono ?_
                      rintro e w' ⟨rfl, rfl⟩
                      go_wp2_with fail
                      refine (B2.out _).mono ?_
                      rintro e w' ⟨rfl, rfl⟩
                      go_wp2_with fail
                      go_ret2
                      exact ⟨t, _, rfl, HN.out, HB0.out⟩
                    · have hm' : ((m : Int) == 0) = false := by rw [beq_eq_false_iff_ne]; omega
                      have HN := Lib.hid (HL.out (by omega))
                      clear HL HZ
                      go_wp2_with fail
                      refine (R2.out _).mono ?_
                      rintro e w' ⟨rfl, rfl⟩
                      go_wp2_with fail
                      go_ret2
                      exact ⟨t + m, 0, by go_num, HN.out, HB0.out⟩
end Go.Proofs.Ytljbnnpmnoejeaa.nn
namespace Go.Proofs.Ytljbnnpmnoejeaa.nn
open Go.RowKit

set_option maxRecDepth 100000 in
theorem nst_0 : ∀ b, b < 256 → nst 0 b = if decide (b = 45) = true then 1 else if decide (b = 48) = true then 2 else if decide (49 ≤ b ∧ b ≤ 57) = true then 3 else 9 := by decide +kernel
set_option maxRecDepth 100000 in
theorem nst_1 : ∀ b, b < 256 → nst 1 b = if decide (b = 48) = true then 2 else if decide (49 ≤ b ∧ b ≤ 57) = true then 3 else 9 := by decide +kernel
set_option maxRecDepth 100000 in
theorem nst_2 : ∀ b, b < 256 → nst 2 b = if decide (b = 46) = true then 4 else if decide (b = 101 ∨ b = 69) = true then 6 else 9 := by decide +kernel
set_option maxRecDepth 100000 in
theorem nst_3 : ∀ b, b < 256 → nst 3 b = if decide (48 ≤ b ∧ b ≤ 57) = true then 3 else if decide (b = 46) = true then 4 else if decide (b = 101 ∨ b = 69) = true then 6 else 9 := by decide +kernel
set_option maxRecDepth 100000 in
theorem nst_4 : ∀ b, b < 256 → nst 4 b = if decide (48 ≤ b ∧ b ≤ 57) = true then 5 else 9 := by decide +kernel
set_option maxRecDepth 100000 in
theorem nst_5 : ∀ b, b < 256 → nst 5 b = if decide (48 ≤ b ∧ b ≤ 57) = true then 5 else if decide (b = 101 ∨ b = 69) = true then 6 else 9 := by decide +kernel
set_option maxRecDepth 100000 in
theorem nst_6 : ∀ b, b < 256 → nst 6 b = if decide (48 ≤ b ∧ b ≤ 57) = true then 8 else if decide (b = 43) = true then 7 else if decide (b = 45) = true then 7 else 9 := by decide +kernel
set_option maxRecDepth 100000 in
theorem nst_7 : ∀ b, b < 256 → nst 7 b = if decide (48 ≤ b ∧ b ≤ 57) = true then 8 else 9 := by decide +kernel
set_option maxRecDepth 100000 in
theorem nst_8 : ∀ b, b < 256 → nst 8 b = if decide (48 ≤ b ∧ b ≤ 57) = true then 8 else 9 := by decide +kernel
theorem eq_dec (b k : Nat) : ((b : Int) == (k : Int)) = decide (b = k) := by
  by_cases h : b = k
  · rw [decide_eq_true h, h, beq_self_eq_true]
  · rw [decide_eq_false h, beq_eq_false_iff_ne]; omega

set_option maxRecDepth 100000 in
set_option maxHeartbeats 1000000 in
theorem isMark_any (b : Nat) (w : World) : Calls Try.prog 14 #[.int .u8 (b : Int)] w fun e w' => e = .returned (.bool (decide (b = 101 ∨ b = 69))) ∧ w = w' := by
  by_cases h1 : b = 101
  · subst h1
    go_enter Try.func14, Try.ntmps14
    go_wp2
    go_ret
    exact ⟨rfl, rfl⟩
  · have n1 : ((b : Int) == 101) = false := by rw [beq_eq_false_iff_ne]; omega
    by_cases h2 : b = 69
    · subst h2
      clear h1
      go_enter Try.func14, Try.ntmps14
      go_wp2
      go_ret
      exact ⟨rfl, rfl⟩
    · have n2 : ((b : Int) == 69) = false := by rw [beq_eq_false_iff_ne]; omega
      rw [decide_eq_false (show ¬ (b = 101 ∨ b = 69) by omega)]
      clear h1 h2
      go_enter Try.func14, Try.ntmps14
      go_wp2
      go_ret
      exact ⟨rfl, rfl⟩
set_option maxRecDepth 100000 in
set_option maxHeartbeats 1000000 in
theorem isDig_any (k b g : Nat) (w : World) (hc : w.cell? ⟨g, 0, none⟩ = some (.int .u8 (b : Int))) : Calls Try.prog 13 #[.int .u8 (k : Int), .pointer (some ⟨g, 0, none⟩)] w fun e w' => e = .returned (.bool (decide (k ≤ b ∧ b ≤ 57))) ∧ w = w' := by
  by_cases h1 : k ≤ b
  · by_cases h2 : b ≤ 57
    · rw [decide_eq_true (show k ≤ b ∧ b ≤ 57 by omega)]
      have g2 : decide ((b : Int) ≤ 57) = true := decide_eq_true (by omega)
      go_enter Try.func13, Try.ntmps13
      go_wp2
      go_ret
      exact ⟨rfl, rfl⟩
    · rw [decide_eq_false (show ¬ (k ≤ b ∧ b ≤ 57) by omega)]
      have g2 : decide ((b : Int) ≤ 57) = false := decide_eq_false (by omega)
      go_enter Try.func13, Try.ntmps13
      go_wp2
      go_ret
      exact ⟨rfl, rfl⟩
  · rw [decide_eq_false (show ¬ (k ≤ b ∧ b ≤ 57) by omega)]
    have g1 : decide ((k : Int) ≤ (b : Int)) = false := decide_eq_false (by omega)
    go_enter Try.func13, Try.ntmps13
    go_wp2
    go_ret
    exact ⟨rfl, rfl⟩
set_option maxRecDepth 100000 in
set_option maxHeartbeats 4000000 in
theorem step_any (q b : Nat) (w : World) (hq : q ≤ 8) (hb : b < 256) : Calls Try.prog 12 #[.int .i64 (q : Int), .int .u8 (b : Int)] w fun e w' => e = .returned (.int .i64 (nst q b : Int)) ∧ Below w.heap.size w w' := by
  have hmf : ∀ (fn : Fn) (first cap : Array Value) (w : World), (Instr.makeFunc fn first cap).run Try.prog w = .ok (.func fn first cap) w := fun _ _ _ _ => rfl
  have H8 := Lib.hid (isDig_any 48 b w.heap.size (w.alloc (.cells #[.int .u8 (b : Int)] 5)) (by simp))
  have H9 := Lib.hid (isDig_any 49 b w.heap.size (w.alloc (.cells #[.int .u8 (b : Int)] 5)) (by simp))
  have HM := Lib.hid (isMark_any b (w.alloc (.cells #[.int .u8 (b : Int)] 5)))
  have HB := Lib.hid ((Below.refl w.heap.size w).alloc (Nat.le_refl _) (.cells #[.int .u8 (b : Int)] 5))
  have e43 : ((b : Int) == 43) = decide (b = 43) := eq_dec b 43
  have e45 : ((b : Int) == 45) = decide (b = 45) := eq_dec b 45
  have e46 : ((b : Int) == 46) = decide (b = 46) := eq_dec b 46
  have e48 : ((b : Int) == 48) = decide (b = 48) := eq_dec b 48
  have q0 := Lib.hid (nst_0 b hb)
  have q1 := Lib.hid (nst_1 b hb)
  have q2 := Lib.hid (nst_2 b hb)
  have q3 := Lib.hid (nst_3 b hb)
  have q4 := Lib.hid (nst_4 b hb)
  have q5 := Lib.hid (nst_5 b hb)
  have q6 := Lib.hid (nst_6 b hb)
  have q7 := Lib.hid (nst_7 b hb)
  have q8 := Lib.hid (nst_8 b hb)
  obtain ⟨B43, h43⟩ : ∃ B, decide (b = 43) = B := ⟨_, rfl⟩
  obtain ⟨B45, h45⟩ : ∃ B, decide (b = 45) = B := ⟨_, rfl⟩
  obtain ⟨B46, h46⟩ : ∃ B, decide (b = 46) = B := ⟨_, rfl⟩
  obtain ⟨B48, h48⟩ : ∃ B, decide (b = 48) = B := ⟨_, rfl⟩
  obtain ⟨BM, hM⟩ : ∃ B, decide (b = 101 ∨ b = 69) = B := ⟨_, rfl⟩
  obtain ⟨D8, h8⟩ : ∃ B, decide (48 ≤ b ∧ b ≤ 57) = B := ⟨_, rfl⟩
  obtain ⟨D9, h9⟩ : ∃ B, decide (49 ≤ b ∧ b ≤ 57) = B := ⟨_, rfl⟩
  rw [h43] at e43 q6
  rw [h45] at e45 q0 q6
  rw [h46] at e46 q2 q3
  rw [h48] at e48 q0 q1
  rw [hM] at q2 q3 q5 HM
  rw [h8] at q3 q4 q5 q6 q7 q8 H8
  rw [h9] at q0 q1 H9
  clear h43 h45 h46 h48 hM h8 h9 hb
  have hc : q = 0 ∨ q = 1 ∨ q = 2 ∨ q = 3 ∨ q = 4 ∨ q = 5 ∨ q = 6 ∨ q = 7 ∨ q = 8 := by omega
  clear hq
  rcases hc with rfl | rfl | rfl | rfl | rfl | rfl | rfl | rfl | rfl
  · have Q := q0
    clear q0 q1 q2 q3 q4 q5 q6 q7 q8 H8 HM e43 e46
    go_enter Try.func12, Try.ntmps12
    cases B45
    · cases B48
      · go_wp2_with fail
        refine H9.out.mono ?_
        rintro e w' ⟨rfl, rfl⟩
        cases D9
        all_goals
          go_wp2_with fail
          go_ret
          exact ⟨ret_int (by rw [Q.out]; rfl), HB.out⟩
      · go_wp2_with fail
        go_ret
        exact ⟨ret_int (by rw [Q.out]; rfl), HB.out⟩
    · go_wp2_with fail
      go_ret
      exact ⟨ret_int (by rw [Q.out]; rfl), HB.out⟩
  · have Q := q1
    clear q0 q1 q2 q3 q4 q5 q6 q7 q8 H8 HM e43 e45 e46
    go_enter Try.func12, Try.ntmps12
    cases B48
    · go_wp2_with fail
      refine H9.out.mono ?_
      rintro e w' ⟨rfl, rfl⟩
      cases D9
      all_goals
        go_wp2_with fail
        go_ret
        exact ⟨ret_int (by rw [Q.out]; rfl), HB.out⟩
    · go_wp2_with fail
      go_ret
      exact ⟨ret_int (by rw [Q.out]; rfl), HB.out⟩
  · have Q := q2
    clear q0 q1 q2 q3 q4 q5 q6 q7 q8 H8 H9 e43 e45 e48
    go_enter Try.func12, Try.ntmps12
    cases B46
    · go_wp2_with fail
      refine HM.out.mono ?_
      rintro e w' ⟨rfl, rfl⟩
      cases BM
      all_goals
        go_wp2_with fail
        go_ret
        exact ⟨ret_int (by rw [Q.out]; rfl), HB.out⟩
    · go_wp2_with fail
      go_ret
      exact ⟨ret_int (by rw [Q.out]; rfl), HB.out⟩
  · have Q := q3
    clear q0 q1 q2 q3 q4 q5 q6 q7 q8 H9 e43 e45 e48
    go_enter Try.func12, Try.ntmps12
    go_wp2_with fail
    refine H8.out.mono ?_
    rintro e w' ⟨rfl, rfl⟩
    cases D8
    · cases B46
      · go_wp2_with fail
        refine HM.out.mono ?_
        rintro e w' ⟨rfl, rfl⟩
        cases BM
        all_goals
          go_wp2_with fail
          go_ret
          exact ⟨ret_int (by rw [Q.out]; rfl), HB.out⟩
      · go_wp2_with fail
        go_ret
        exact ⟨ret_int (by rw [Q.out]; rfl), HB.out⟩
    · go_wp2_with fail
      go_ret
      exact ⟨ret_int (by rw [Q.out]; rfl), HB.out⟩
  · have Q := q4
    clear q0 q1 q2 q3 q4 q5 q6 q7 q8 H9 HM e43 e45 e46 e48
    go_enter Try.func12, Try.ntmps12
    go_wp2_with fail
    refine H8.out.mono ?_
    rintro e w' ⟨rfl, rfl⟩
    cases D8
    all_goals
      go_wp2_with fail
      go_ret
      exact ⟨ret_int (by rw [Q.out]; rfl), HB.out⟩
  · have Q := q5
    clear q0 q1 q2 q3 q4 q5 q6 q7 q8 H9 e43 e45 e46 e48
    go_enter Try.func12, Try.ntmps12
    go_wp2_with fail
    refine H8.out.mono ?_
    rintro e w' ⟨rfl, rfl⟩
    cases D8
    · go_wp2_with fail
      refine HM.out.mono ?_
      rintro e w' ⟨rfl, rfl⟩
      cases BM
      all_goals
        go_wp2_with fail
        go_ret
        exact ⟨ret_int (by rw [Q.out]; rfl), HB.out⟩
    · go_wp2_with fail
      go_ret
      exact ⟨ret_int (by rw [Q.out]; rfl), HB.out⟩
  · have Q := q6
    clear q0 q1 q2 q3 q4 q5 q6 q7 q8 H9 HM e46 e48
    go_enter Try.func12, Try.ntmps12
    go_wp2_with fail
    refine H8.out.mono ?_
    rintro e w' ⟨rfl, rfl⟩
    cases D8
    · cases B43
      · cases B45
        all_goals
          go_wp2_with fail
          go_ret
          exact ⟨ret_int (by rw [Q.out]; rfl), HB.out⟩
      · go_wp2_with fail
        go_ret
        exact ⟨ret_int (by rw [Q.out]; rfl), HB.out⟩
    · go_wp2_with fail
      go_ret
      exact ⟨ret_int (by rw [Q.out]; rfl), HB.out⟩
  · have Q := q7
    clear q0 q1 q2 q3 q4 q5 q6 q7 q8 H9 HM e43 e45 e46 e48
    go_enter Try.func12, Try.ntmps12
    go_wp2_with fail
    refine H8.out.mono ?_
    rintro e w' ⟨rfl, rfl⟩
    cases D8
    all_goals
      go_wp2_with fail
      go_ret
      exact ⟨ret_int (by rw [Q.out]; rfl), HB.out⟩
  · have Q := q8
    clear q0 q1 q2 q3 q4 q5 q6 q7 q8 H9 HM e43 e45 e46 e48
    go_enter Try.func12, Try.ntmps12
    go_wp2_with fail
    refine H8.out.mono ?_
    rintro e w' ⟨rfl, rfl⟩
    cases D8
    all_goals
      go_wp2_with fail
      go_ret
      exact ⟨ret_int (by rw [Q.out]; rfl), HB.out⟩
set_option maxRecDepth 100000 in
set_option maxHeartbeats 1000000 in
theorem ends_any (q : Nat) (w : World) (hq : q ≤ 8) : Calls Try.prog 9 #[.int .i64 (q : Int)] w fun e w' => e = .returned (.bool (nacc q)) ∧ w = w' := by
  have hc : q = 0 ∨ q = 1 ∨ q = 2 ∨ q = 3 ∨ q = 4 ∨ q = 5 ∨ q = 6 ∨ q = 7 ∨ q = 8 := by omega
  clear hq
  rcases hc with rfl | rfl | rfl | rfl | rfl | rfl | rfl | rfl | rfl
  all_goals
    go_enter Try.func9, Try.ntmps9
    go_wp2
    go_ret
    exact ⟨rfl, rfl⟩
/-- where the states stop -/
def GoAns (s : ByteArray) (w : World) (e : Ending) (w' : World) : Prop := ∃ p, e = .returned (.tuple #[.int .i64 ((p : Nat) : Int), .int .i64 (nq (bt s) p : Int)]) ∧ p ≤ s.size ∧ nq (bt s) p ≠ 9 ∧ (p < s.size → nq (bt s) (p + 1) = 9) ∧ Below w.heap.size w w'
set_option maxRecDepth 100000 in
set_option maxHeartbeats 2000000 in
theorem goOver_any (s : ByteArray) (w : World) (hs : s.size ≤ 4611686018427387904) : Calls Try.prog 8 #[.string s] w (GoAns s w) := by
  have HS := Lib.hid (fun q b W (h1 : q ≤ 8) (h2 : b < 256) => step_any q b W h1 h2)
  have HB := Lib.hid (Below.refl w.heap.size w)
  go_enter Try.func8, Try.ntmps8
  go_wp2_with fail
  go_loopw [4, 9] (fun s4 s9 wr => ∃ i : Nat, i ≤ s.size ∧ s4 = .int .i64 (nq (bt s) i : Int) ∧ s9 = .int .i64 (i : Int) ∧ Hid (nq (bt s) i ≠ 9) ∧ Hid (Below w.heap.size w wr)) (fun _ s9 _ => s.size - (intOf s9).toNat)
  case atStart => exact ⟨0, Nat.zero_le _, rfl, rfl, Lib.hid (show (0 : Nat) ≠ 9 by decide), HB⟩
  case round =>
    obtain ⟨i, hi, rfl, rfl, h9, hB⟩ := hrel
    by_cases hlt : i < s.size
    · obtain ⟨x, hxx, hx, hx256⟩ := byte_of hlt
      have hq8 : nq (bt s) i ≤ 8 := by have := nq_le (bt s) i; have := h9.out; omega
      have HST := Lib.hid (fun W => HS.out (nq (bt s) i) x W hq8 hx256)
      have hnx : nst (nq (bt s) i) x = nq (bt s) (i + 1) := by rw [nq, hx]
      rw [hnx] at HST
      obtain ⟨Q, hQ⟩ : ∃ Q, nq (bt s) i = Q := ⟨_, rfl⟩
      obtain ⟨R, hR⟩ : ∃ R, nq (bt s) (i + 1) = R := ⟨_, rfl⟩
      rw [hQ] at HST h9 ⊢
      rw [hR] at HST
      have HQ := Lib.hid hQ
      have HR := Lib.hid hR
      clear hnx hx hQ hR hq8
      by_cases hr9 : R = 9
      · subst hr9
        go_wp2_with fail
        refine (HST.out _).mono ?_
        rintro e w' ⟨rfl, hb⟩
        have HB2 := Lib.hid (hB.out.trans (hb.mono hB.out.size))
        clear hb
        go_wp2_with fail
        go_ret2
        exact ⟨i, by rw [HQ.out]; rfl, hi, by rw [HQ.out]; exact h9.out, fun _ => HR.out, HB2.out⟩
      · have hne : ((R : Int) == 9) = false := by rw [beq_eq_false_iff_ne]; omega
        have HR9 := Lib.hid hr9
        clear hr9
        go_wp2_with fail
        refine (HST.out _).mono ?_
        rintro e w' ⟨rfl, hb⟩
        have HB2 := Lib.hid (hB.out.trans (hb.mono hB.out.size))
        clear hb
        go_wp2_with fail
        go_roundw
        case rel => exact ⟨i + 1, hlt, by rw [HR.out], by go_num, by rw [HR.out]; exact HR9, HB2⟩
        case measure => simp [intOf]; omega
    · obtain rfl : i = s.size := by omega
      go_wp2_with fail
      go_ret2
      exact ⟨s.size, rfl, Nat.le_refl _, h9.out, fun h => absurd h (Nat.lt_irrefl _), hB.out⟩
set_option maxRecDepth 100000 in
set_option maxHeartbeats 2000000 in
theorem pscan_any (s : ByteArray) (w : World) (hs : s.size ≤ 4611686018427387904) : Calls Try.prog 5 #[.string s] w (NmAns s w) := by
  have HG := Lib.hid (goOver_any s w hs)
  have HE := Lib.hid (fun q W (h : q ≤ 8) => ends_any q W h)
  go_enter Try.func5, Try.ntmps5
  go_wp2_with fail
  refine HG.out.mono ?_
  rintro e w1 ⟨p, rfl, hp, h9, hn, hb1⟩
  have B1 := Lib.hid hb1
  have hq8 : nq (bt s) p ≤ 8 := by have := nq_le (bt s) p; omega
  have HE1 := Lib.hid (fun W => HE.out (nq (bt s) p) W hq8)
  have HN : Hid (∀ E, E = (if nacc (nq (bt s) p) = true then 0 else if p = s.size then 3 else 4) → NmIs s p E) := Lib.hid fun E h => ⟨hp, h9, hn, h⟩
  obtain ⟨Q, hQ⟩ : ∃ Q, nq (bt s) p = Q := ⟨_, rfl⟩
  rw [hQ] at HE1 HN ⊢
  obtain ⟨A, hA⟩ : ∃ A, nacc Q = A := ⟨_, rfl⟩
  rw [hA] at HE1 HN
  clear hb1 h9 hn hQ hA hq8
  cases A with
  | true =>
    have HN2 := Lib.hid (HN.out 0 rfl)
    go_wp2_with fail
    refine (HE1.out _).mono ?_
    rintro e w' ⟨rfl, rfl⟩
    go_wp2_with fail
    go_ret2
    exact ⟨p, 0, rfl, HN2.out, B1.out⟩
  | false =>
    by_cases hlt : p < s.size
    · have HN2 := Lib.hid (HN.out 4 (by rw [if_neg (by decide), if_neg (by omega)]))
      go_wp2_with fail
      refine (HE1.out _).mono ?_
      rintro e w' ⟨rfl, rfl⟩
      go_wp2_with fail
      go_ret2
      exact ⟨p, 4, rfl, HN2.out, B1.out⟩
    · have HN2 := Lib.hid (HN.out 3 (by rw [if_neg (by decide), if_pos (by omega)]))
      go_wp2_with fail
      refine (HE1.out _).mono ?_
      rintro e w' ⟨rfl, rfl⟩
      go_wp2_with fail
      go_ret2
      exact ⟨p, 3, rfl, HN2.out, B1.out⟩
end Go.Proofs.Ytljbnnpmnoejeaa.nn
namespace Go.Proofs.Ytljbnnpmnoejeaa.nn
open Go.RowKit

theorem nm_five : NmIs ⟨#[53]⟩ 1 0 := ⟨by decide, by decide, fun h => absurd h (by decide), by decide⟩
set_option maxRecDepth 100000 in
theorem awake7 (w : World) : Calls Try.prog 7 #[] w fun e w' => e = .returned (.bool true) ∧ Below w.heap.size w w' := by
  have HC := Lib.hid (pscan_any ⟨#[53]⟩ w (by decide))
  go_enter Try.func7, Try.ntmps7
  go_wp2_with fail
  refine HC.out.mono ?_
  rintro e w' ⟨p, E, rfl, h, hb⟩
  obtain ⟨rfl, rfl⟩ := h.uniq nm_five
  have HB := Lib.hid hb
  clear h hb
  go_wp2_with fail
  go_ret
  exact ⟨rfl, HB.out⟩
set_option maxRecDepth 100000 in
set_option maxHeartbeats 1000000 in
theorem nscans_any (s : ByteArray) (hs : s.size ≤ 140737488351232) (w : World) :
    Calls Try.prog 3 #[.string s] w fun e w' => e = .returned (.bool true) ∧ Below w.heap.size w w' := by
  have H1 := Lib.hid (fun W => pscan_any s W (by omega))
  have H2 := Lib.hid (fun W => nscan_any s W (by omega))
  have HA := Lib.hid (fun W => awake7 W)
  clear hs
  go_enter Try.func3, Try.ntmps3
  go_wp2_with fail
  refine (H1.out _).mono ?_
  rintro e w1 ⟨V, E, rfl, s1, hb1⟩
  have B1 := Lib.hid hb1
  clear hb1
  go_wp2_with fail
  refine (H2.out _).mono ?_
  rintro e w2 ⟨V', E', rfl, s2, hb2⟩
  obtain ⟨h1, h2⟩ := s1.uniq s2
  have B2 := Lib.hid (B1.out.trans (hb2.mono B1.out.size))
  subst h1 h2
  clear hb2 s1 s2
  go_wp2_with fail
  refine (HA.out _).mono ?_
  rintro e w3 ⟨rfl, hb3⟩
  have B3 := Lib.hid (B2.out.trans (hb3.mono B2.out.size))
  clear hb3
  go_wp2_with fail
  go_ret
  exact ⟨rfl, B3.out⟩
/-- Scan, once its answer is known -/
theorem pscan_is {s : ByteArray} {p e : Nat} (h : NmIs s p e) (hs : s.size ≤ 4611686018427387904) (w : World) :
    Calls Try.prog 5 #[.string s] w fun r w' => r = .returned (.tuple #[.int .i64 (p : Int), .int .i64 (e : Int)]) ∧ Below w.heap.size w w' := by
  refine (pscan_any s w hs).mono ?_
  rintro r w' ⟨p', e', rfl, h', hb⟩
  obtain ⟨rfl, rfl⟩ := h.uniq h'
  exact ⟨rfl, hb⟩
set_option maxRecDepth 100000 in
set_option maxHeartbeats 1000000 in
theorem nfirst_any (s : ByteArray) (hs : s.size ≤ 140737488351232) (more : ByteArray) (hmore : more.size ≤ 140737488351232) (w : World) :
    Calls Try.prog 4 #[.string s, .string more] w fun e w' => e = .returned (.bool true) ∧ Below w.heap.size w w' := by
  have H1 := Lib.hid (pscan_any s w (by omega))
  have HA := Lib.hid (fun W => awake7 W)
  go_enter Try.func4, Try.ntmps4
  go_wp2_with fail
  refine H1.out.mono ?_
  rintro e w1 ⟨n, E, rfl, hN, hb1⟩
  have B1 := Lib.hid hb1
  have hn := hN.le
  clear hb1 H1
  rcases hN.err with rfl | ⟨rfl, hp⟩ | ⟨rfl, hp⟩
  · have H2 := Lib.hid (fun W => pscan_is hN.cut (by rw [cutT_size hn]; omega) W)
    unfold cutT at H2
    clear hN
    go_wp2_with fail
    refine (H2.out _).mono ?_
    rintro r w2 ⟨rfl, hb2⟩
    have B2 := Lib.hid (B1.out.trans (hb2.mono B1.out.size))
    clear hb2
    go_wp2_with fail
    refine (HA.out _).mono ?_
    rintro r w3 ⟨rfl, hb3⟩
    have B3 := Lib.hid (B2.out.trans (hb3.mono B2.out.size))
    clear hb3
    go_wp2_with fail
    go_ret
    exact ⟨rfl, B3.out⟩
  · have hz : (cutT s 0 n).size = n := by rw [cutT_size hn]; omega
    have H2 := Lib.hid (fun W => pscan_is (hN.one (by decide)) (by rw [ByteArray.size_append, hz]; show n + 1 ≤ _; omega) W)
    unfold cutT at H2 hz
    have HZ : Hid ((s.extract 0 n).size = n) := Lib.hid hz
    have hz1 : ¬ 9223372036854775807 < (s.extract 0 n).size + 1 := by omega
    have q1 : ((n : Int) == (s.size : Int)) = true := by rw [hp, beq_self_eq_true]
    clear hN hz hp
    go_wp2_with fail
    refine (H2.out _).mono ?_
    rintro r w2 ⟨rfl, hb2⟩
    have B2 := Lib.hid (B1.out.trans (hb2.mono B1.out.size))
    clear hb2
    go_wp2_with fail
    go_ret
    exact ⟨rfl, B2.out⟩
  · have hz : (cutT s 0 n).size = n := by rw [cutT_size hn]; omega
    have hzz : (cutT s 0 (n + 1)).size = n + 1 := by rw [cutT_size (by omega)]; omega
    have H2 := Lib.hid (fun W => pscan_is (hN.one (by decide)) (by rw [ByteArray.size_append, hz]; show n + 1 ≤ _; omega) W)
    have H3 := Lib.hid (fun W => pscan_is (hN.more more).1 (by rw [ByteArray.size_append, hzz]; omega) W)
    unfold cutT at H2 H3 hz hzz
    have q1 : ((n : Int) == (s.size : Int)) = false := by rw [beq_eq_false_iff_ne]; omega
    have hz1 : ¬ 9223372036854775807 < (s.extract 0 n).size + 1 := by omega
    have hz2 : ¬ 9223372036854775807 < (s.extract 0 (n + 1)).size + more.size := by omega
    have kn2 : ((n : Int) + 1).toNat = n + 1 := by omega
    clear hN hz hzz
    go_wp2_with fail
    refine (H2.out _).mono ?_
    rintro r w2 ⟨rfl, hb2⟩
    have B2 := Lib.hid (B1.out.trans (hb2.mono B1.out.size))
    clear hb2
    go_wp2_with fail
    refine (H3.out _).mono ?_
    rintro r w3 ⟨rfl, hb3⟩
    have B3 := Lib.hid (B2.out.trans (hb3.mono B2.out.size))
    clear hb3
    go_wp2_with fail
    go_ret
    exact ⟨rfl, B3.out⟩
end Go.Proofs.Ytljbnnpmnoejeaa.nn
namespace Go.Proofs.Ytljbnnpmnoejeaa.nn
open Go.ChangeShapes Go.WideShapes Go.ChangeAt Go.RowKit

theorem Try.own : ownKnob Try.prog.godebug = none := by kernel_rfl
theorem size_reach {s : ByteArray} (h : s.data.toList.length ≤ reachBytes) : s.size ≤ 140737488351232 := h
end Go.Proofs.Ytljbnnpmnoejeaa.nn
