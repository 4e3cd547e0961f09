/- Joined texts, what is wanted of them: Write, AddRel, AddTimes, Long, Add, Awake, Cmp, RefSum, Widen, Div64, DivideBy, Guess, Sub32, RefSub, Subtract, SubTimes, ShiftUp64, DivideB, Narrow, Product, TimesPlus, FromDigits, Flt, FdA, FdB, Fb, RefClass, RefWiden, Shape, RefInt, FbNum, Shape2, Shape5, Shape6, Shape7, Shape9, FbNum2, ShapeNum, FdD, FdRound, FdParse, FdCut, FdCut2, FdCut3, NnA, TkP, RefLetter, RefFour, RefPoint, RefEsc. -/
import Derived.Test.YtaopjeobapnhbaaProg
import Derived.WalkKit
import Derived.Lib.Hide
import Derived.Deep.CutBlock
import Derived.BigQuiet
import Derived.Deep.QuietTactic
import Derived.Deep.DeepCutAuto
import Derived.KernelRfl
import Derived.Below
import Derived.Deep.WholeRow
import Derived.Great.Walk
import Derived.Laws.BitsAllLaws
import Derived.RowKit
import Derived.IntWalk
import Derived.Test.YtaopjeobapnhbaaShelf
import Derived.Lib.MinMax
import Derived.Laws.BytesArg
import Derived.Laws.OwnMore
import Derived.Deep.AppendLies
import Derived.Deep.Draws
import Derived.Maps.AppendAt
import Derived.RegionTactic
import Derived.OwnWalk
import Derived.Deep.RegionLaw
import Derived.Lib.UnsafeStr
import Derived.Lib.AppendStr
import Derived.Lib.BitFns
import Derived.WalkSpells
import Derived.Laws.Rows
import Derived.Laws.Externs
import Derived.Deep.RegionHeld3
import Derived.Deep.RegionWith
import Derived.Deep.CutRange
import Derived.Deep.LoopGhost
import Derived.Laws.BitsLemmas
import Derived.Shelf.Spec.BitsCarry
import Derived.Laws.Bits64
import Derived.Laws.CopyOwn
import Derived.StillTailTactics
import Derived.Lib.Builder
import Derived.Lib.MakeNoZero
import Derived.OneCell
import Derived.BigRegion
import Derived.Test.YtaopjeobapnhbaaShelfR
import Derived.RangeFuncNested
import Derived.RangeFuncBound
import Derived.RangeFuncCalls
import Derived.RangeFuncLeaves
import Derived.Shelf.Abstract
import Derived.Shelf.RegionOpen
import Derived.OwnWalkIn
import Derived.TacticsInMore
import Derived.Laws.AppendOwn
import Derived.Maps.OwnIn
import Derived.RangeFuncBox
import Derived.Test.YtaopjeobapnhbaaRows
import Derived.ProofKit
import Derived.SizedLaws
import Derived.ChangeMaps5
import Derived.Test.YtaopjeobapnhbaaJa
namespace Go.Proofs.Ytaopjeobapnhbaa.nn
open Go.RowKit

/-- block g is just the cells cur of element type e, none frozen -/
def Bk (w : World) (g : Nat) (e : TypeId) (cur : Array Value) : Prop := w.heap[g]? = some (.cells cur e (0, 0))

/-- from place off on stand the limbs f -/
def Ints (cur : Array Value) (k : IntKind) (off n : Nat) (f : Nat → Nat) : Prop := ∀ i, i < n → cur[off + i]? = some (.int k (f i : Int))

/-- in block g, between off and off + n alone, something was written -/
structure Wrote (w w' : World) (g : Nat) (e : TypeId) (cur cur' : Array Value) (off n : Nat) : Prop where
  blk : Bk w' g e cur'
  size : cur'.size = cur.size
  out : ∀ i, i < off ∨ off + n ≤ i → cur'[i]? = cur[i]?
  grown : w.grownBy w' (some g)
  hsize : w'.heap.size = w.heap.size

section
variable {w w' w'' : World} {g : Nat} {e : TypeId} {cur cur' cur'' : Array Value} {off n m i : Nat} {k : IntKind} {f : Nat → Nat}

theorem Bk.lt (h : Bk w g e cur) : g < w.heap.size := (Array.getElem?_eq_some_iff.1 h).1
theorem Bk.cell (h : Bk w g e cur) (i : Nat) : w.cell? ⟨g, i, none⟩ = cur[i]? := cell_of_row w g i cur e (0, 0) h
theorem Bk.frozen (h : Bk w g e cur) (i : Nat) : w.frozen? ⟨g, i, none⟩ = false := by
  unfold Bk at h
  simp [World.frozen?, h]
theorem Bk.set_ (h : Bk w g e cur) (i : Nat) (u : Value) : Bk (w.setCell ⟨g, i, none⟩ u) g e (cur.setIfInBounds i u) := by
  unfold Bk at h ⊢
  simp [World.setCell, Array.getElem?_modify, h]
theorem Bk.drewN (h : Bk w g e cur) (j : Nat) : Bk (w.drewN j) g e cur := h
theorem Bk.below {B : Nat} (h : Bk w g e cur) (hb : Below B w w') (hg : g < B) : Bk w' g e cur := (hb.block g hg).trans h
theorem Bk.grown {row : Option Nat} (h : Bk w g e cur) (hb : w.grownBy w' row) (hg : some g ≠ row) : Bk w' g e cur := (hb.block g h.lt hg).trans h

theorem Ints.mono (h : Ints cur k off n f) (hm : m ≤ n) : Ints cur k off m f := fun i hi => h i (by omega)
theorem Ints.lt (h : Ints cur k off n f) (hi : i < n) : off + i < cur.size := (Array.getElem?_eq_some_iff.1 (h i hi)).1
theorem Ints.set_ (h : Ints cur k off n f) (i x : Nat) (hi : i < n) : Ints (cur.setIfInBounds (off + i) (.int k (x : Int))) k off n (upd f i x) := fun j hj => by
  rw [Array.getElem?_setIfInBounds]
  by_cases e : j = i
  · subst e; rw [if_pos rfl, if_pos (h.lt hi), upd_at]
  · rw [if_neg (by omega), upd_ne f e]; exact h j hj
theorem Ints.rd (h : Ints cur k off n f) (hb : Bk w g e cur) : Rd w k (some ⟨g, off, none⟩) n f := fun _ => ⟨g, off, rfl, hb.lt, fun i hi => (hb.cell _).trans (h i hi)⟩

theorem Wrote.refl (h : Bk w g e cur) (off n : Nat) : Wrote w w g e cur cur off n :=
  ⟨h, rfl, fun _ _ => rfl, ⟨rfl, rfl, rfl, Nat.le_refl _, fun _ _ _ => rfl⟩, rfl⟩
theorem Wrote.drewN (h : Wrote w w' g e cur cur' off n) (j : Nat) : Wrote w (w'.drewN j) g e cur cur' off n :=
  ⟨h.blk, h.size, h.out, ⟨h.grown.os, h.grown.tape, h.grown.output, h.grown.size, h.grown.block⟩, h.hsize⟩
theorem Wrote.set_ (h : Wrote w w' g e cur cur' off n) (i : Nat) (hi : i < n) (u : Value) : Wrote w (w'.setCell ⟨g, off + i, none⟩ u) g e cur (cur'.setIfInBounds (off + i) u) off n :=
  ⟨h.blk.set_ _ u, by rw [Array.size_setIfInBounds, h.size], fun j hj => by rw [Array.getElem?_setIfInBounds, if_neg (by omega)]; exact h.out j hj,
   ⟨h.grown.os, h.grown.tape, h.grown.output, by simpa [World.setCell] using h.grown.size, fun b hb hne => (Below.heap_setCell w' ⟨g, off + i, none⟩ u b (by rintro rfl; exact hne rfl)).trans (h.grown.block b hb hne)⟩,
   by simpa [World.setCell] using h.hsize⟩
theorem Wrote.trans (h : Wrote w w' g e cur cur' off n) (h' : Wrote w' w'' g e cur' cur'' off n) : Wrote w w'' g e cur cur'' off n :=
  ⟨h'.blk, h'.size.trans h.size, fun i hi => (h'.out i hi).trans (h.out i hi),
   ⟨h'.grown.os.trans h.grown.os, h'.grown.tape.trans h.grown.tape, h'.grown.output.trans h.grown.output, Nat.le_trans h.grown.size h'.grown.size,
    fun b hb hne => (h'.grown.block b (by have := h.hsize; omega) hne).trans (h.grown.block b hb hne)⟩, h'.hsize.trans h.hsize⟩
/-- a stretch within a stretch -/
theorem Wrote.wide (h : Wrote w w' g e cur cur' off n) {off' n' : Nat} (h1 : off' ≤ off) (h2 : off + n ≤ off' + n') : Wrote w w' g e cur cur' off' n' :=
  ⟨h.blk, h.size, fun i hi => h.out i (by omega), h.grown, h.hsize⟩
end

end Go.Proofs.Ytaopjeobapnhbaa.nn
namespace Go.Proofs.Ytaopjeobapnhbaa.nn
open Go.RowKit

/-- what holds when the first i limbs are added (m of h's), with the carry k -/
def AddRel (K : IntKind) (Bs : Nat) (w wr : World) (g : Nat) (e : TypeId) (cur : Array Value) (off n : Nat) (f h f' : Nat → Nat) (cur' : Array Value) (k i m : Nat) : Prop :=
  Wrote w wr g e cur cur' off n ∧ Ints cur' K off n f' ∧ Lt Bs f' n ∧ (∀ j, i ≤ j → j < n → f' j = f j) ∧
    sm Bs f' i + k * Bs ^ i = sm Bs f i + sm Bs h m

section
variable {K : IntKind} {Bs : Nat} {w wr : World} {g : Nat} {e : TypeId} {cur : Array Value} {off n : Nat} {f h f' : Nat → Nat} {cur' : Array Value} {k i m : Nat}

theorem carry_eq {a b c v k' Bs P : Nat} (hk : a + b + c = v + k' * Bs) : a * P + b * P + c * P = v * P + k' * (P * Bs) := by
  have e2 := congrArg (· * P) hk
  simp only [Nat.add_mul] at e2
  rw [Nat.mul_comm P Bs, ← Nat.mul_assoc]
  exact e2

theorem AddRel.step (H : AddRel K Bs w wr g e cur off n f h f' cur' k i i) (hi : i < n) (k' v : Nat) (hk : f' i + h i + k = v + k' * Bs) (hv : v < Bs) {z : Int} (hz : z = (v : Int)) :
    AddRel K Bs w (wr.setCell ⟨g, off + i, none⟩ (.int K z)) g e cur off n f h (upd f' i v) (cur'.setIfInBounds (off + i) (.int K (v : Int))) k' (i + 1) (i + 1) := by
  obtain ⟨h1, h2, h3, h4, h5⟩ := H
  rw [hz]
  refine ⟨h1.set_ i hi _, h2.set_ i _ hi, h3.upd hv, fun j ha hb => ?_, ?_⟩
  · rw [upd_ne f' (by omega)]; exact h4 j (by omega) hb
  · rw [sm_snoc, sm, sm, ← h4 i (Nat.le_refl _) hi, Nat.pow_succ]
    have := carry_eq (P := Bs ^ i) hk
    omega

/-- one more limb, of the greater number alone -/
theorem AddRel.more (H : AddRel K Bs w wr g e cur off n f h f' cur' k i m) (hi : i < n) (k' v : Nat) (hk : f' i + k = v + k' * Bs) (hv : v < Bs) {z : Int} (hz : z = (v : Int)) :
    AddRel K Bs w (wr.setCell ⟨g, off + i, none⟩ (.int K z)) g e cur off n f h (upd f' i v) (cur'.setIfInBounds (off + i) (.int K (v : Int))) k' (i + 1) m := by
  obtain ⟨h1, h2, h3, h4, h5⟩ := H
  rw [hz]
  refine ⟨h1.set_ i hi _, h2.set_ i _ hi, h3.upd hv, fun j ha hb => ?_, ?_⟩
  · rw [upd_ne f' (by omega)]; exact h4 j (by omega) hb
  · rw [sm_snoc, sm, ← h4 i (Nat.le_refl _) hi, Nat.pow_succ]
    have := carry_eq (a := f' i) (b := 0) (P := Bs ^ i) (by simpa using hk)
    omega

/-- the end: the limbs f' are the sum, but for the carry k -/
def AddEnd (K : IntKind) (Bs : Nat) (w w' : World) (g : Nat) (e : TypeId) (cur : Array Value) (off n : Nat) (f : Nat → Nat) (S k : Nat) : Prop :=
  ∃ (f' : Nat → Nat) (cur' : Array Value), Wrote w w' g e cur cur' off n ∧ Ints cur' K off n f' ∧ Lt Bs f' n ∧ sm Bs f' n + k * Bs ^ n = sm Bs f n + S

/-- where no carry is left the rest is as it was -/
theorem AddRel.done (H : AddRel K Bs w wr g e cur off n f h f' cur' k i m) (hi : i ≤ n) (he : i = n ∨ k = 0) : AddEnd K Bs w wr g e cur off n f (sm Bs h m) k := by
  obtain ⟨h1, h2, h3, h4, h5⟩ := H
  refine ⟨f', cur', h1, h2, h3, ?_⟩
  rcases he with rfl | rfl
  · exact h5
  · obtain ⟨j, rfl⟩ : ∃ j, n = i + j := ⟨n - i, by omega⟩
    rw [sm_split, sm_split Bs f, sm_congr Bs (f := fun t => f' (i + t)) (g := fun t => f (i + t)) (fun t ht => h4 (i + t) (by omega) (by omega))]
    simp only [Nat.zero_mul] at h5 ⊢
    omega
end
end Go.Proofs.Ytaopjeobapnhbaa.nn
namespace Go.Proofs.Ytaopjeobapnhbaa.nn
open Go.RowKit

/-- the base of wide limbs -/
def W64 : Nat := 18446744073709551616

/-- what holds when i limbs are done, with the carry k -/
def MulRel (w wr : World) (g : Nat) (e : TypeId) (cur : Array Value) (off n : Nat) (f h : Nat → Nat) (F : Nat) (f' : Nat → Nat) (cur' : Array Value) (k i : Nat) : Prop :=
  Wrote w wr g e cur cur' off n ∧ Ints cur' .u64 off n f' ∧ Lt W64 f' n ∧ (∀ j, i ≤ j → j < n → f' j = f j) ∧ sm W64 f' i + k * W64 ^ i = sm W64 f i + F * sm W64 h i

theorem MulRel.step {w wr : World} {g : Nat} {e : TypeId} {cur : Array Value} {off n : Nat} {f h : Nat → Nat} {F : Nat} {f' : Nat → Nat} {cur' : Array Value} {k i : Nat} (H : MulRel w wr g e cur off n f h F f' cur' k i) (hi : i < n) (k' v : Nat)
    (hk : f' i + h i * F + k = v + k' * W64) (hv : v < W64) :
    MulRel w (wr.setCell ⟨g, off + i, none⟩ (.int .u64 (v : Int))) g e cur off n f h F (upd f' i v) (cur'.setIfInBounds (off + i) (.int .u64 (v : Int))) k' (i + 1) := by
  obtain ⟨h1, h2, h3, h4, h5⟩ := H
  refine ⟨h1.set_ i hi _, h2.set_ i _ hi, h3.upd hv, fun j ha hb => ?_, ?_⟩
  · rw [upd_ne f' (by omega)]; exact h4 j (by omega) hb
  · have e1 : sm W64 f (i + 1) = sm W64 f i + f i * W64 ^ i := rfl
    have e2 : sm W64 h (i + 1) = sm W64 h i + h i * W64 ^ i := rfl
    rw [sm_snoc, e1, e2, ← h4 i (Nat.le_refl _) hi, Nat.pow_succ W64 i, Nat.mul_add]
    have := carry_eq (P := W64 ^ i) hk
    have e3 : F * (h i * W64 ^ i) = h i * F * W64 ^ i := by rw [← Nat.mul_assoc, Nat.mul_comm F]
    rw [e3]
    omega

end Go.Proofs.Ytaopjeobapnhbaa.nn
namespace Go.Proofs.Ytaopjeobapnhbaa.nn
open Go.RowKit

/-- a slice of slices of 32-bit limbs -/
def Rds (w : World) (A : Option Addr) (n : Nat) (AA : Nat → Option Addr) (L C : Nat → Nat) (F : Nat → Nat → Nat) : Prop :=
  0 < n → ∃ b off, A = some ⟨b, off, none⟩ ∧ b < w.heap.size ∧ ∀ i, i < n → w.cell? ⟨b, off + i, none⟩ = some (.slice (AA i) (L i) (C i)) ∧ L i ≤ C i ∧ C i ≤ maxLen ∧ Rd w .u32 (AA i) (L i) (F i)

theorem Rds.keep {w w' : World} {A : Option Addr} {n : Nat} {AA : Nat → Option Addr} {L C : Nat → Nat} {F : Nat → Nat → Nat} (h : Rds w A n AA L C F)
    (hs : w.heap.size ≤ w'.heap.size) (hk : ∀ b o, b < w.heap.size → w'.cell? ⟨b, o, none⟩ = w.cell? ⟨b, o, none⟩) : Rds w' A n AA L C F := fun hn => by
  obtain ⟨b, off, e, hb, hc⟩ := h hn
  exact ⟨b, off, e, by omega, fun i hi => ⟨(hk b _ hb).trans (hc i hi).1, (hc i hi).2.1, (hc i hi).2.2.1, (hc i hi).2.2.2.keep hs hk⟩⟩
theorem Rds.below {w w' : World} {A : Option Addr} {n : Nat} {AA : Nat → Option Addr} {L C : Nat → Nat} {F : Nat → Nat → Nat} (h : Rds w A n AA L C F)
    (hb : Below w.heap.size w w') : Rds w' A n AA L C F :=
  h.keep hb.size fun b o hlt => hb.cell (p := ⟨b, o, none⟩) hlt

end Go.Proofs.Ytaopjeobapnhbaa.nn
namespace Go.Proofs.Ytaopjeobapnhbaa.nn
open Go.RowKit

/-- the slice at A of length n reads as the trimmed number R -/
structure Num (w : World) (A : Option Addr) (n c : Nat) (f : Nat → Nat) (R : Nat) : Prop where
  le : n ≤ c
  cap : c ≤ maxLen
  rd : Rd w .u32 A n f
  lt : Lt (2 ^ 32) f n
  trm : Trm f n
  val : sm (2 ^ 32) f n = R

/-- the greatest number that fits, and one -/
def pw (k : Nat) : Nat := (2 ^ 32) ^ k
def bigP : Nat := pw 4096
theorem pw_mono {a b : Nat} (h : a ≤ b) : pw a ≤ pw b := Nat.pow_le_pow_right (Nat.two_pow_pos 32) h
theorem big_le {n : Nat} (h : 4096 ≤ n) : bigP ≤ pw n := pw_mono h
theorem trm_long {f : Nat → Nat} {n : Nat} (h : Trm f n) (hl : 4096 < n) : bigP ≤ sm (2 ^ 32) f n := by
  obtain ⟨j, rfl⟩ : ∃ j, n = j + 1 := ⟨n - 1, by omega⟩
  rcases h with h | h
  · omega
  · have h1 := sm_ge (B := 2 ^ 32) (f := f) (n := j) (by simpa using h)
    exact Nat.le_trans (big_le (by omega)) h1
/-- the sum of the first i parts -/
def tot (L : Nat → Nat) (F : Nat → Nat → Nat) : Nat → Nat
  | 0 => 0
  | i + 1 => tot L F i + sm (2 ^ 32) (F i) (L i)

/-- what holds at the head of Add's loop -/
def AddLoop (old base : Nat) (w0 wr : World) (s : Value) (i n : Nat) (f : Nat → Nat) (L : Nat → Nat) (F : Nat → Nat → Nat) : Prop :=
  ∃ (n' : Nat) (f' : Nat → Nat), wr.ownsRow base 107 1 s n' (vl .u32 f' n') ∧ Below old w0 wr ∧ base ≤ wr.heap.size ∧ Lt (2 ^ 32) f' n' ∧ sm (2 ^ 32) f' n' = sm (2 ^ 32) f n + tot L F i ∧ n' ≤ 4096 + i

theorem AddLoop.below {old base : Nat} {w0 wr : World} {s : Value} {i n : Nat} {f : Nat → Nat} {L : Nat → Nat} {F : Nat → Nat → Nat} (h : AddLoop old base w0 wr s i n f L F) : Below old w0 wr := by
  obtain ⟨_, _, _, h, _⟩ := h
  exact h

end Go.Proofs.Ytaopjeobapnhbaa.nn
namespace Go.Proofs.Ytaopjeobapnhbaa.nn
open Go.RowKit

theorem hsz (w : World) (o : Obj) : (w.alloc o).heap.size = w.heap.size + 1 := by simp
end Go.Proofs.Ytaopjeobapnhbaa.nn
namespace Go.Proofs.Ytaopjeobapnhbaa.nn
open Go.RowKit

theorem ret_int {k : IntKind} {a b : Int} (h : a = b) : Ending.returned (.int k a) = .returned (.int k b) := by rw [h]

end Go.Proofs.Ytaopjeobapnhbaa.nn
namespace Go.Proofs.Ytaopjeobapnhbaa.nn
open Go.RowKit

/-- what holds at the head of sum's loop -/
def SumRel (base : Nat) (w0 wr : World) (s : Value) (i k : Nat) (F : Nat → Nat) (G : Nat → Nat) : Prop :=
  ∃ f' : Nat → Nat, wr.ownsRow base 107 1 s i (vl .u32 f' i) ∧ Below base w0 wr ∧ base ≤ wr.heap.size ∧ Lt (2 ^ 32) f' i ∧ k ≤ 1 ∧ sm (2 ^ 32) f' i + k * (2 ^ 32) ^ i = sm (2 ^ 32) F i + sm (2 ^ 32) G i

theorem pow_s (B i : Nat) : B ^ (i + 1) = B ^ i * B := Nat.pow_succ B i

theorem SumRel.step {base : Nat} {w0 wr w1 : World} {v : Value} {i k : Nat} {F G f' : Nat → Nat} (o : Obj) (hF : F i < 2 ^ 32) (hG : G i < 2 ^ 32)
    (h2 : Below base w0 wr) (h3 : base ≤ wr.heap.size) (h4 : Lt (2 ^ 32) f' i) (h5 : k ≤ 1) (h6 : sm (2 ^ 32) f' i + k * (2 ^ 32) ^ i = sm (2 ^ 32) F i + sm (2 ^ 32) G i)
    (ho : w1.ownsRow base 107 1 v (i + 1) (vl .u32 (jn f' i (fun _ => (k + F i + G i) % 4294967296)) (i + 1))) (hb : Below base (wr.alloc o) w1) :
    SumRel base w0 w1 v (i + 1) ((k + F i + G i) / 4294967296) F G := by
  have hb1 := (h2.alloc h3 o).trans hb
  have hs := hb.size
  rw [hsz] at hs
  refine ⟨_, ho, hb1, by omega, h4.jn (m := 1) (fun _ _ => Nat.mod_lt _ (by decide)), by omega, ?_⟩
  have e1 : sm (2 ^ 32) (fun _ => (k + F i + G i) % 4294967296) 1 = (k + F i + G i) % 4294967296 := by simp [sm]
  rw [sm_jn, e1]
  simp only [sm]
  rw [pow_s (2 ^ 32) i]
  have e := carry_eq (P := (2 ^ 32) ^ i) (Bs := 2 ^ 32) (a := F i) (b := G i) (c := k) (v := (k + F i + G i) % 4294967296) (k' := (k + F i + G i) / 4294967296) (by omega)
  omega

end Go.Proofs.Ytaopjeobapnhbaa.nn
namespace Go.Proofs.Ytaopjeobapnhbaa.nn
open Go.RowKit

theorem w64_pow (j : Nat) : W64 ^ j = (2 ^ 32) ^ (2 * j) := by
  rw [Nat.pow_mul (2 ^ 32) 2 j]
  rfl

end Go.Proofs.Ytaopjeobapnhbaa.nn
namespace Go.Proofs.Ytaopjeobapnhbaa.nn
open Go.RowKit

/-- a fact that is kept shut from the walk: a structure, so nothing unfolds it -/
structure Shut (P : Prop) : Prop where
  out : P
/-- below the divisor (kept shut from the walk) -/
structure Under (U y1 y0 : Nat) : Prop where
  out : U < y1 * W32 + y0
/-- the quotient of half words (kept shut from the walk) -/
structure QuoIs (U d y1 y0 q : Nat) : Prop where
  out : q = (U * W32 + d) / (y1 * W32 + y0)

end Go.Proofs.Ytaopjeobapnhbaa.nn
namespace Go.Proofs.Ytaopjeobapnhbaa.nn
open Go.RowKit

/-- what holds when the limbs from t on are divided, with the rest r -/
def DivRel (w wr : World) (g : Nat) (e : TypeId) (cur : Array Value) (off n : Nat) (f : Nat → Nat) (d : Nat) (f' : Nat → Nat) (cur' : Array Value) (r t : Nat) : Prop :=
  Wrote w wr g e cur cur' off n ∧ Ints cur' .u64 off n f' ∧ Lt W64 f' n ∧ r < d ∧ sm W64 f n + d * sm W64 f' t = d * sm W64 f' n + r * W64 ^ t + sm W64 f' t

theorem DivRel.step {w wr : World} {g : Nat} {e : TypeId} {cur : Array Value} {off n : Nat} {f : Nat → Nat} {d : Nat} {f' : Nat → Nat} {cur' : Array Value} {r s q r' : Nat} (H : DivRel w wr g e cur off n f d f' cur' r (s + 1)) (hs : s < n) (j : Nat)
    (hq : d * q + r' = r * W64 + f' s) (hqq : q < W64) (hr : r' < d) :
    DivRel w ((wr.drewN j).setCell ⟨g, off + s, none⟩ (.int .u64 (q : Int))) g e cur off n f d (upd f' s q) (cur'.setIfInBounds (off + s) (.int .u64 (q : Int))) r' s := by
  obtain ⟨h1, h2, h3, _, h5⟩ := H
  refine ⟨(h1.drewN j).set_ s hs _, h2.set_ s _ hs, h3.upd hqq, hr, ?_⟩
  have a1 := sm_upd W64 f' q hs
  have a2 : sm W64 f' (s + 1) = sm W64 f' s + f' s * W64 ^ s := rfl
  rw [sm_upd_out W64 f' q (Nat.le_refl s)]
  rw [a2, Nat.pow_succ W64 s, Nat.mul_add d] at h5
  have b1 := congrArg (d * ·) a1
  simp only [Nat.mul_add] at b1
  have b2 := congrArg (· * W64 ^ s) hq
  simp only [Nat.add_mul] at b2
  have b3 : d * (q * W64 ^ s) = d * q * W64 ^ s := by rw [Nat.mul_assoc]
  have b4 : r * (W64 ^ s * W64) = r * W64 * W64 ^ s := by rw [Nat.mul_comm (W64 ^ s), ← Nat.mul_assoc]
  rw [b3] at b1
  rw [b4] at h5
  omega

end Go.Proofs.Ytaopjeobapnhbaa.nn
namespace Go.Proofs.Ytaopjeobapnhbaa.nn
open Go.RowKit

/-- what holds at the loop's head -/
structure GsRel (U d y1 y0 q r hi lo : Nat) : Prop where
  gs : Guess W64 U d y1 y0 q r
  mul : q * y0 = hi * W64 + lo
  qlt : q < W64
  rlt : r < W64
  llt : lo < W64

theorem GsRel.more {U d y1 y0 q r hi lo : Nat} (H : GsRel U d y1 y0 q r hi lo) (hc : r < hi ∨ (hi = r ∧ d < lo)) (hd : d < W64) : 0 < q ∧ Guess W64 U d y1 y0 (q - 1) (r + y1) := by
  refine H.gs.next ?_
  rw [H.mul]
  rcases hc with hc | ⟨hc, hl⟩
  · have : (r + 1) * W64 ≤ hi * W64 := Nat.mul_le_mul_right _ hc
    rw [Nat.add_mul] at this
    omega
  · subst hc; omega

end Go.Proofs.Ytaopjeobapnhbaa.nn
namespace Go.Proofs.Ytaopjeobapnhbaa.nn
open Go.RowKit

/-- difference and borrow -/
def sd (x y b : Nat) : Nat := (x + 4294967296 - y - b) % 4294967296
def sb (x y b : Nat) : Nat := if x < y + b then 1 else 0

end Go.Proofs.Ytaopjeobapnhbaa.nn
namespace Go.Proofs.Ytaopjeobapnhbaa.nn
open Go.RowKit

/-- what holds at the head of less's loop -/
def LessRel (base : Nat) (w0 wr : World) (s : Value) (i k : Nat) (F G : Nat → Nat) : Prop :=
  ∃ f' : Nat → Nat, wr.ownsRow base 107 1 s i (vl .u32 f' i) ∧ Below base w0 wr ∧ base ≤ wr.heap.size ∧ Lt (2 ^ 32) f' i ∧ sm (2 ^ 32) F i + k * (2 ^ 32) ^ i = sm (2 ^ 32) f' i + sm (2 ^ 32) G i

theorem borrow_eq {a b c v k' Bs P : Nat} (hk : a + k' * Bs = v + b + c) : a * P + k' * (P * Bs) = v * P + b * P + c * P := by
  have e2 := congrArg (· * P) hk
  simp only [Nat.add_mul] at e2
  rw [Nat.mul_comm P Bs, ← Nat.mul_assoc]
  exact e2

theorem LessRel.step {base : Nat} {w0 wr w1 : World} {v : Value} {i k : Nat} {F G f' : Nat → Nat} (o : Obj) (hF : F i < 2 ^ 32) (hG : G i < 2 ^ 32) (hk : k ≤ 1)
    (h2 : Below base w0 wr) (h3 : base ≤ wr.heap.size) (h4 : Lt (2 ^ 32) f' i) (h6 : sm (2 ^ 32) F i + k * (2 ^ 32) ^ i = sm (2 ^ 32) f' i + sm (2 ^ 32) G i)
    (ho : w1.ownsRow base 107 1 v (i + 1) (vl .u32 (jn f' i (fun _ => (F i + 4294967296 - G i - k) % 4294967296)) (i + 1))) (hb : Below base (wr.alloc o) w1) :
    LessRel base w0 w1 v (i + 1) (1 - (F i + 4294967296 - G i - k) / 4294967296) F G := by
  have hb1 := (h2.alloc h3 o).trans hb
  have hs := hb.size
  rw [hsz] at hs
  refine ⟨_, ho, hb1, by omega, h4.jn (m := 1) (fun _ _ => Nat.mod_lt _ (by decide)), ?_⟩
  have e1 : sm (2 ^ 32) (fun _ => (F i + 4294967296 - G i - k) % 4294967296) 1 = (F i + 4294967296 - G i - k) % 4294967296 := by simp [sm]
  rw [sm_jn, e1]
  simp only [sm]
  rw [pow_s (2 ^ 32) i]
  have e := borrow_eq (P := (2 ^ 32) ^ i) (Bs := 2 ^ 32) (a := F i) (b := G i) (c := k) (v := (F i + 4294967296 - G i - k) % 4294967296) (k' := 1 - (F i + 4294967296 - G i - k) / 4294967296) (by omega)
  omega

/-- one of two -/
def two {α : Type} (x y : α) : Nat → α := fun i => match i with | 0 => x | _ + 1 => y

end Go.Proofs.Ytaopjeobapnhbaa.nn
namespace Go.Proofs.Ytaopjeobapnhbaa.nn
open Go.RowKit

/-- what holds when the first i limbs are done, with the borrow k -/
def SubRel (w wr : World) (g : Nat) (e : TypeId) (cur : Array Value) (off n : Nat) (f G f' : Nat → Nat) (cur' : Array Value) (k i : Nat) : Prop :=
  Wrote w wr g e cur cur' off n ∧ Ints cur' .u32 off n f' ∧ Lt (2 ^ 32) f' n ∧ (∀ j, i ≤ j → j < n → f' j = f j) ∧
    sm (2 ^ 32) f i + k * (2 ^ 32) ^ i = sm (2 ^ 32) f' i + sm (2 ^ 32) G i

theorem SubRel.step {w wr : World} {g : Nat} {e : TypeId} {cur : Array Value} {off n : Nat} {f G f' : Nat → Nat} {cur' : Array Value} {k i : Nat} (H : SubRel w wr g e cur off n f G f' cur' k i) (hi : i < n) (hG : G i < 4294967296) (hk : k ≤ 1) :
    SubRel w (wr.setCell ⟨g, off + i, none⟩ (.int .u32 (sd (f' i) (G i) k : Nat))) g e cur off n f G (upd f' i (sd (f' i) (G i) k)) (cur'.setIfInBounds (off + i) (.int .u32 (sd (f' i) (G i) k : Nat))) (sb (f' i) (G i) k) (i + 1) := by
  obtain ⟨h1, h2, h3, h4, h5⟩ := H
  have hx : f' i < 2 ^ 32 := h3 i hi
  refine ⟨h1.set_ i hi _, h2.set_ i _ hi, h3.upd (Nat.mod_lt _ (by decide)), fun j ha hb => ?_, ?_⟩
  · rw [upd_ne f' (by omega)]; exact h4 j (by omega) hb
  · rw [sm_snoc]
    simp only [sm]
    rw [pow_s (2 ^ 32) i, ← h4 i (Nat.le_refl _) hi]
    have e := borrow_eq (P := (2 ^ 32) ^ i) (Bs := 2 ^ 32) (a := f' i) (b := G i) (c := k) (v := sd (f' i) (G i) k) (k' := sb (f' i) (G i) k) (by unfold sd sb; split <;> omega)
    omega

theorem SubRel.drew {w wr : World} {g : Nat} {e : TypeId} {cur : Array Value} {off n : Nat} {f G f' : Nat → Nat} {cur' : Array Value} {k i : Nat} (H : SubRel w wr g e cur off n f G f' cur' k i) : SubRel w wr.drew g e cur off n f G f' cur' k i :=
  ⟨H.1.drewN 1, H.2.1, H.2.2.1, H.2.2.2.1, H.2.2.2.2⟩

end Go.Proofs.Ytaopjeobapnhbaa.nn
namespace Go.Proofs.Ytaopjeobapnhbaa.nn
open Go.RowKit

/-- difference and borrow at 64 bits -/
def sd64 (x y b : Nat) : Nat := (x + W64 - y - b) % W64
def sb64 (x y b : Nat) : Nat := if x < y + b then 1 else 0
theorem sb64_le (x y b : Nat) : sb64 x y b ≤ 1 := by unfold sb64; split <;> omega
theorem sd64_lt (x y b : Nat) : sd64 x y b < W64 := Nat.mod_lt _ (by decide)
theorem sd64_eq {x y b : Nat} (hx : x < W64) (hy : y < W64) (hb : b ≤ 1) : sd64 x y b + y + b = x + sb64 x y b * W64 := by
  unfold sd64 sb64 W64 at *
  split <;> omega

/-- what holds when i limbs are done, with the carry k and the borrow b -/
def StRel (w wr : World) (g : Nat) (e : TypeId) (cur : Array Value) (off n : Nat) (f h : Nat → Nat) (F : Nat) (f' : Nat → Nat) (cur' : Array Value) (k b i : Nat) : Prop :=
  Wrote w wr g e cur cur' off n ∧ Ints cur' .u64 off n f' ∧ Lt W64 f' n ∧ (∀ j, i ≤ j → j < n → f' j = f j) ∧ sm W64 f' i + F * sm W64 h i = sm W64 f i + (k + b) * W64 ^ i ∧ k < W64 ∧ b ≤ 1

theorem StRel.step {w wr : World} {g : Nat} {e : TypeId} {cur : Array Value} {off n : Nat} {f h : Nat → Nat} {F : Nat} {f' : Nat → Nat} {cur' : Array Value} {k b i : Nat} (H : StRel w wr g e cur off n f h F f' cur' k b i) (hi : i < n) (l k' : Nat)
    (hk : h i * F + k = l + k' * W64) (hl : l < W64) (hk' : k' < W64) :
    StRel w (wr.setCell ⟨g, off + i, none⟩ (.int .u64 ((sd64 (f' i) l b : Nat) : Int))) g e cur off n f h F (upd f' i (sd64 (f' i) l b)) (cur'.setIfInBounds (off + i) (.int .u64 ((sd64 (f' i) l b : Nat) : Int))) k' (sb64 (f' i) l b) (i + 1) := by
  obtain ⟨h1, h2, h3, h4, h5, _, h7⟩ := H
  refine ⟨h1.set_ i hi _, h2.set_ i _ hi, h3.upd (sd64_lt _ _ _), fun j ha hb => ?_, ?_, hk', sb64_le _ _ _⟩
  · rw [upd_ne f' (by omega)]; exact h4 j (by omega) hb
  · have e1 : sm W64 f (i + 1) = sm W64 f i + f i * W64 ^ i := rfl
    have e2 : sm W64 h (i + 1) = sm W64 h i + h i * W64 ^ i := rfl
    have e4 := sd64_eq (h3 i hi) hl h7
    rw [sm_snoc, e1, e2, Nat.pow_succ W64 i, Nat.mul_add]
    rw [h4 i (Nat.le_refl _) hi] at e4 ⊢
    generalize sd64 (f i) l b = v at *
    generalize sb64 (f i) l b = b' at *
    have c1 := congrArg (· * W64 ^ i) e4
    have c2 := congrArg (· * W64 ^ i) hk
    simp only [Nat.add_mul] at c1 c2 h5 ⊢
    have e3 : F * (h i * W64 ^ i) = h i * F * W64 ^ i := by rw [← Nat.mul_assoc, Nat.mul_comm F]
    have e5 : k' * (W64 ^ i * W64) = k' * W64 * W64 ^ i := by rw [Nat.mul_comm (W64 ^ i), ← Nat.mul_assoc]
    have e6 : b' * (W64 ^ i * W64) = b' * W64 * W64 ^ i := by rw [Nat.mul_comm (W64 ^ i), ← Nat.mul_assoc]
    rw [e3, e5, e6]
    omega

/-- behind subTimes: the difference, or, with the borrow 1, one power more -/
def StEnd (w w' : World) (g : Nat) (e : TypeId) (cur : Array Value) (off n : Nat) (f h : Nat → Nat) (F : Nat) (e' : Ending) : Prop :=
  ∃ (b : Nat) (f' : Nat → Nat) (cur' : Array Value), e' = .returned (.int .u64 (b : Int)) ∧ b ≤ 1 ∧ Wrote w w' g e cur cur' off (n + 1) ∧ Ints cur' .u64 off (n + 1) f' ∧ Lt W64 f' (n + 1) ∧ sm W64 f' (n + 1) + F * sm W64 h n = sm W64 f (n + 1) + b * W64 ^ (n + 1)

theorem StRel.last {w wr : World} {g : Nat} {e : TypeId} {cur : Array Value} {off n : Nat} {f h : Nat → Nat} {F : Nat} {f' : Nat → Nat} {cur' : Array Value} {k b : Nat} (H : StRel w wr g e cur off (n + 1) f h F f' cur' k b n) :
    StEnd w (wr.setCell ⟨g, off + n, none⟩ (.int .u64 ((sd64 (f' n) k b : Nat) : Int))) g e cur off n f h F (.returned (.int .u64 ((sb64 (f' n) k b : Nat) : Int))) := by
  obtain ⟨h1, h2, h3, h4, h5, h6, h7⟩ := H
  refine ⟨_, _, _, rfl, sb64_le _ _ _, h1.set_ n (Nat.lt_succ_self n) _, h2.set_ n _ (Nat.lt_succ_self n), h3.upd (sd64_lt _ _ _), ?_⟩
  have e1 : sm W64 f (n + 1) = sm W64 f n + f n * W64 ^ n := rfl
  have e4 := sd64_eq (h3 n (Nat.lt_succ_self n)) h6 h7
  rw [sm_snoc, e1, Nat.pow_succ W64 n]
  rw [h4 n (Nat.le_refl _) (Nat.lt_succ_self n)] at e4 ⊢
  generalize sd64 (f n) k b = v at *
  generalize sb64 (f n) k b = b' at *
  have c1 := congrArg (· * W64 ^ n) e4
  simp only [Nat.add_mul] at c1 h5 ⊢
  have e6 : b' * (W64 ^ n * W64) = b' * W64 * W64 ^ n := by rw [Nat.mul_comm (W64 ^ n), ← Nat.mul_assoc]
  rw [e6]
  omega

end Go.Proofs.Ytaopjeobapnhbaa.nn
namespace Go.Proofs.Ytaopjeobapnhbaa.nn
open Go.RowKit

/-- wide limbs: the slice at A of length n reads as the trimmed number R -/
structure Num64 (w : World) (A : Option Addr) (n c : Nat) (f : Nat → Nat) (R : Nat) : Prop where
  le : n ≤ c
  cap : c ≤ maxLen
  rd : Rd w .u64 A n f
  lt : Lt (2 ^ 64) f n
  trm : Trm f n
  val : sm (2 ^ 64) f n = R
end Go.Proofs.Ytaopjeobapnhbaa.nn
namespace Go.Proofs.Ytaopjeobapnhbaa.nn
open Go.RowKit

/-- a slice as the cells that copy reads -/
theorem Rd.cells {w : World} {K : IntKind} {A : Option Addr} {n : Nat} {f : Nat → Nat} (h : Rd w K A n f) (h0 : 0 < n) : ∃ ad, A = some ad ∧ ∀ j u, (vl K f n)[j]? = some u → w.cell? (ad.add j) = some u := by
  obtain ⟨b, off, e, _, hc⟩ := h h0
  refine ⟨_, e, fun j u hu => ?_⟩
  have hj : j < n := by
    have := (List.getElem?_eq_some_iff.1 hu).1
    rwa [vl_length] at this
  rw [vl_at K f hj] at hu
  injection hu with hu
  subst hu
  have hadd : (⟨b, off, none⟩ : Addr).add j = ⟨b, off + j, none⟩ := by unfold Addr.add; split <;> simp_all
  rw [hadd]
  exact hc j hj

/-- what holds at the loop's head, with t limbs of the quotient still to come -/
def DivLoop (w7 wr : World) (g1 g2 : Nat) (e : TypeId) (Q S D m t : Nat) : Prop :=
  ∃ (fr : Nat → Nat) (cur1 : Array Value) (fq : Nat → Nat) (cur2 : Array Value), Bk wr g1 e cur1 ∧ Ints cur1 .u64 0 (Q + m) fr ∧ Bk wr g2 e cur2 ∧ Ints cur2 .u64 0 Q fq ∧ Long W64 S D m Q fr fq t ∧ Below g1 w7 wr

/-- behind one limb -/
theorem DivLoop.step {w7 wr w8 : World} {g1 g2 : Nat} {e : TypeId} {Q S D m i : Nat} {fr : Nat → Nat} {cur1 : Array Value} {fq : Nat → Nat} {cur2 cur1' : Array Value} {f1 : Nat → Nat}
    (hg : g1 < g2) (hg7 : g1 ≤ w7.heap.size) (hi1 : Ints cur1 .u64 0 (Q + m) fr) (hb2 : Bk wr g2 e cur2) (hi2 : Ints cur2 .u64 0 Q fq) (hL : Long W64 S D m Q fr fq (i + 1)) (hB : Below g1 w7 wr) (hi : i < Q) (hD : D < W64 ^ m) (hD0 : 0 < D)
    (hw : Wrote wr w8 g1 e cur1 cur1' i (m + 1)) (hi' : Ints cur1' .u64 i (m + 1) f1) (l1 : Lt W64 f1 (m + 1)) (hv : sm W64 f1 (m + 1) = sm W64 (fun j => fr (i + j)) (m + 1) % D) :
    DivLoop w7 (w8.setCell ⟨g2, i, none⟩ (.int .u64 ((sm W64 (fun j => fr (i + j)) (m + 1) / D : Nat) : Int))) g1 g2 e Q S D m i := by
  have hbk1 := hw.blk
  have hbk2 := hb2.grown hw.grown (by intro h; injection h with h; omega)
  have hw2 := (Wrote.refl hbk2 0 Q).set_ i hi (.int .u64 ((sm W64 (fun j => fr (i + j)) (m + 1) / D : Nat) : Int))
  have h2 := hi2.set_ i (sm W64 (fun j => fr (i + j)) (m + 1) / D) hi
  simp only [Nat.zero_add] at hw2 h2
  have hB1 := (hB.grown hw.grown (Nat.le_trans hg7 hB.size) (fun k hk => by injection hk with hk; omega))
  refine ⟨put fr i (m + 1) f1, cur1', _, _, hbk1.grown hw2.grown (by intro h; injection h with h; omega), fun j hj => ?_, hw2.blk, h2, hL.step hi l1 hD hD0 hv, hB1.grown hw2.grown (Nat.le_trans hg7 hB1.size) (fun k hk => by injection hk with hk; omega)⟩
  rw [Nat.zero_add]
  by_cases c : i ≤ j ∧ j < i + (m + 1)
  · obtain ⟨k, rfl⟩ : ∃ k, j = i + k := ⟨j - i, by omega⟩
    rw [put_in fr f1 (by omega)]
    exact hi' k (by omega)
  · rw [put_out fr f1 (by omega), hw.out j (by omega)]
    have := hi1 j hj
    rwa [Nat.zero_add] at this

end Go.Proofs.Ytaopjeobapnhbaa.nn
namespace Go.Proofs.Ytaopjeobapnhbaa.nn
open Go.RowKit

/-- one of two limbs -/
def duo (x y : Nat) : Nat → Nat := fun i => if i = 0 then x else y

/-- what holds when i wide limbs are cut -/
def NarRel (base : Nat) (w0 wr : World) (s : Value) (i : Nat) (f : Nat → Nat) : Prop :=
  ∃ f' : Nat → Nat, wr.ownsRow base 107 1 s (2 * i) (vl .u32 f' (2 * i)) ∧ Below base w0 wr ∧ base ≤ wr.heap.size ∧ Lt (2 ^ 32) f' (2 * i) ∧ sm (2 ^ 32) f' (2 * i) = sm W64 f i

theorem NarRel.step {base : Nat} {w0 wr w1 : World} {v : Value} {i : Nat} {f f' : Nat → Nat} (o : Obj) (h2 : Below base w0 wr) (h3 : base ≤ wr.heap.size) (h4 : Lt (2 ^ 32) f' (2 * i)) (h5 : sm (2 ^ 32) f' (2 * i) = sm W64 f i) (hx : f i < W64)
    (ho : w1.ownsRow base 107 1 v (2 * i + 2) (vl .u32 (jn f' (2 * i) (duo (f i % 4294967296) (f i / 4294967296))) (2 * i + 2))) (hb : Below base (wr.alloc o) w1) : NarRel base w0 w1 v (i + 1) f := by
  have hb1 := (h2.alloc h3 o).trans hb
  have hs := hb.size
  rw [hsz] at hs
  have e : 2 * (i + 1) = 2 * i + 2 := by omega
  refine ⟨jn f' (2 * i) (duo (f i % 4294967296) (f i / 4294967296)), by rw [e]; exact ho, hb1, by omega, ?_, ?_⟩
  · rw [e]
    refine h4.jn (m := 2) (fun j hj => ?_)
    unfold duo
    unfold W64 at hx
    split <;> omega
  · rw [e, sm_jn, h5]
    have e1 : sm W64 f (i + 1) = sm W64 f i + f i * W64 ^ i := rfl
    have e2 : sm (2 ^ 32) (duo (f i % 4294967296) (f i / 4294967296)) 2 = f i := by
      simp [sm, duo]
      omega
    rw [e1, e2, w64_pow]

end Go.Proofs.Ytaopjeobapnhbaa.nn
namespace Go.Proofs.Ytaopjeobapnhbaa.nn
open Go.RowKit

/-- what holds when i limbs of f are done: the lowest i + m places hold f's first i limbs times h, the rest is 0 -/
def ProdRel (w wr : World) (g : Nat) (e : TypeId) (cur : Array Value) (n m : Nat) (f h : Nat → Nat) (i : Nat) : Prop :=
  ∃ (f' : Nat → Nat) (cur' : Array Value), Wrote w wr g e cur cur' 0 (n + m) ∧ Ints cur' .u64 0 (n + m) f' ∧ Lt W64 f' (n + m) ∧ sm W64 f' (i + m) = sm W64 f i * sm W64 h m ∧ ∀ j, i + m ≤ j → j < n + m → f' j = 0

/-- behind one row: the stretch from i on is rewritten, the carry is stored behind it -/
theorem ProdRel.step {w wr w1 : World} {g : Nat} {e : TypeId} {cur cur' cur1 : Array Value} {n m i k : Nat} {f h f' f1 : Nat → Nat} (hw : Wrote w wr g e cur cur' 0 (n + m)) (hin : Ints cur' .u64 0 (n + m) f') (lf' : Lt W64 f' (n + m))
    (hv : sm W64 f' (i + m) = sm W64 f i * sm W64 h m) (hz : ∀ j, i + m ≤ j → j < n + m → f' j = 0) (hi : i < n) (hk : k < W64)
    (hm : MulRel wr w1 g e cur' i m (fun j => f' (i + j)) h (f i) f1 cur1 k m) :
    ProdRel w (w1.setCell ⟨g, i + m, none⟩ (.int .u64 (k : Int))) g e cur n m f h (i + 1) := by
  obtain ⟨h1, h2, h3, _, h5⟩ := hm
  have hw1 := hw.trans (h1.wide (off' := 0) (n' := n + m) (by omega) (by omega))
  have hi1 : Ints cur1 .u64 0 (n + m) (fun j => if i ≤ j ∧ j < i + m then f1 (j - i) else f' j) := fun j hj => by
    rw [Nat.zero_add]
    by_cases hc : i ≤ j ∧ j < i + m
    · have := h2 (j - i) (by omega)
      rw [show i + (j - i) = j by omega] at this
      simp only [if_pos hc]
      exact this
    · simp only [if_neg hc]
      have := hin j hj
      rw [Nat.zero_add] at this
      rw [h1.out j (by omega)]
      exact this
  have lf1 : Lt W64 (fun j => if i ≤ j ∧ j < i + m then f1 (j - i) else f' j) (n + m) := fun j hj => by
    by_cases hc : i ≤ j ∧ j < i + m
    · simp only [if_pos hc]; exact h3 _ (by omega)
    · simp only [if_neg hc]; exact lf' j hj
  have h6 := hw1.set_ (i + m) (by omega) (.int .u64 (k : Int))
  have h7 := hi1.set_ (i + m) k (by omega)
  simp only [Nat.zero_add] at h6 h7
  refine ⟨_, _, h6, h7, lf1.upd hk, ?_, fun j ha hb => ?_⟩
  · rw [show i + 1 + m = (i + m) + 1 by omega, sm_snoc, sm_split W64 _ i m]
    rw [sm_split W64 f' i m] at hv
    have e1 : sm W64 (fun j => if i ≤ j ∧ j < i + m then f1 (j - i) else f' j) i = sm W64 f' i := sm_congr _ fun j hj => by rw [if_neg (by omega)]
    have e2 : sm W64 (fun t => (fun j => if i ≤ j ∧ j < i + m then f1 (j - i) else f' j) (i + t)) m = sm W64 f1 m := sm_congr _ fun j hj => by
      show (if i ≤ i + j ∧ i + j < i + m then f1 (i + j - i) else f' (i + j)) = _
      rw [if_pos (by omega), Nat.add_sub_cancel_left]
    have e3 : sm W64 f (i + 1) = sm W64 f i + f i * W64 ^ i := rfl
    rw [e1, e2, e3, Nat.add_mul, ← hv, Nat.pow_add]
    have h8 := congrArg (· * W64 ^ i) h5
    simp only [Nat.add_mul] at h8
    have e4 : k * (W64 ^ i * W64 ^ m) = k * W64 ^ m * W64 ^ i := by ac_rfl
    have e5 : f i * W64 ^ i * sm W64 h m = f i * sm W64 h m * W64 ^ i := by ac_rfl
    rw [e4, e5]
    omega
  · rw [upd_ne _ (by omega)]
    rw [if_neg (by omega)]
    exact hz j (by omega) hb

end Go.Proofs.Ytaopjeobapnhbaa.nn
namespace Go.Proofs.Ytaopjeobapnhbaa.nn
open Go.RowKit

/-- what holds when i limbs are done, with k to carry -/
def TpRel (w wr : World) (g : Nat) (e : TypeId) (cur : Array Value) (n : Nat) (f : Nat → Nat) (F M : Nat) (f' : Nat → Nat) (cur' : Array Value) (k i : Nat) : Prop :=
  Wrote w wr g e cur cur' 0 n ∧ Ints cur' .u64 0 n f' ∧ Lt W64 f' n ∧ (∀ j, i ≤ j → j < n → f' j = f j) ∧ sm W64 f' i + k * W64 ^ i = sm W64 f i * F + M
theorem TpRel.step {w wr : World} {g : Nat} {e : TypeId} {cur : Array Value} {n : Nat} {f : Nat → Nat} {F M : Nat} {f' : Nat → Nat} {cur' : Array Value} {k i : Nat} (H : TpRel w wr g e cur n f F M f' cur' k i) (hi : i < n) (k' v : Nat)
    (hk : f' i * F + k = v + k' * W64) (hv : v < W64) :
    TpRel w (wr.setCell ⟨g, i, none⟩ (.int .u64 (v : Int))) g e cur n f F M (upd f' i v) (cur'.setIfInBounds i (.int .u64 (v : Int))) k' (i + 1) := by
  obtain ⟨h1, h2, h3, h4, h5⟩ := H
  have a := h1.set_ i hi (.int .u64 (v : Int))
  have b := h2.set_ i v hi
  rw [Nat.zero_add] at a b
  refine ⟨a, b, h3.upd hv, fun j ha hb => ?_, ?_⟩
  · rw [upd_ne f' (by omega)]; exact h4 j (by omega) hb
  · have e1 : sm W64 f (i + 1) = sm W64 f i + f i * W64 ^ i := rfl
    rw [sm_snoc, e1, ← h4 i (Nat.le_refl _) hi, Nat.pow_succ W64 i, Nat.add_mul]
    have e2 : f' i * W64 ^ i * F = f' i * F * W64 ^ i := by rw [Nat.mul_assoc, Nat.mul_comm (W64 ^ i), ← Nat.mul_assoc]
    have e3 : f' i * F * W64 ^ i + k * W64 ^ i = v * W64 ^ i + k' * (W64 ^ i * W64) := by
      rw [← Nat.add_mul, hk, Nat.add_mul, Nat.mul_assoc, Nat.mul_comm W64]
    rw [e2]
    omega
end Go.Proofs.Ytaopjeobapnhbaa.nn
namespace Go.Proofs.Ytaopjeobapnhbaa.nn
open Go.RowKit

def dg (x : Nat) : Bool := decide (48 ≤ x ∧ x ≤ 57)
/-- the first n bytes are digits -/
def dgs (f : Nat → Nat) : Nat → Bool
  | 0 => true
  | n + 1 => dgs f n && dg (f n)
/-- the number of n digits -/
def dv (f : Nat → Nat) : Nat → Nat
  | 0 => 0
  | n + 1 => dv f n * 10 + (f n - 48)
theorem dgs_mono {f : Nat → Nat} {n m : Nat} (h : dgs f n = true) (hm : m ≤ n) : dgs f m = true := by
  induction n with
  | zero => obtain rfl : m = 0 := by omega
            rfl
  | succ n ih =>
    by_cases e : m = n + 1
    · subst e; exact h
    · rw [dgs, Bool.and_eq_true] at h; exact ih h.1 (by omega)
theorem dgs_at {f : Nat → Nat} {n i : Nat} (h : dgs f n = true) (hi : i < n) : 48 ≤ f i ∧ f i ≤ 57 := by
  have := dgs_mono h (show i + 1 ≤ n by omega)
  rw [dgs, Bool.and_eq_true] at this
  exact of_decide_eq_true this.2
end Go.Proofs.Ytaopjeobapnhbaa.nn
namespace Go.Proofs.Ytaopjeobapnhbaa.nn

def h52 : Nat := 4503599627370496
/-- the least unit's exponent, below 0 -/
def e74 : Nat := 1074
/-- what the bits b (without a sign) say, in least units; beyond the greatest it goes on -/
def vf (b : Nat) : Nat := if b / h52 = 0 then b else (h52 + b % h52) * 2 ^ (b / h52 - 1)

theorem vf_at {k c : Nat} (hc : c ≤ 2 * h52) (hk : k = 0 ∨ h52 ≤ c) : vf (k * h52 + c) = c * 2 ^ k := by
  have h0 : 0 < h52 := by decide
  unfold vf
  by_cases h1 : c < h52
  · obtain rfl : k = 0 := by omega
    rw [Nat.zero_mul, Nat.zero_add, Nat.div_eq_of_lt h1, if_pos rfl, Nat.pow_zero, Nat.mul_one]
  · by_cases h2 : c < 2 * h52
    · obtain ⟨d, rfl⟩ : ∃ d, c = h52 + d := ⟨c - h52, by omega⟩
      have hd : d < h52 := by omega
      have e : k * h52 + (h52 + d) = d + h52 * (k + 1) := by rw [Nat.mul_add, Nat.mul_comm h52 k]; omega
      rw [e, Nat.add_mul_div_left _ _ h0, Nat.div_eq_of_lt hd, Nat.add_mul_mod_self_left, Nat.mod_eq_of_lt hd, if_neg (by omega)]
      congr 2
      omega
    · obtain rfl : c = 2 * h52 := by omega
      have e : k * h52 + 2 * h52 = 0 + h52 * (k + 2) := by rw [Nat.mul_add, Nat.mul_comm h52 k]; omega
      rw [e, Nat.add_mul_div_left _ _ h0, Nat.zero_div, Nat.add_mul_mod_self_left, Nat.zero_mod, if_neg (by omega), Nat.zero_add, show k + 2 - 1 = k + 1 by omega, Nat.pow_succ, Nat.add_zero, ← Nat.mul_assoc, Nat.mul_right_comm, Nat.mul_comm h52 2]
theorem bits_form (b : Nat) : ∃ k c, b = k * h52 + c ∧ c < 2 * h52 ∧ (k = 0 ∨ h52 ≤ c) := by
  have h0 : 0 < h52 := by decide
  have h1 := Nat.div_add_mod b h52
  have h2 := Nat.mod_lt b h0
  by_cases h : b / h52 = 0
  · rw [h, Nat.mul_zero, Nat.zero_add] at h1
    rw [h1] at h2
    exact ⟨0, b, by omega, by omega, .inl rfl⟩
  · obtain ⟨k, hk⟩ := Nat.exists_eq_succ_of_ne_zero h
    refine ⟨k, h52 + b % h52, ?_, by omega, .inr (by omega)⟩
    rw [hk, Nat.succ_eq_add_one, Nat.mul_add, Nat.mul_comm h52 k] at h1
    omega
theorem vf_succ (b : Nat) : vf b < vf (b + 1) := by
  obtain ⟨k, c, rfl, hc, hk⟩ := bits_form b
  rw [Nat.add_assoc, vf_at (by omega) hk, vf_at (by omega) (by omega)]
  exact Nat.mul_lt_mul_of_pos_right (by omega) (Nat.two_pow_pos k)
theorem vf_mono {a b : Nat} (h : a ≤ b) : vf a ≤ vf b := by
  induction b with
  | zero => obtain rfl : a = 0 := by omega
            exact Nat.le_refl _
  | succ b ih =>
    by_cases e : a = b + 1
    · subst e; exact Nat.le_refl _
    · exact Nat.le_trans (ih (by omega)) (Nat.le_of_lt (vf_succ b))
theorem vf_lt {a b : Nat} (h : a < b) : vf a < vf b := Nat.lt_of_lt_of_le (vf_succ a) (vf_mono h)
/-- X over Y is nearest to b -/
structure Near (X Y b : Nat) : Prop where
  lo : b = 0 ∨ (vf (b - 1) + vf b) * Y < 2 * X ∨ ((vf (b - 1) + vf b) * Y = 2 * X ∧ b % 2 = 0)
  hi : 2 * X < (vf b + vf (b + 1)) * Y ∨ (2 * X = (vf b + vf (b + 1)) * Y ∧ b % 2 = 0)

theorem near_mono {X Y X' Y' b b' : Nat} (hY : 0 < Y) (hY' : 0 < Y') (h : X * Y' ≤ X' * Y) (n : Near X Y b) (n' : Near X' Y' b') : b ≤ b' := by
  rcases Nat.lt_or_ge b' b with hlt | hge
  · exfalso
    have m1 : vf b' ≤ vf (b - 1) := vf_mono (by omega)
    have m2 : vf (b' + 1) ≤ vf b := vf_mono (by omega)
    have hPQ : vf b' + vf (b' + 1) ≤ vf (b - 1) + vf b := by omega
    have hPQ' : b' ≠ b - 1 → vf b' + vf (b' + 1) < vf (b - 1) + vf b := fun hne => by
      have := vf_lt (show b' < b - 1 by omega)
      omega
    have lo := n.lo
    have hi := n'.hi
    obtain ⟨P, hP⟩ : ∃ P, vf b' + vf (b' + 1) = P := ⟨_, rfl⟩
    obtain ⟨Q, hQ⟩ : ∃ Q, vf (b - 1) + vf b = Q := ⟨_, rfl⟩
    rw [hP, hQ] at hPQ
    rw [hP, hQ] at hPQ'
    rw [hQ] at lo
    rw [hP] at hi
    have hYY := Nat.mul_pos hY hY'
    have a1 : P * (Y * Y') ≤ Q * (Y * Y') := Nat.mul_le_mul_right _ hPQ
    have lo' : (Q * Y) * Y' < (2 * X) * Y' ∨ ((Q * Y) * Y' = (2 * X) * Y' ∧ b % 2 = 0) := by
      rcases lo with lo | lo | ⟨lo, hb⟩
      · omega
      · exact .inl (Nat.mul_lt_mul_of_pos_right lo hY')
      · exact .inr ⟨by rw [lo], hb⟩
    have hi' : (2 * X') * Y < (P * Y') * Y ∨ ((2 * X') * Y = (P * Y') * Y ∧ b' % 2 = 0) := by
      rcases hi with hi | ⟨hi, hb⟩
      · exact .inl (Nat.mul_lt_mul_of_pos_right hi hY)
      · exact .inr ⟨by rw [hi], hb⟩
    have e1 : (Q * Y) * Y' = Q * (Y * Y') := Nat.mul_assoc _ _ _
    have e2 : (P * Y') * Y = P * (Y * Y') := by rw [Nat.mul_assoc, Nat.mul_comm Y' Y]
    have e3 : (2 * X) * Y' = 2 * (X * Y') := Nat.mul_assoc _ _ _
    have e4 : (2 * X') * Y = 2 * (X' * Y) := Nat.mul_assoc _ _ _
    by_cases hb : b' = b - 1
    · omega
    · have a2 : P * (Y * Y') < Q * (Y * Y') := Nat.mul_lt_mul_of_pos_right (hPQ' hb) hYY
      omega
  · exact hge
theorem near_uniq {X Y b b' : Nat} (hY : 0 < Y) (n : Near X Y b) (n' : Near X Y b') : b = b' :=
  Nat.le_antisymm (near_mono hY hY (Nat.le_refl _) n n') (near_mono hY hY (Nat.le_refl _) n' n)
/-! powers of two as bounds -/
/-- x over y is at least 2^n -/
def ge2 (x y : Nat) (n : Int) : Prop := y * 2 ^ n.toNat ≤ x * 2 ^ (-n).toNat
/-- what is counted: u is the unit's exponent, h the greatest with 2^h at most x over y (or x is 0) -/
structure Unit (x y : Nat) (u : Int) : Prop where
  least : -1074 ≤ u
  low : u = -1074 ∨ ge2 x y (u + 52)
  high : ¬ ge2 x y (u + 53)
end Go.Proofs.Ytaopjeobapnhbaa.nn
namespace Go.Proofs.Ytaopjeobapnhbaa.nn
open Go.RowKit

/-- the value v is a trimmed number in memory -/
def N (w : World) (v : Value) (X : Nat) : Prop := ∃ A n c f, v = .slice A n c ∧ Num w A n c f X
section
variable {w w' : World} {v u : Value} {X Y : Nat}
theorem N.below (h : N w v X) (hb : Below w.heap.size w w') : N w' v X := by
  obtain ⟨A, n, c, f, rfl, h1⟩ := h
  exact ⟨A, n, c, f, rfl, h1.le, h1.cap, h1.rd.below hb, h1.lt, h1.trm, h1.val⟩
theorem N.drewN (h : N w v X) (j : Nat) : N (w.drewN j) v X := by
  obtain ⟨A, n, c, f, rfl, h1⟩ := h
  exact ⟨A, n, c, f, rfl, h1.le, h1.cap, h1.rd.drewN j, h1.lt, h1.trm, h1.val⟩
theorem N.drew (h : N w v X) : N w.drew v X := by
  obtain ⟨A, n, c, f, rfl, h1⟩ := h
  exact ⟨A, n, c, f, rfl, h1.le, h1.cap, h1.rd.drew, h1.lt, h1.trm, h1.val⟩
theorem N.alloc (h : N w v X) (o : Obj) : N (w.alloc o) v X := by
  obtain ⟨A, n, c, f, rfl, h1⟩ := h
  exact ⟨A, n, c, f, rfl, h1.le, h1.cap, h1.rd.alloc o, h1.lt, h1.trm, h1.val⟩
theorem Num.short {A : Option Addr} {n c : Nat} {f : Nat → Nat} (h : Num w A n c f X) (hX : X < bigP) : n ≤ 4096 := by
  rcases Nat.lt_or_ge 4096 n with h1 | h1
  · have := trm_long h.trm h1
    rw [h.val] at this
    omega
  · exact h1
end
end Go.Proofs.Ytaopjeobapnhbaa.nn
namespace Go.Proofs.Ytaopjeobapnhbaa.nn
open Go.RowKit

/-- the sign's bit -/
def sB (neg : Bool) : Nat := if neg then 9223372036854775808 else 0
/-- how many of the first n bytes are digits, without a gap -/
def dc (f : Nat → Nat) : Nat → Nat
  | 0 => 0
  | n + 1 => if dc f n = n ∧ dg (f n) = true then n + 1 else dc f n
theorem dc_facts (f : Nat → Nat) (n : Nat) : dc f n ≤ n ∧ dgs f (dc f n) = true ∧ (dc f n = n ∨ dg (f (dc f n)) = false) := by
  induction n with
  | zero => exact ⟨Nat.le_refl _, rfl, .inl rfl⟩
  | succ n ih =>
    obtain ⟨h1, h2, h3⟩ := ih
    unfold dc
    by_cases h : dc f n = n ∧ dg (f n) = true
    · rw [if_pos h]
      refine ⟨Nat.le_refl _, ?_, .inl rfl⟩
      rw [h.1] at h2
      rw [dgs, h2, h.2]
      rfl
    · rw [if_neg h]
      refine ⟨by omega, h2, .inr ?_⟩
      rcases h3 with h3 | h3
      · rw [h3]
        cases hd : dg (f n) with
        | false => rfl
        | true => exact absurd ⟨h3, hd⟩ h
      · exact h3
theorem dgs_no {f : Nat → Nat} {n k : Nat} (h : dgs f n = true) (hk : k < n) (hd : dg (f k) = false) : False := by
  have := dgs_at h hk
  have h2 : dg (f k) = true := decide_eq_true this
  rw [hd] at h2
  cases h2
theorem dc_eq {f : Nat → Nat} {n k : Nat} (hk : k ≤ n) (h : dgs f k = true) (he : k = n ∨ dg (f k) = false) : dc f n = k := by
  obtain ⟨h1, h2, h3⟩ := dc_facts f n
  rcases Nat.lt_trichotomy (dc f n) k with g | g | g
  · rcases h3 with h3 | h3
    · omega
    · exact (dgs_no h g h3).elim
  · exact g
  · rcases he with he | he
    · omega
    · exact (dgs_no h2 g he).elim
theorem nil_text {s : ByteArray} (h : s.size = 0) : s = ⟨#[]⟩ := by
  obtain ⟨d⟩ := s
  congr 1
  exact Array.eq_empty_of_size_eq_zero h
theorem not_nil_text {s : ByteArray} (h : 0 < s.size) : s.toList.isEmpty = false := by
  rw [ByteArray.toList_eq]
  cases hl : s.data.toList with
  | nil =>
    have : s.data.toList.length = s.size := rfl
    rw [hl] at this
    simp at this
    omega
  | cons a l => rfl
end Go.Proofs.Ytaopjeobapnhbaa.nn
namespace Go.Proofs.Ytaopjeobapnhbaa.nn

/-- bits of an exponent, of a fraction -/
def xb (w : Nat) : Nat := if w = 16 then 5 else if w = 32 then 8 else 11
def fb (w : Nat) : Nat := if w = 16 then 10 else if w = 32 then 23 else 52
/-- a width, and bits that it has -/
def wOk (w : Int) : Prop := w = 16 ∨ w = 32 ∨ w = 64
instance (w : Int) : Decidable (wOk w) := by unfold wOk; infer_instance
def fits (w : Int) (x : Nat) : Prop := wOk w ∧ (w < 64 → x < 2 ^ w.toNat)
instance (w : Int) (x : Nat) : Decidable (fits w x) := by unfold fits; infer_instance
def ex (w x : Nat) : Nat := x / 2 ^ fb w % 2 ^ xb w
def fr (w x : Nat) : Nat := x % 2 ^ fb w
end Go.Proofs.Ytaopjeobapnhbaa.nn
namespace Go.Proofs.Ytaopjeobapnhbaa.nn
open Go.RowKit

def wx (k : Int) : Nat := if wOk k then xb k.toNat else 0
def wf (k : Int) : Nat := if wOk k then fb k.toNat else 0
theorem pow_up {a b : Nat} (h : a ≤ b) : 2 ^ a ≤ 2 ^ b := Nat.pow_le_pow_right (by decide) h
end Go.Proofs.Ytaopjeobapnhbaa.nn
namespace Go.Proofs.Ytaopjeobapnhbaa.nn
open Go.RowKit

def bia (k : Nat) : Nat := if k = 16 then 15 else if k = 32 then 127 else 1023
/-- how far m goes to the left until its highest bit is bit 52 -/
def nrm (m : Nat) : Nat := 52 - m.log2
theorem nrm_lt {m t : Nat} (hm : 0 < m) (hb : m < 4503599627370496) : (t < nrm m ↔ m * 2 ^ t < 4503599627370496) := by
  have h1 := Nat.log2_self_le (n := m) (by omega)
  have h2 := Nat.lt_log2_self (n := m)
  have h3 : m.log2 < 52 := (Nat.log2_lt (by omega)).2 hb
  unfold nrm
  constructor
  · intro h
    have h4 : m * 2 ^ t < 2 ^ (m.log2 + 1) * 2 ^ t := Nat.mul_lt_mul_of_pos_right h2 (Nat.two_pow_pos t)
    rw [← Nat.pow_add] at h4
    have h5 : 2 ^ (m.log2 + 1 + t) ≤ 2 ^ 52 := pow_up (by omega)
    exact Nat.lt_of_lt_of_le h4 h5
  · intro h
    rcases Nat.lt_or_ge t (52 - m.log2) with h' | h'
    · exact h'
    · have h4 : 2 ^ m.log2 * 2 ^ t ≤ m * 2 ^ t := Nat.mul_le_mul_right _ h1
      rw [← Nat.pow_add] at h4
      have h5 : 2 ^ 52 ≤ 2 ^ (m.log2 + t) := pow_up (by omega)
      exact absurd (Nat.lt_of_le_of_lt (Nat.le_trans h5 h4) h) (by decide)
theorem nrm_hi {m : Nat} (hm : 0 < m) (hb : m < 4503599627370496) : m * 2 ^ nrm m < 9007199254740992 ∧ 4503599627370496 ≤ m * 2 ^ nrm m := by
  have h1 := Nat.log2_self_le (n := m) (by omega)
  have h2 := Nat.lt_log2_self (n := m)
  have h3 : m.log2 < 52 := (Nat.log2_lt (by omega)).2 hb
  unfold nrm
  have h4 : m * 2 ^ (52 - m.log2) < 2 ^ (m.log2 + 1) * 2 ^ (52 - m.log2) := Nat.mul_lt_mul_of_pos_right h2 (Nat.two_pow_pos _)
  have h5 : 2 ^ m.log2 * 2 ^ (52 - m.log2) ≤ m * 2 ^ (52 - m.log2) := Nat.mul_le_mul_right _ h1
  rw [← Nat.pow_add] at h4 h5
  rw [show m.log2 + 1 + (52 - m.log2) = 53 by omega] at h4
  rw [show m.log2 + (52 - m.log2) = 52 by omega] at h5
  rw [show (2 : Nat) ^ 53 = 9007199254740992 by decide] at h4
  rw [show (2 : Nat) ^ 52 = 4503599627370496 by decide] at h5
  exact ⟨h4, h5⟩
end Go.Proofs.Ytaopjeobapnhbaa.nn
namespace Go.Proofs.Ytaopjeobapnhbaa.nn
open Go.RowKit

def kOk (k : Nat) : Prop := k = 16 ∨ k = 32 ∨ k = 64
def onz (k : Nat) : Nat := 2 ^ xb k - 1
def hdn (k : Nat) : Nat := 2 ^ fb k
theorem kOk.facts {k : Nat} (h : kOk k) : (k = 16 ∧ xb k = 5 ∧ fb k = 10 ∧ onz k = 31 ∧ bia k = 15 ∧ hdn k = 1024) ∨ (k = 32 ∧ xb k = 8 ∧ fb k = 23 ∧ onz k = 255 ∧ bia k = 127 ∧ hdn k = 8388608) ∨ (k = 64 ∧ xb k = 11 ∧ fb k = 52 ∧ onz k = 2047 ∧ bia k = 1023 ∧ hdn k = 4503599627370496) := by
  rcases h with rfl | rfl | rfl
  · exact .inl (by decide)
  · exact .inr (.inl (by decide))
  · exact .inr (.inr (by decide))
/-- the worlds behind a call's boxed shape -/
structure Bs (w : World) (k : Nat) (W : World) : Prop where
  c0 : W.cell? ⟨w.heap.size, 0, none⟩ = some (.int .i64 (k : Int))
  c1 : W.cell? ⟨w.heap.size, 1, none⟩ = some (.int .i64 (xb k : Int))
  c2 : W.cell? ⟨w.heap.size, 2, none⟩ = some (.int .i64 (fb k : Int))
  b : Below w.heap.size w W
  z : w.heap.size < W.heap.size
theorem Bs.new (w : World) (k : Nat) (T : TypeId) : Bs w k (w.alloc (.cells #[.int .i64 (k : Int), .int .i64 (xb k : Int), .int .i64 (fb k : Int)] T)) :=
  ⟨by simp, by simp, by simp, (Below.refl _ _).alloc (Nat.le_refl _) _, by simp⟩
theorem Bs.on {w W W' : World} {k : Nat} (h : Bs w k W) (hB : Below W.heap.size W W') : Bs w k W' :=
  ⟨(hB.cell (p := ⟨_, _, none⟩) h.z).trans h.c0, (hB.cell (p := ⟨_, _, none⟩) h.z).trans h.c1, (hB.cell (p := ⟨_, _, none⟩) h.z).trans h.c2, h.b.trans (hB.mono (Nat.le_of_lt h.z)), Nat.lt_of_lt_of_le h.z hB.size⟩
theorem Bs.drew {w W : World} {k : Nat} (h : Bs w k W) : Bs w k W.drew := h.on (Below.drew (Below.refl _ _))
theorem Bs.all {w W : World} {k : Nat} (h : Bs w k W) : W.cell? ⟨w.heap.size, 0, none⟩ = some (.int .i64 (k : Int)) ∧ W.cell? ⟨w.heap.size, 1, none⟩ = some (.int .i64 (xb k : Int)) ∧ W.cell? ⟨w.heap.size, 2, none⟩ = some (.int .i64 (fb k : Int)) ∧ Bs w k W := ⟨h.c0, h.c1, h.c2, h⟩
end Go.Proofs.Ytaopjeobapnhbaa.nn
namespace Go.Proofs.Ytaopjeobapnhbaa.nn
open Go.RowKit

def InAns (r : Bool × Nat × Bool) (W : World) (e : Ending) (W' : World) : Prop := e = .returned (.tuple #[.bool r.1, .int .u64 (r.2.1 : Int), .bool r.2.2]) ∧ Below W.heap.size W W'
theorem InAns.mk {r : Bool × Nat × Bool} {a c : Bool} {b : Int} {W W' : World} (h1 : r.1 = a) (h2 : (r.2.1 : Int) = b) (h3 : r.2.2 = c) (hb : Below W.heap.size W W') : InAns r W (.returned (.tuple #[.bool a, .int .u64 b, .bool c])) W' := by
  unfold InAns
  rw [h1, h2, h3]
  exact ⟨rfl, hb⟩
end Go.Proofs.Ytaopjeobapnhbaa.nn
namespace Go.Proofs.Ytaopjeobapnhbaa.nn

/-! parts and bits -/
theorem b52 : (2 : Nat) ^ 52 = 4503599627370496 := by decide
/-! widened and narrowed, in parts -/
/-- a width's parts: bits of an exponent, of a fraction; what is taken from the exponent; the exponents' number -/
structure Wd (E F B T : Nat) : Prop where
  e : 2 ^ (E - 1) - 1 = B
  t : 2 ^ E = T
  bt : T = 2 * B + 2
  b : 1 ≤ B ∧ B ≤ 127
  f : 1 ≤ F ∧ F ≤ 23 ∧ F ≤ B
/-- the wider parts -/
def wX (B T F X M : Nat) : Nat := if X = T - 1 then 2047 else if 0 < X then X + 1023 - B else if 0 < M then 1024 - B - nrm (M * 2 ^ (52 - F)) else 0
def wM (T F X M : Nat) : Nat := if X = T - 1 ∨ 0 < X then M * 2 ^ (52 - F) else if 0 < M then M * 2 ^ (52 - F) * 2 ^ nrm (M * 2 ^ (52 - F)) - 4503599627370496 else 0
section
variable {E F B T X M : Nat}
theorem Wd.small (_ : Wd E F B T) (hM : M < 2 ^ F) (h0 : 0 < M) : 0 < M * 2 ^ (52 - F) ∧ M * 2 ^ (52 - F) < 4503599627370496 ∧ 2 ^ (52 - F) ≤ M * 2 ^ (52 - F) := by
  have hF := (‹Wd E F B T›).f
  have hp := Nat.two_pow_pos (52 - F)
  refine ⟨Nat.mul_pos h0 hp, ?_, Nat.le_mul_of_pos_left _ h0⟩
  rw [← b52, show 52 = F + (52 - F) by omega, Nat.pow_add, show F + (52 - F) - F = 52 - F by omega]
  exact Nat.mul_lt_mul_of_pos_right hM hp
theorem nrm_pos {m : Nat} (hm : 0 < m) (hb : m < 4503599627370496) : 1 ≤ nrm m := (nrm_lt hm hb).2 (by simpa using hb)
theorem Wd.nrm_le (h : Wd E F B T) (hM : M < 2 ^ F) (h0 : 0 < M) : nrm (M * 2 ^ (52 - F)) ≤ F := by
  obtain ⟨s1, s2, s3⟩ := h.small hM h0
  have hF := h.f
  rcases Nat.lt_or_ge F (nrm (M * 2 ^ (52 - F))) with h' | h'
  · have h1 := (nrm_lt s1 s2).1 h'
    have h2 : 2 ^ (52 - F) * 2 ^ F ≤ M * 2 ^ (52 - F) * 2 ^ F := Nat.mul_le_mul_right _ s3
    rw [← Nat.pow_add, show 52 - F + F = 52 by omega, b52] at h2
    omega
  · exact h'
/-- the wider parts are parts -/
theorem Wd.wide (h : Wd E F B T) (hX : X < T) (hM : M < 2 ^ F) : wX B T F X M ≤ 2047 ∧ wM T F X M < 4503599627370496 := by
  have hF := h.f
  have hB := h.b
  have hbt := h.bt
  have hp := Nat.two_pow_pos (52 - F)
  have hm : M * 2 ^ (52 - F) < 4503599627370496 := by
    rw [← b52, show 52 = F + (52 - F) by omega, Nat.pow_add, show F + (52 - F) - F = 52 - F by omega]
    exact Nat.mul_lt_mul_of_pos_right hM hp
  unfold wX wM
  by_cases c1 : X = T - 1
  · rw [if_pos c1, if_pos (.inl c1)]; exact ⟨Nat.le_refl _, hm⟩
  · rw [if_neg c1]
    by_cases c2 : 0 < X
    · rw [if_pos c2, if_pos (.inr c2)]; exact ⟨by omega, hm⟩
    · rw [if_neg c2, if_neg (show ¬ (X = T - 1 ∨ 0 < X) by omega)]
      by_cases c3 : 0 < M
      · obtain ⟨s1, s2, _⟩ := h.small hM c3
        have := nrm_hi s1 s2
        rw [if_pos c3, if_pos c3]; omega
      · rw [if_neg c3, if_neg c3]; omega
end
end Go.Proofs.Ytaopjeobapnhbaa.nn
namespace Go.Proofs.Ytaopjeobapnhbaa.nn
open Go.RowKit

def lim (k : Nat) : Nat := if k = 16 then 65536 else if k = 32 then 4294967296 else 18446744073709551616
end Go.Proofs.Ytaopjeobapnhbaa.nn
namespace Go.Proofs.Ytaopjeobapnhbaa.nn
open Go.RowKit Go.Great

theorem hsz1 (w : World) (o : Obj) : (w.alloc o).heap.size = w.heap.size + 1 := by simp
/-- a result of a struct of three numbers: its block, of a world that calls have changed -/
structure Rs3 (w : World) (T : TypeId) (W : World) : Prop where
  blk : W.heap[w.heap.size]? = some (.cells #[.int .i64 0, .int .i64 0, .int .i64 0] T (0, 0))
  b : Below w.heap.size w W
  z : w.heap.size < W.heap.size
theorem Rs3.new (w : World) (T : TypeId) : Rs3 w T (w.alloc (.cells #[.int .i64 0, .int .i64 0, .int .i64 0] T)) :=
  ⟨heap_alloc_last _ _, (Below.refl _ _).alloc (Nat.le_refl _) _, by rw [hsz1]; omega⟩
theorem Rs3.on {w W W' : World} {T : TypeId} (h : Rs3 w T W) (hB : Below W.heap.size W W') : Rs3 w T W' :=
  ⟨(hB.block _ h.z).trans h.blk, h.b.trans (hB.mono (Nat.le_of_lt h.z)), Nat.lt_of_lt_of_le h.z hB.size⟩
theorem Rs3.all {w W : World} {T : TypeId} (h : Rs3 w T W) : W.cell? ⟨w.heap.size, 0, none⟩ = some (.int .i64 0) ∧ W.cell? ⟨w.heap.size, 1, none⟩ = some (.int .i64 0) ∧ W.cell? ⟨w.heap.size, 2, none⟩ = some (.int .i64 0) ∧ (∀ i, W.frozen? ⟨w.heap.size, i, none⟩ = false) :=
  ⟨cell_of_row _ _ 0 _ _ _ h.blk, cell_of_row _ _ 1 _ _ _ h.blk, cell_of_row _ _ 2 _ _ _ h.blk, fun i => by have := h.blk; simp [World.frozen?, this]⟩
end Go.Proofs.Ytaopjeobapnhbaa.nn
namespace Go.Proofs.Ytaopjeobapnhbaa.nn
open Go.RowKit Go.Great

def z3 : Value := .agg #[.int .i64 0, .int .i64 0, .int .i64 0]
theorem fits.facts {k : Int} {x : Nat} (h : fits k x) (hx : x < 18446744073709551616) : kOk k.toNat ∧ x < lim k.toNat := by
  obtain ⟨h1, h2⟩ := h
  unfold wOk at h1
  rcases h1 with rfl | rfl | rfl
  · exact ⟨.inl rfl, h2 (by decide)⟩
  · exact ⟨.inr (.inl rfl), h2 (by decide)⟩
  · exact ⟨.inr (.inr rfl), hx⟩
end Go.Proofs.Ytaopjeobapnhbaa.nn
namespace Go.Proofs.Ytaopjeobapnhbaa.nn
open Go.RowKit

section
variable {m a b : Nat} {n : Int}
end
theorem kOk.bt {k : Nat} (h : kOk k) : onz k = 2 * bia k + 1 := by have := h.facts; omega
end Go.Proofs.Ytaopjeobapnhbaa.nn
namespace Go.Proofs.Ytaopjeobapnhbaa.nn
open Go.RowKit

/-- the worlds behind a call's two boxed shapes -/
structure Bs2 (w : World) (k j : Nat) (W : World) : Prop where
  c0 : W.cell? ⟨w.heap.size, 0, none⟩ = some (.int .i64 (k : Int))
  c1 : W.cell? ⟨w.heap.size, 1, none⟩ = some (.int .i64 (xb k : Int))
  c2 : W.cell? ⟨w.heap.size, 2, none⟩ = some (.int .i64 (fb k : Int))
  d0 : W.cell? ⟨w.heap.size + 1, 0, none⟩ = some (.int .i64 (j : Int))
  d1 : W.cell? ⟨w.heap.size + 1, 1, none⟩ = some (.int .i64 (xb j : Int))
  d2 : W.cell? ⟨w.heap.size + 1, 2, none⟩ = some (.int .i64 (fb j : Int))
  b : Below w.heap.size w W
  z : w.heap.size + 1 < W.heap.size
theorem Bs2.new (w : World) (k j : Nat) (T : TypeId) : Bs2 w k j ((w.alloc (.cells #[.int .i64 (k : Int), .int .i64 (xb k : Int), .int .i64 (fb k : Int)] T)).alloc (.cells #[.int .i64 (j : Int), .int .i64 (xb j : Int), .int .i64 (fb j : Int)] T)) := by
  have h := Bs.new w k T
  have h2 := Bs.new (w.alloc (.cells #[.int .i64 (k : Int), .int .i64 (xb k : Int), .int .i64 (fb k : Int)] T)) j T
  have hz : (w.alloc (.cells #[.int .i64 (k : Int), .int .i64 (xb k : Int), .int .i64 (fb k : Int)] T)).heap.size = w.heap.size + 1 := by simp
  have h3 := h.on h2.b
  obtain ⟨x0, x1, x2, _, x4⟩ := h2
  rw [hz] at x0 x1 x2 x4
  exact ⟨h3.c0, h3.c1, h3.c2, x0, x1, x2, h3.b, x4⟩
theorem Bs2.on {w W W' : World} {k j : Nat} (h : Bs2 w k j W) (hB : Below W.heap.size W W') : Bs2 w k j W' := by
  have hz := h.z
  have hz1 : w.heap.size < W.heap.size := by omega
  exact ⟨(hB.cell (p := ⟨_, _, none⟩) hz1).trans h.c0, (hB.cell (p := ⟨_, _, none⟩) hz1).trans h.c1, (hB.cell (p := ⟨_, _, none⟩) hz1).trans h.c2, (hB.cell (p := ⟨_, _, none⟩) hz).trans h.d0, (hB.cell (p := ⟨_, _, none⟩) hz).trans h.d1, (hB.cell (p := ⟨_, _, none⟩) hz).trans h.d2, h.b.trans (hB.mono (by omega)), Nat.lt_of_lt_of_le hz hB.size⟩
theorem Bs2.drew {w W : World} {k j : Nat} (h : Bs2 w k j W) : Bs2 w k j W.drew := h.on (Below.drew (Below.refl _ _))
theorem Bs2.all {w W : World} {k j : Nat} (h : Bs2 w k j W) : W.cell? ⟨w.heap.size, 0, none⟩ = some (.int .i64 (k : Int)) ∧ W.cell? ⟨w.heap.size, 1, none⟩ = some (.int .i64 (xb k : Int)) ∧ W.cell? ⟨w.heap.size, 2, none⟩ = some (.int .i64 (fb k : Int)) ∧
    W.cell? ⟨w.heap.size + 1, 0, none⟩ = some (.int .i64 (j : Int)) ∧ W.cell? ⟨w.heap.size + 1, 1, none⟩ = some (.int .i64 (xb j : Int)) ∧ W.cell? ⟨w.heap.size + 1, 2, none⟩ = some (.int .i64 (fb j : Int)) ∧ Bs2 w k j W := ⟨h.c0, h.c1, h.c2, h.d0, h.d1, h.d2, h⟩
end Go.Proofs.Ytaopjeobapnhbaa.nn
namespace Go.Proofs.Ytaopjeobapnhbaa.nn

/-! order -/
section
variable {E F B T X M X' M' : Nat}
set_option maxRecDepth 100000 in
theorem Wd.val_lt (h : Wd E F B T) (hX : X < T - 1) (hM : M < 2 ^ F) : wX B T F X M * 4503599627370496 + wM T F X M < (X + 1024 - B) * 4503599627370496 := by
  have hB := h.b
  have hbt := h.bt
  have hF := h.f
  by_cases c2 : 0 < X
  · have hw := (h.wide (X := X) (by omega) hM).2
    have e1 : wX B T F X M = X + 1023 - B := by unfold wX; rw [if_neg (by omega), if_pos c2]
    rw [e1, show X + 1024 - B = X + 1023 - B + 1 by omega, Nat.succ_mul]
    exact Nat.add_lt_add_left hw _
  · obtain rfl : X = 0 := by omega
    by_cases c3 : 0 < M
    · obtain ⟨s1, s2, _⟩ := h.small hM c3
      have hw := (h.wide (X := 0) (by omega) hM).2
      have n3 := nrm_pos s1 s2
      have n4 := h.nrm_le hM c3
      have e1 : wX B T F 0 M = 1024 - B - nrm (M * 2 ^ (52 - F)) := by unfold wX; rw [if_neg (by omega), if_neg c2, if_pos c3]
      rw [e1]
      omega
    · have e1 : wX B T F 0 M = 0 := by unfold wX; rw [if_neg (by omega), if_neg c2, if_neg c3]
      have e2 : wM T F 0 M = 0 := by unfold wM; rw [if_neg (by omega), if_neg c3]
      rw [e1, e2, Nat.zero_mul, Nat.zero_add]
      exact Nat.mul_pos (by omega) (by decide)
set_option maxRecDepth 100000 in
theorem Wd.mono (h : Wd E F B T) (hX' : X' < T) (hM : M < 2 ^ F) (hM' : M' < 2 ^ F) (hi : X' = T - 1 → M' = 0) (hl : X < X' ∨ X = X' ∧ M < M') :
    wX B T F X M * 4503599627370496 + wM T F X M < wX B T F X' M' * 4503599627370496 + wM T F X' M' := by
  have hB := h.b
  have hbt := h.bt
  have hF := h.f
  have hp := Nat.two_pow_pos (52 - F)
  rcases hl with hl | ⟨rfl, hl⟩
  · have h1 := h.val_lt (X := X) (by omega) hM
    have h2 : X' + 1023 - B ≤ wX B T F X' M' := by
      unfold wX
      split
      · omega
      · rw [if_pos (by omega)]; exact Nat.le_refl _
    have h3 : (X + 1024 - B) * 4503599627370496 ≤ wX B T F X' M' * 4503599627370496 := Nat.mul_le_mul_right _ (by omega)
    exact Nat.lt_of_lt_of_le h1 (Nat.le_trans h3 (Nat.le_add_right _ _))
  · have c1 : X ≠ T - 1 := fun h => by have := hi h; omega
    have hN : M * 2 ^ (52 - F) < M' * 2 ^ (52 - F) := Nat.mul_lt_mul_of_pos_right hl hp
    by_cases c2 : 0 < X
    · have e1 : ∀ m, wX B T F X m = X + 1023 - B := fun m => by unfold wX; rw [if_neg c1, if_pos c2]
      have e2 : ∀ m, wM T F X m = m * 2 ^ (52 - F) := fun m => if_pos (.inr c2)
      rw [e1, e1, e2, e2]
      omega
    · obtain rfl : X = 0 := by omega
      have c3' : 0 < M' := by omega
      obtain ⟨s1', s2', _⟩ := h.small hM' c3'
      obtain ⟨m1', m2'⟩ := nrm_hi s1' s2'
      have n4' := h.nrm_le hM' c3'
      have e1' : wX B T F 0 M' = 1024 - B - nrm (M' * 2 ^ (52 - F)) := by unfold wX; rw [if_neg c1, if_neg c2, if_pos c3']
      have e2' : wM T F 0 M' = M' * 2 ^ (52 - F) * 2 ^ nrm (M' * 2 ^ (52 - F)) - 4503599627370496 := by unfold wM; rw [if_neg (by omega), if_pos c3']
      rw [e1', e2']
      by_cases c3 : 0 < M
      · obtain ⟨s1, s2, _⟩ := h.small hM c3
        obtain ⟨m1, m2⟩ := nrm_hi s1 s2
        have n4 := h.nrm_le hM c3
        have e1 : wX B T F 0 M = 1024 - B - nrm (M * 2 ^ (52 - F)) := by unfold wX; rw [if_neg c1, if_neg c2, if_pos c3]
        have e2 : wM T F 0 M = M * 2 ^ (52 - F) * 2 ^ nrm (M * 2 ^ (52 - F)) - 4503599627370496 := by unfold wM; rw [if_neg (by omega), if_pos c3]
        rw [e1, e2]
        obtain ⟨N, hNN⟩ : ∃ N, M * 2 ^ (52 - F) = N := ⟨_, rfl⟩
        obtain ⟨N', hNN'⟩ : ∃ N', M' * 2 ^ (52 - F) = N' := ⟨_, rfl⟩
        rw [hNN] at m1 m2 n4 hN s1 s2 ⊢
        rw [hNN'] at m1' m2' n4' hN s1' s2' ⊢
        have ht : nrm N' ≤ nrm N := by
          rcases Nat.lt_or_ge (nrm N) (nrm N') with h1 | h1
          · have h2 := (nrm_lt s1' s2').1 h1
            have h3 : N * 2 ^ nrm N < N' * 2 ^ nrm N := Nat.mul_lt_mul_of_pos_right hN (Nat.two_pow_pos _)
            omega
          · exact h1
        rcases Nat.lt_or_ge (nrm N') (nrm N) with h1 | h1
        · have h2 : (1024 - B - nrm N + 1) * 4503599627370496 ≤ (1024 - B - nrm N') * 4503599627370496 := Nat.mul_le_mul_right _ (by omega)
          rw [Nat.succ_mul] at h2
          obtain ⟨a, ha⟩ : ∃ a, (1024 - B - nrm N) * 4503599627370496 = a := ⟨_, rfl⟩
          obtain ⟨a', ha'⟩ : ∃ a', (1024 - B - nrm N') * 4503599627370496 = a' := ⟨_, rfl⟩
          rw [ha, ha'] at h2 ⊢
          clear ha ha'
          omega
        · have h2 : nrm N = nrm N' := by omega
          have h3 : N * 2 ^ nrm N < N' * 2 ^ nrm N := Nat.mul_lt_mul_of_pos_right hN (Nat.two_pow_pos _)
          rw [h2] at h3 m1 m2 ⊢
          omega
      · have e1 : wX B T F 0 M = 0 := by unfold wX; rw [if_neg c1, if_neg c2, if_neg c3]
        have e2 : wM T F 0 M = 0 := by unfold wM; rw [if_neg (by omega), if_neg c3]
        rw [e1, e2, Nat.zero_mul, Nat.zero_add]
        exact Nat.lt_of_lt_of_le (Nat.mul_pos (by omega) (by decide)) (Nat.le_add_right _ _)
end
/-! whole numbers -/
end Go.Proofs.Ytaopjeobapnhbaa.nn
namespace Go.Proofs.Ytaopjeobapnhbaa.nn

/-- m times 2^e is m' times 2^e' -/
def Sm (m : Nat) (e : Int) (m' : Nat) (e' : Int) : Prop := ∃ a b : Nat, e - (a : Int) = e' - (b : Int) ∧ m * 2 ^ a = m' * 2 ^ b
section
variable {m m' m'' : Nat} {e e' e'' : Int}
theorem Sm.refl (m : Nat) (e : Int) : Sm m e m e := ⟨0, 0, rfl, rfl⟩
theorem Sm.symm (h : Sm m e m' e') : Sm m' e' m e := by
  obtain ⟨a, b, h1, h2⟩ := h
  exact ⟨b, a, h1.symm, h2.symm⟩
theorem Sm.trans (h : Sm m e m' e') (h' : Sm m' e' m'' e'') : Sm m e m'' e'' := by
  obtain ⟨a, b, h1, h2⟩ := h
  obtain ⟨c, d, h3, h4⟩ := h'
  refine ⟨a + c, d + b, by omega, ?_⟩
  rw [Nat.pow_add, Nat.pow_add, ← Nat.mul_assoc, h2, ← Nat.mul_assoc, ← h4, Nat.mul_right_comm]
end
section
variable {k m X M : Nat} {e : Int}
end
end Go.Proofs.Ytaopjeobapnhbaa.nn
namespace Go.Proofs.Ytaopjeobapnhbaa.nn
open Go.RowKit

/-- the bits of what is infinite -/
def inf : Nat := 2047 * h52
end Go.Proofs.Ytaopjeobapnhbaa.nn
namespace Go.Proofs.Ytaopjeobapnhbaa.nn
open Go.RowKit

/-- the number that digits with an exponent are, over another -/
def rX (s : ByteArray) (z : Int) : Nat := dv (bt s) s.size * 10 ^ z.toNat
def rY (z : Int) : Nat := 10 ^ (-z).toNat
theorem rY_pos (z : Int) : 0 < rY z := Nat.pow_pos (by decide)
/-- b is the nearest -/
def RN (s : ByteArray) (z : Int) (b : Nat) : Prop := Near (rX s z * 2 ^ e74) (rY z) b
def roV (neg : Bool) (b : Nat) : Nat := if b < inf then sB neg + b else 0
def roE (b : Nat) : Nat := if b < inf then 0 else 8
end Go.Proofs.Ytaopjeobapnhbaa.nn
namespace Go.Proofs.Ytaopjeobapnhbaa.nn

/-- how many digits stand in s from place a on -/
def rn (s : ByteArray) (a : Nat) : Nat := dc (fun i => bt s (a + i)) (s.size - a)
theorem rn_le (s : ByteArray) (a : Nat) : rn s a ≤ s.size - a := (dc_facts _ _).1
/-- from place a to place b -/
def cutT (s : ByteArray) (a b : Nat) : ByteArray := s.extract a b
theorem cutT_size {s : ByteArray} {a b : Nat} (h : b ≤ s.size) : (cutT s a b).size = b - a := by
  unfold cutT
  rw [ByteArray.size_extract]
  omega
theorem bt_cutT {s : ByteArray} {a b i : Nat} (h : b ≤ s.size) (hi : i < b - a) : bt (cutT s a b) i = bt s (a + i) := by
  have h1 : i < (s.extract a b).size := by
    have := cutT_size (a := a) h
    unfold cutT at this
    omega
  have h2 : a + i < s.size := by omega
  show bt (s.extract a b) i = _
  rw [bt_at h1, bt_at h2, ByteArray.getElem_extract]
end Go.Proofs.Ytaopjeobapnhbaa.nn
namespace Go.Proofs.Ytaopjeobapnhbaa.nn
open Go.RowKit

/-- in s, at place a -/
def at_ (s : ByteArray) (a c : Nat) : Bool := decide (a < s.size ∧ bt s a = c)
/-- cutSign, in s at place a -/
def sgB (s : ByteArray) (a : Nat) : Bool := if at_ s a 43 then false else at_ s a 45
def sgA (s : ByteArray) (a : Nat) : Nat := if at_ s a 43 then a + 1 else if at_ s a 45 then a + 1 else a
end Go.Proofs.Ytaopjeobapnhbaa.nn
namespace Go.Proofs.Ytaopjeobapnhbaa.nn
open Go.RowKit

def plZ (ng : Bool) (X F : ByteArray) : Int := (if ng then -(dv (bt X) X.size : Int) else (dv (bt X) X.size : Int)) - (F.size : Int)
/-- the boxed parts -/
structure Bp (w : World) (neg : Bool) (F : ByteArray) (ng : Bool) (X : ByteArray) (W : World) : Prop where
  c2 : W.cell? ⟨w.heap.size, 2, none⟩ = some (.string F)
  c3 : W.cell? ⟨w.heap.size, 3, none⟩ = some (.bool ng)
  c4 : W.cell? ⟨w.heap.size, 4, none⟩ = some (.string X)
  b : Below w.heap.size w W
end Go.Proofs.Ytaopjeobapnhbaa.nn
namespace Go.Proofs.Ytaopjeobapnhbaa.nn
open Go.RowKit

/-! the places of a written number -/
def cA (s : ByteArray) : Nat := if at_ s 0 45 then 1 else 0
def cB (s : ByteArray) : Nat := cA s + rn s (cA s)
def cDot (s : ByteArray) : Bool := at_ s (cB s) 46
def cC (s : ByteArray) : Nat := if cDot s then cB s + 1 + rn s (cB s + 1) else cB s
def cE (s : ByteArray) : Bool := at_ s (cC s) 101 || at_ s (cC s) 69
def cS (s : ByteArray) : Nat := sgA s (cC s + 1)
def cD (s : ByteArray) : Nat := if cE s then cS s + rn s (cS s) else cC s
/-- the form is right -/
def cOk (s : ByteArray) : Bool := decide (0 < rn s (cA s)) && (!cDot s || decide (0 < rn s (cB s + 1))) && (!cE s || decide (0 < rn s (cS s))) && decide (cD s = s.size)
def cW (s : ByteArray) : ByteArray := cutT s (cA s) (cB s)
def cF (s : ByteArray) : ByteArray := if cDot s then cutT s (cB s + 1) (cC s) else ⟨#[]⟩
def cX (s : ByteArray) : ByteArray := if cE s then cutT s (cS s) (cD s) else ⟨#[]⟩
def cN (s : ByteArray) : Bool := if cE s then sgB s (cC s + 1) else false
theorem at_le {s : ByteArray} {a c : Nat} (h : at_ s a c = true) : a < s.size ∧ bt s a = c := of_decide_eq_true h
theorem cA_le (s : ByteArray) : cA s ≤ s.size := by
  unfold cA
  split
  · have := (at_le ‹_›).1; omega
  · omega
/-! the two boxes of cut: the answer's, at the call's first block, and the parts' behind it -/
def e0 : ByteArray := ⟨#[]⟩
section
variable {w W W' : World} {a b c d e : Value}
end
end Go.Proofs.Ytaopjeobapnhbaa.nn
namespace Go.Proofs.Ytaopjeobapnhbaa.nn

/-- the state behind a byte: 0 ahead of all, 1 behind -, 2 behind a 0 ahead, 3 in digits, 4 behind the point, 5 in digits behind it, 6 behind e, 7 behind e's sign, 8 in digits behind e, 9 none -/
def nst (q b : Nat) : Nat :=
  if dg b = true then (if q = 0 ∨ q = 1 then (if b = 48 then 2 else 3) else if q = 3 then 3 else if q = 4 ∨ q = 5 then 5 else if q = 6 ∨ q = 7 ∨ q = 8 then 8 else 9)
  else if b = 45 then (if q = 0 then 1 else if q = 6 then 7 else 9)
  else if b = 43 then (if q = 6 then 7 else 9)
  else if b = 46 then (if q = 2 ∨ q = 3 then 4 else 9)
  else if b = 101 ∨ b = 69 then (if q = 2 ∨ q = 3 ∨ q = 5 then 6 else 9)
  else 9
/-- the state behind n bytes -/
def nq (f : Nat → Nat) : Nat → Nat
  | 0 => 0
  | n + 1 => nst (nq f n) (f n)
/-- is a number whole here -/
def nacc (q : Nat) : Bool := decide (q = 2 ∨ q = 3 ∨ q = 5 ∨ q = 8)
/-- where a number ends, or errs, and how -/
structure NmIs (s : ByteArray) (p e : Nat) : Prop where
  le : p ≤ s.size
  go : nq (bt s) p ≠ 9
  no : p < s.size → nq (bt s) (p + 1) = 9
  er : e = if nacc (nq (bt s) p) = true then 0 else if p = s.size then 3 else 4
theorem nst_nine (b : Nat) : nst 9 b = 9 := by
  unfold nst
  simp
theorem nst_le {q b : Nat} : nst q b ≤ 9 := by
  unfold nst
  repeat' split
  all_goals omega
theorem nq_le (f : Nat → Nat) (n : Nat) : nq f n ≤ 9 := by
  cases n with
  | zero => show 0 ≤ 9; omega
  | succ n => exact nst_le
theorem nq_more {f : Nat → Nat} {n : Nat} (h : nq f n = 9) (m : Nat) : nq f (n + m) = 9 := by
  induction m with
  | zero => exact h
  | succ m ih => rw [← Nat.add_assoc, nq, ih, nst_nine]
theorem nq_less {f : Nat → Nat} {n m : Nat} (h : nq f n ≠ 9) (hm : m ≤ n) : nq f m ≠ 9 := fun g => h (by
  have := nq_more g (n - m)
  rwa [Nat.add_sub_cancel' hm] at this)
theorem nq_congr {f g : Nat → Nat} {n : Nat} (h : ∀ i, i < n → f i = g i) : nq f n = nq g n := by
  induction n with
  | zero => rfl
  | succ n ih => rw [nq, nq, ih (fun i hi => h i (by omega)), h n (by omega)]
theorem NmIs.uniq {s : ByteArray} {p e p' e' : Nat} (h : NmIs s p e) (h' : NmIs s p' e') : p = p' ∧ e = e' := by
  have hp : p = p' := by
    rcases Nat.lt_trichotomy p p' with g | g | g
    · exact absurd (h.no (Nat.lt_of_lt_of_le g h'.le)) (nq_less h'.go g)
    · exact g
    · exact absurd (h'.no (Nat.lt_of_lt_of_le g h.le)) (nq_less h.go g)
  subst hp
  exact ⟨rfl, h.er.trans h'.er.symm⟩
/-- behind n bytes the state is q -/
def At (s : ByteArray) (n q : Nat) : Prop := n ≤ s.size ∧ nq (bt s) n = q
theorem At.zero (s : ByteArray) : At s 0 0 := ⟨Nat.zero_le _, rfl⟩
theorem At.step {s : ByteArray} {n q b q' : Nat} (h : At s n q) (hn : n < s.size) (hb : bt s n = b) (e : nst q b = q') : At s (n + 1) q' := ⟨hn, by rw [nq, h.2, hb, e]⟩
theorem nst_digit {q b : Nat} (h : dg b = true) (hq : q = 3 ∨ q = 5 ∨ q = 8) : nst q b = q := by
  unfold nst
  rw [if_pos h]
  rcases hq with rfl | rfl | rfl <;> simp
/-- through digits -/
theorem At.run {s : ByteArray} {n q m : Nat} (h : At s n q) (hq : q = 3 ∨ q = 5 ∨ q = 8) (hm : n + m ≤ s.size) (hd : dgs (fun i => bt s (n + i)) m = true) : At s (n + m) q := by
  induction m with
  | zero => exact h
  | succ m ih =>
    have h1 := ih (by omega) (dgs_mono hd (Nat.le_succ m))
    have h2 := dgs_at hd (Nat.lt_succ_self m)
    exact h1.step (by omega) rfl (nst_digit (decide_eq_true h2) hq)
theorem rn_facts (s : ByteArray) (a : Nat) : dgs (fun i => bt s (a + i)) (rn s a) = true ∧ (rn s a = s.size - a ∨ dg (bt s (a + rn s a)) = false) := (dc_facts _ _).2
theorem rn_zero {s : ByteArray} {a : Nat} (ha : a < s.size) (h : rn s a = 0) : dg (bt s a) = false := by
  rcases (rn_facts s a).2 with g | g
  · omega
  · rwa [h] at g
theorem rn_pos {s : ByteArray} {a : Nat} (h : 0 < rn s a) : a < s.size ∧ dg (bt s a) = true := by
  have h1 := rn_le s a
  refine ⟨by omega, ?_⟩
  have h2 := dgs_at (rn_facts s a).1 h
  exact decide_eq_true h2
/-- at a place where a digit must come, n digits come -/
theorem At.digits {s : ByteArray} {a q q' : Nat} (h : At s a q) (hq : (q = 4 ∧ q' = 5) ∨ ((q = 6 ∨ q = 7) ∧ q' = 8)) (hn : 0 < rn s a) : At s (a + rn s a) q' := by
  have h1 := rn_le s a
  obtain ⟨h2, h3⟩ := rn_pos hn
  have hst : nst q (bt s a) = q' := by
    unfold nst
    rw [if_pos h3]
    rcases hq with ⟨rfl, rfl⟩ | ⟨rfl | rfl, rfl⟩ <;> simp
  have h4 := h.step h2 rfl hst
  have h5 := h4.run (m := rn s a - 1) (by rcases hq with ⟨_, rfl⟩ | ⟨_, rfl⟩ <;> simp) (by omega) (by
    have h6 := (rn_facts s a).1
    have : ∀ m, m + 1 ≤ rn s a → dgs (fun i => bt s (a + 1 + i)) m = true := by
      intro m
      induction m with
      | zero => intro _; rfl
      | succ m ih =>
        intro hm
        rw [dgs, ih (by omega), Bool.true_and]
        have := dgs_at h6 (show m + 1 < rn s a by omega)
        rw [show a + 1 + m = a + (m + 1) by omega]
        exact decide_eq_true this
    exact this _ (by omega))
  rwa [show a + 1 + (rn s a - 1) = a + rn s a by omega] at h5
/-- at the beginning: 0, or digits -/
theorem At.first {s : ByteArray} {a q : Nat} (h : At s a q) (hq : q = 0 ∨ q = 1) (hn : 0 < rn s a) : (bt s a = 48 → At s (a + 1) 2) ∧ (bt s a ≠ 48 → At s (a + rn s a) 3) := by
  have h1 := rn_le s a
  obtain ⟨h2, h3⟩ := rn_pos hn
  refine ⟨fun g => h.step h2 g ?_, fun g => ?_⟩
  · rcases hq with rfl | rfl <;> rfl
  · have hst : nst q (bt s a) = 3 := by
      unfold nst
      rw [if_pos h3, if_pos hq, if_neg g]
    have h4 := h.step h2 rfl hst
    have h5 := h4.run (m := rn s a - 1) (.inl rfl) (by omega) (by
      have h6 := (rn_facts s a).1
      have : ∀ m, m + 1 ≤ rn s a → dgs (fun i => bt s (a + 1 + i)) m = true := by
        intro m
        induction m with
        | zero => intro _; rfl
        | succ m ih =>
          intro hm
          rw [dgs, ih (by omega), Bool.true_and]
          have := dgs_at h6 (show m + 1 < rn s a by omega)
          rw [show a + 1 + m = a + (m + 1) by omega]
          exact decide_eq_true this
      exact this _ (by omega))
    rwa [show a + 1 + (rn s a - 1) = a + rn s a by omega] at h5
/-- where no digit comes though one must -/
theorem At.bad {s : ByteArray} {a q : Nat} (h : At s a q) (hq : q = 0 ∨ q = 1 ∨ q = 4 ∨ q = 6 ∨ q = 7) (hn : rn s a = 0) (h0 : q = 0 → a < s.size → bt s a ≠ 45) (h6 : q = 6 → a < s.size → bt s a ≠ 45 ∧ bt s a ≠ 43) : NmIs s a (if s.size ≤ a then 3 else 4) := by
  refine ⟨h.1, by rw [h.2]; omega, fun hl => ?_, ?_⟩
  · rw [nq, h.2]
    have hd := rn_zero hl hn
    have g0 := fun e => h0 e hl
    have g6 := fun e => h6 e hl
    unfold nst
    rw [hd]
    generalize bt s a = b at *
    rcases hq with rfl | rfl | rfl | rfl | rfl
    · have := g0 rfl; simp [this]
    · simp
    · simp
    · have := g6 rfl; simp [this.1, this.2]
    · simp
  · have ha := h.1
    have hq2 : nacc (nq (bt s) a) = false := by
      rw [h.2]
      rcases hq with rfl | rfl | rfl | rfl | rfl <;> rfl
    rw [hq2, if_neg (show ¬ (false = true) by decide)]
    by_cases e : a = s.size
    · rw [if_pos e, if_pos (by omega)]
    · rw [if_neg e, if_neg (by omega)]
/-- where a number ends -/
theorem At.fine {s : ByteArray} {a q : Nat} (h : At s a q) (hq : q = 2 ∨ q = 3 ∨ q = 5 ∨ q = 8) (hd : a < s.size → q ≠ 2 → dg (bt s a) = false) (hp : a < s.size → (q = 2 ∨ q = 3) → bt s a ≠ 46) (he : a < s.size → q ≠ 8 → bt s a ≠ 101 ∧ bt s a ≠ 69) : NmIs s a 0 := by
  refine ⟨h.1, by rw [h.2]; omega, fun hl => ?_, ?_⟩
  · rw [nq, h.2]
    have g1 := hd hl
    have g2 := hp hl
    have g3 := he hl
    generalize bt s a = b at *
    unfold nst
    rcases hq with rfl | rfl | rfl | rfl
    · have e2 := g2 (.inl rfl)
      obtain ⟨e3, e4⟩ := g3 (by omega)
      split
      · simp
      · simp [e3, e4]
    · have e1 := g1 (by omega)
      have e2 := g2 (.inr rfl)
      obtain ⟨e3, e4⟩ := g3 (by omega)
      rw [e1]
      simp [e2, e3, e4]
    · have e1 := g1 (by omega)
      obtain ⟨e3, e4⟩ := g3 (by omega)
      rw [e1]
      simp [e3, e4]
    · have e1 := g1 (by omega)
      rw [e1]
      simp
  · rw [h.2]
    rcases hq with rfl | rfl | rfl | rfl <;> rfl
theorem bt_left {a b : ByteArray} {i : Nat} (h : i < a.size) : bt (a ++ b) i = bt a i := by
  rw [bt_at (show i < (a ++ b).size by rw [ByteArray.size_append]; omega), bt_at h, ByteArray.getElem_append_left h]
/-- whatever stands behind the byte that errs -/
theorem NmIs.more {s : ByteArray} {p : Nat} (h : NmIs s p 4) (T : ByteArray) : NmIs (cutT s 0 (p + 1) ++ T) p 4 ∧ p < s.size := by
  have he := h.er
  have hna : nacc (nq (bt s) p) = false := by
    cases hh : nacc (nq (bt s) p) with
    | false => rfl
    | true => rw [hh, if_pos rfl] at he; omega
  rw [hna, if_neg (by decide)] at he
  have hp : p < s.size := by
    have := h.le
    split at he <;> omega
  have hz : (cutT s 0 (p + 1)).size = p + 1 := by rw [cutT_size (by omega)]; omega
  have hz2 : (cutT s 0 (p + 1) ++ T).size = p + 1 + T.size := by rw [ByteArray.size_append, hz]
  have hc : ∀ k, k ≤ p + 1 → nq (bt (cutT s 0 (p + 1) ++ T)) k = nq (bt s) k := fun k hk => nq_congr fun i hi => by
    rw [bt_left (by omega), bt_cutT (by omega) (by omega), Nat.zero_add]
  refine ⟨⟨by omega, by rw [hc p (by omega)]; exact h.go, fun _ => by rw [hc (p + 1) (by omega)]; exact h.no hp, ?_⟩, hp⟩
  rw [hc p (by omega), hna, if_neg (by decide), if_neg (by omega)]
end Go.Proofs.Ytaopjeobapnhbaa.nn
namespace Go.Proofs.Ytaopjeobapnhbaa.nn

/-- where a number ends -/
def nmr (f : Nat → Nat) : Nat → Nat
  | 0 => 0
  | n + 1 => if nq f (n + 1) ≠ 9 then n + 1 else nmr f n
theorem nmr_le (f : Nat → Nat) (n : Nat) : nmr f n ≤ n := by
  induction n with
  | zero => exact Nat.le_refl _
  | succ n ih => rw [nmr]; split <;> omega
theorem nmr_go (f : Nat → Nat) (n : Nat) : nq f (nmr f n) ≠ 9 := by
  induction n with
  | zero => show (0 : Nat) ≠ 9; decide
  | succ n ih => rw [nmr]; split <;> assumption
theorem nmr_no (f : Nat → Nat) (n : Nat) (h : nmr f n < n) : nq f (nmr f n + 1) = 9 := by
  induction n with
  | zero => omega
  | succ n ih =>
    rw [nmr] at h ⊢
    split at h
    · omega
    · rename_i h1
      rw [if_neg h1]
      by_cases e : nmr f n = n
      · rw [e]; exact Classical.byContradiction h1
      · exact ih (by have := nmr_le f n; omega)
def nmp (s : ByteArray) : Nat := nmr (bt s) s.size
def nme (s : ByteArray) : Nat := if nacc (nq (bt s) (nmp s)) = true then 0 else if nmp s = s.size then 3 else 4
theorem nm_is (s : ByteArray) : NmIs s (nmp s) (nme s) := ⟨nmr_le _ _, nmr_go _ _, nmr_no _ _, rfl⟩
theorem nm_of {s : ByteArray} {p e : Nat} (h : NmIs s p e) : p = nmp s ∧ e = nme s := h.uniq (nm_is s)
theorem nme_vals (s : ByteArray) : nme s = 0 ∨ nme s = 3 ∨ nme s = 4 := by
  unfold nme
  split
  · exact .inl rfl
  · split
    · exact .inr (.inl rfl)
    · exact .inr (.inr rfl)
theorem nmp_pos {s : ByteArray} (h : nme s = 0) : 0 < nmp s := by
  rcases Nat.eq_zero_or_pos (nmp s) with h0 | h0
  · unfold nme at h
    rw [h0] at h
    have h2 : ¬ nacc (nq (bt s) 0) = true := by show ¬ nacc 0 = true; decide
    rw [if_neg h2] at h
    split at h <;> cases h
  · exact h0

/-- the bytes of a sign or a word -/
def wd (c : Nat) : ByteArray := if c = 110 then ⟨#[110, 117, 108, 108]⟩ else if c = 116 then ⟨#[116, 114, 117, 101]⟩ else if c = 102 then ⟨#[102, 97, 108, 115, 101]⟩ else ⟨#[UInt8.ofNat c]⟩
def isW (c : Nat) : Bool := decide (c = 110 ∨ c = 116 ∨ c = 102 ∨ c = 91 ∨ c = 93 ∨ c = 123 ∨ c = 125 ∨ c = 58 ∨ c = 44)
theorem wd_size (c : Nat) : 1 ≤ (wd c).size ∧ (wd c).size ≤ 5 := by
  unfold wd
  repeat' split
  all_goals first | exact ⟨by decide, by decide⟩ | exact ⟨(show 1 ≤ 1 by decide), (show 1 ≤ 5 by decide)⟩
/-- are the next m bytes those of g -/
def flR (f : Nat → Nat) (n : Nat) (g : Nat → Nat) : Nat → Nat → Rs Nat
  | 0, j => .ok 0 j
  | m + 1, j => if n ≤ j then .no n 3 else if f j = g j then flR f n g m (j + 1) else .no j 4
theorem fl_ok {f g : Nat → Nat} {n k : Nat} {u : Nat} : ∀ {m j}, j ≤ n → flR f n g m j = .ok u k → k = j + m ∧ k ≤ n
  | 0, j, hj, h => by injection h with _ h; omega
  | m + 1, j, hj, h => by
    rw [flR] at h
    split at h
    · cases h
    · split at h
      · have := fl_ok (by omega) h; omega
      · cases h
theorem fl_no {f g : Nat → Nat} {n q e : Nat} : ∀ {m j}, j ≤ n → flR f n g m j = .no q e → (e = 3 ∨ e = 4) ∧ q ≤ n
  | 0, j, hj, h => by cases h
  | m + 1, j, hj, h => by
    rw [flR] at h
    split at h
    · injection h with h1 h2; omega
    · split at h
      · exact fl_no (by omega) h
      · injection h with h1 h2; omega
/-- the token at the beginning of a text: its kind, what it says, and its size -/
def rdR (s : ByteArray) : Rs (Nat × ByteArray) :=
  if s.size = 0 then .ok (0, ⟨#[]⟩) 0
  else if isW (bt s 0) = true then (match flR (bt s) s.size (bt (wd (bt s 0))) (wd (bt s 0)).size 0 with | .ok _ k => .ok (bt s 0, ⟨#[]⟩) k | .no q e => .no q e)
  else if bt s 0 = 34 then (match scanP (bt s) s.size 0 with | .ok L k => .ok (83, ⟨L.toArray⟩) k | .no q e => .no q e)
  else if nme s = 0 then .ok (78, s.extract 0 (nmp s)) (nmp s) else .no (nmp s) (nme s)
structure Tk where
  k : Nat
  a : Nat
  b : Nat
  t : ByteArray
def blnk (c : Nat) : Bool := decide (c = 9 ∨ c = 10 ∨ c = 13 ∨ c = 32)
def skf (f : Nat → Nat) (n : Nat) : Nat → Nat → Nat
  | 0, i => i
  | u + 1, i => if i < n ∧ blnk (f i) = true then skf f n u (i + 1) else i
/-- behind blanks -/
def sk (f : Nat → Nat) (n i : Nat) : Nat := skf f n (n - i) i
theorem skf_of {f : Nat → Nat} {n : Nat} : ∀ {u i j : Nat}, i ≤ j → j ≤ n → j - i ≤ u → (∀ m, i ≤ m → m < j → blnk (f m) = true) → (j < n → blnk (f j) = false) → skf f n u i = j
  | 0, i, j, h1, h2, h3, h4, h5 => by rw [skf]; omega
  | u + 1, i, j, h1, h2, h3, h4, h5 => by
    rw [skf]
    by_cases hij : i = j
    · subst hij
      rw [if_neg]
      rintro ⟨h6, h7⟩
      rw [h5 h6] at h7
      cases h7
    · rw [if_pos ⟨by omega, h4 i (Nat.le_refl _) (by omega)⟩]
      exact skf_of (by omega) h2 (by omega) (fun m hm hj => h4 m (by omega) hj) h5
theorem sk_of {f : Nat → Nat} {n i j : Nat} (h1 : i ≤ j) (h2 : j ≤ n) (h4 : ∀ m, i ≤ m → m < j → blnk (f m) = true) (h5 : j < n → blnk (f j) = false) : sk f n i = j := skf_of h1 h2 (by omega) h4 h5
/-- the next token from a place on -/
def nxR (s : ByteArray) (i : Nat) : Rs Tk := match rdR (s.extract (sk (bt s) s.size i) s.size) with | .ok x p => .ok ⟨x.1, sk (bt s) s.size i, sk (bt s) s.size i + p, x.2⟩ (sk (bt s) s.size i + p) | .no q e => .no (sk (bt s) s.size i + q) e
/-- all tokens from a place on, behind those of L -/
inductive Ls (s : ByteArray) : Nat → List Tk → Rs (List Tk) → Prop where
  | no {i : Nat} {L : List Tk} {q e : Nat} : nxR s i = .no q e → Ls s i L (.no q e)
  | fin {i : Nat} {L : List Tk} {t : Tk} {p : Nat} : nxR s i = .ok t p → t.k = 0 → Ls s i L (.ok L s.size)
  | more {i : Nat} {L : List Tk} {t : Tk} {p : Nat} {R : Rs (List Tk)} : nxR s i = .ok t p → t.k ≠ 0 → Ls s p (L ++ [t]) R → Ls s i L R
theorem Ls.at_no {s : ByteArray} {i : Nat} {L : List Tk} {R : Rs (List Tk)} {q e : Nat} (h : Ls s i L R) (hn : nxR s i = .no q e) : R = .no q e := by
  cases h with
  | no h1 => rw [h1] at hn; injection hn with a b; rw [a, b]
  | fin h1 _ => rw [h1] at hn; cases hn
  | more h1 _ _ => rw [h1] at hn; cases hn
theorem Ls.at_end {s : ByteArray} {i : Nat} {L : List Tk} {R : Rs (List Tk)} {t : Tk} {p : Nat} (h : Ls s i L R) (hn : nxR s i = .ok t p) (h0 : t.k = 0) : R = .ok L s.size := by
  cases h with
  | no h1 => rw [h1] at hn; cases hn
  | fin h1 _ => rfl
  | more h1 h2 _ => rw [h1] at hn; injection hn with a b; rw [a] at h2; exact absurd h0 h2
theorem Ls.at_more {s : ByteArray} {i : Nat} {L : List Tk} {R : Rs (List Tk)} {t : Tk} {p : Nat} (h : Ls s i L R) (hn : nxR s i = .ok t p) (h0 : t.k ≠ 0) : Ls s p (L ++ [t]) R := by
  cases h with
  | no h1 => rw [h1] at hn; cases hn
  | fin h1 h2 => rw [h1] at hn; injection hn with a b; rw [a] at h2; exact absurd h2 h0
  | more h1 _ h3 => rw [h1] at hn; injection hn with a b; rw [a, b] at h3; exact h3
theorem skf_le {f : Nat → Nat} {n : Nat} : ∀ {u i : Nat}, i ≤ n → i ≤ skf f n u i ∧ skf f n u i ≤ n
  | 0, i, h => ⟨Nat.le_refl _, h⟩
  | u + 1, i, h => by
    rw [skf]
    split
    · have := skf_le (f := f) (u := u) (show i + 1 ≤ n by omega); omega
    · omega
theorem sk_le {f : Nat → Nat} {n i : Nat} (h : i ≤ n) : i ≤ sk f n i ∧ sk f n i ≤ n := skf_le h
theorem rd_ok {s : ByteArray} {x : Nat × ByteArray} {p : Nat} (h : rdR s = .ok x p) : p ≤ s.size ∧ (x.1 ≠ 0 → 0 < p) ∧ (x.1 = 0 → s.size = 0 ∧ p = 0) ∧ x.1 < 256 := by
  unfold rdR at h
  split at h
  · injection h with h1 h2
    subst h1 h2
    exact ⟨Nat.zero_le _, fun h => absurd rfl h, fun _ => ⟨by assumption, rfl⟩, by decide⟩
  · split at h
    · rename_i h0 hw
      split at h
      · rename_i u k hf
        injection h with h1 h2
        subst h1 h2
        have := fl_ok (Nat.zero_le _) hf
        have hz := wd_size (bt s 0)
        have hb := bt_lt s 0
        have hk : bt s 0 ≠ 0 := fun hk => by rw [hk] at hw; exact absurd hw (by decide)
        exact ⟨by omega, fun _ => by omega, fun h => absurd h hk, hb⟩
      · cases h
    · split at h
      · split at h
        · rename_i L k hf
          injection h with h1 h2
          subst h1 h2
          have := scan_right (bt_lt s) hf
          exact ⟨by omega, fun _ => by omega, fun h => absurd (show (83 : Nat) = 0 from h) (by decide), (show (83 : Nat) < 256 by decide)⟩
        · cases h
      · split at h
        · rename_i hz
          injection h with h1 h2
          subst h1 h2
          have := nmp_pos hz
          exact ⟨nmr_le _ _, fun _ => this, fun h => absurd (show (78 : Nat) = 0 from h) (by decide), (show (78 : Nat) < 256 by decide)⟩
        · cases h
theorem nx_ok {s : ByteArray} {i p : Nat} {t : Tk} (hi : i ≤ s.size) (h : nxR s i = .ok t p) : i ≤ t.a ∧ t.b = p ∧ t.a ≤ p ∧ p ≤ s.size ∧ (t.k ≠ 0 → t.a < p) ∧ (t.k = 0 → t.a = s.size ∧ p = s.size) ∧ t.k < 256 := by
  unfold nxR at h
  obtain ⟨h1, h2⟩ := sk_le (f := bt s) hi
  generalize sk (bt s) s.size i = j at h h1 h2
  have hz : (s.extract j s.size).size = s.size - j := by rw [ByteArray.size_extract]; omega
  split at h
  · rename_i x k hx
    injection h with h3 h4
    subst h3 h4
    have := rd_ok hx
    rw [hz] at this
    exact ⟨h1, rfl, Nat.le_add_right _ _, by omega, fun g => by have := this.2.1 g; simp only; omega, fun g => by have := this.2.2.1 g; simp only; omega, this.2.2.2⟩
  · cases h
theorem Ls.ex (s : ByteArray) : ∀ (d i : Nat) (L : List Tk), i ≤ s.size → s.size - i ≤ d → ∃ R, Ls s i L R
  | d, i, L, hi, hd => by
    cases h : nxR s i with
    | no q e => exact ⟨_, .no h⟩
    | ok t p =>
      have hn := nx_ok hi h
      by_cases h0 : t.k = 0
      · exact ⟨_, .fin h h0⟩
      · have := hn.2.2.2.2.1 h0
        match d, hd with
        | 0, hd => omega
        | d + 1, hd =>
          obtain ⟨R, hR⟩ := Ls.ex s d p (L ++ [t]) hn.2.2.2.1 (by omega)
          exact ⟨R, .more h h0 hR⟩
end Go.Proofs.Ytaopjeobapnhbaa.nn
namespace Go.Proofs.Ytaopjeobapnhbaa.nn
open Go.RowKit

theorem pl_cases (c : Nat) : (c = 34 ∧ pl c = 34) ∨ (c = 92 ∧ pl c = 92) ∨ (c = 47 ∧ pl c = 47) ∨ (c = 98 ∧ pl c = 8) ∨ (c = 102 ∧ pl c = 12) ∨ (c = 110 ∧ pl c = 10) ∨ (c = 114 ∧ pl c = 13) ∨ (c = 116 ∧ pl c = 9) ∨
    ((c ≠ 34 ∧ c ≠ 92 ∧ c ≠ 47 ∧ c ≠ 98 ∧ c ≠ 102 ∧ c ≠ 110 ∧ c ≠ 114 ∧ c ≠ 116) ∧ pl c = 0) := by
  by_cases h1 : c = 34
  · subst h1; exact (.inl ⟨rfl, rfl⟩)
  by_cases h2 : c = 92
  · subst h2; exact (.inr (.inl ⟨rfl, rfl⟩))
  by_cases h3 : c = 47
  · subst h3; exact (.inr (.inr (.inl ⟨rfl, rfl⟩)))
  by_cases h4 : c = 98
  · subst h4; exact (.inr (.inr (.inr (.inl ⟨rfl, rfl⟩))))
  by_cases h5 : c = 102
  · subst h5; exact (.inr (.inr (.inr (.inr (.inl ⟨rfl, rfl⟩)))))
  by_cases h6 : c = 110
  · subst h6; exact (.inr (.inr (.inr (.inr (.inr (.inl ⟨rfl, rfl⟩))))))
  by_cases h7 : c = 114
  · subst h7; exact (.inr (.inr (.inr (.inr (.inr (.inr (.inl ⟨rfl, rfl⟩)))))))
  by_cases h8 : c = 116
  · subst h8; exact (.inr (.inr (.inr (.inr (.inr (.inr (.inr (.inl ⟨rfl, rfl⟩))))))))
  exact (.inr (.inr (.inr (.inr (.inr (.inr (.inr (.inr ⟨⟨h1, h2, h3, h4, h5, h6, h7, h8⟩, by simp [pl, h1, h2, h3, h4, h5, h6, h7, h8]⟩))))))))
theorem ne_u8 {c k : Nat} (h : c ≠ k) : ((c : Int) == (k : Int)) = false := by simp; omega

set_option maxRecDepth 100000 in
theorem plain_any (c : Nat) (w : World) (hc : c < 256) :
    Calls Try.prog 40 #[.int .u8 (c : Int)] w fun e w' => e = .returned (.int .u8 (pl c : Int)) ∧ w = w' := by
  rcases pl_cases c with ⟨rfl, e⟩ | ⟨rfl, e⟩ | ⟨rfl, e⟩ | ⟨rfl, e⟩ | ⟨rfl, e⟩ | ⟨rfl, e⟩ | ⟨rfl, e⟩ | ⟨rfl, e⟩ | ⟨⟨h1, h2, h3, h4, h5, h6, h7, h8⟩, e⟩
  all_goals
    rw [e]
    clear e
    try
      have q1 := ne_u8 h1
      have q2 := ne_u8 h2
      have q3 := ne_u8 h3
      have q4 := ne_u8 h4
      have q5 := ne_u8 h5
      have q6 := ne_u8 h6
      have q7 := ne_u8 h7
      have q8 := ne_u8 h8
      clear h1 h2 h3 h4 h5 h6 h7 h8
    go_enter Try.func40, Try.ntmps40
    go_wp2
    go_ret
    exact ⟨rfl, rfl⟩

/-- a digit of base 16, or -1 -/
def dg16 (c : Nat) : Int := match hx c with | some d => (d : Int) | none => -1
theorem hx_cases (c : Nat) : (48 ≤ c ∧ c ≤ 57 ∧ hx c = some (c - 48)) ∨ (97 ≤ c ∧ c ≤ 102 ∧ hx c = some (c - 87)) ∨ (65 ≤ c ∧ c ≤ 70 ∧ hx c = some (c - 55)) ∨ ((c < 48 ∨ 57 < c ∧ c < 65 ∨ 70 < c ∧ c < 97 ∨ 102 < c) ∧ hx c = none) := by
  unfold hx
  by_cases h1 : 48 ≤ c ∧ c ≤ 57
  · rw [if_pos h1]; exact .inl ⟨h1.1, h1.2, rfl⟩
  · rw [if_neg h1]
    by_cases h2 : 97 ≤ c ∧ c ≤ 102
    · rw [if_pos h2]; exact .inr (.inl ⟨h2.1, h2.2, rfl⟩)
    · rw [if_neg h2]
      by_cases h3 : 65 ≤ c ∧ c ≤ 70
      · rw [if_pos h3]; exact .inr (.inr (.inl ⟨h3.1, h3.2, rfl⟩))
      · rw [if_neg h3]; exact .inr (.inr (.inr ⟨by omega, rfl⟩))
theorem hx_lt {c d : Nat} (h : hx c = some d) : d < 16 := by
  rcases hx_cases c with ⟨_, _, e⟩ | ⟨_, _, e⟩ | ⟨_, _, e⟩ | ⟨_, e⟩
  all_goals
    rw [e] at h
    first | (injection h with h; omega) | cases h
theorem ret_dg {a b : Int} (h : a = b) : Ending.returned (.int .i64 a) = .returned (.int .i64 b) := by rw [h]
set_option maxRecDepth 100000 in
theorem digit_any (c : Nat) (w : World) (hc : c < 256) :
    Calls Try.prog 50 #[.int .u8 (c : Int)] w fun e w' => e = .returned (.int .i64 (dg16 c)) ∧ w = w' := by
  rcases hx_cases c with ⟨h1, h2, e⟩ | ⟨h1, h2, e⟩ | ⟨h1, h2, e⟩ | ⟨h, e⟩
  · have hd : dg16 c = (c : Int) - 48 := by unfold dg16; rw [e]; dsimp only; omega
    rw [hd]
    clear e hd
    go_enter Try.func50, Try.ntmps50
    go_wp2
    go_ret
    exact ⟨rfl, rfl⟩
  · have hd : dg16 c = (c : Int) - 87 := by unfold dg16; rw [e]; dsimp only; omega
    rw [hd]
    clear e hd
    go_enter Try.func50, Try.ntmps50
    go_wp2
    go_ret
    exact ⟨ret_dg (by omega), rfl⟩
  · have hd : dg16 c = (c : Int) - 55 := by unfold dg16; rw [e]; dsimp only; omega
    rw [hd]
    clear e hd
    go_enter Try.func50, Try.ntmps50
    go_wp2
    go_ret
    exact ⟨ret_dg (by omega), rfl⟩
  · have hd : dg16 c = -1 := by unfold dg16; rw [e]
    rw [hd]
    clear e hd
    rcases h with h | ⟨h, h'⟩ | ⟨h, h'⟩ | h
    all_goals
      go_enter Try.func50, Try.ntmps50
      go_wp2
      go_ret
      exact ⟨rfl, rfl⟩
end Go.Proofs.Ytaopjeobapnhbaa.nn
namespace Go.Proofs.Ytaopjeobapnhbaa.nn
open Go.RowKit

/-- what a reader of a number answers, as three numbers -/
def rsV (r : Rs Nat) : Nat := match r with | .ok a _ => a | .no _ _ => 0
def rsK {α : Type} (r : Rs α) : Nat := match r with | .ok _ k => k | .no q _ => q
def rsE {α : Type} (r : Rs α) : Nat := match r with | .ok _ _ => 0 | .no _ e => e

/-- so many digits more, behind i digits that are u -/
def frs (low : Bool) : Nat → Nat → Nat → Prs Nat
  | 0, _, u => ret u
  | k + 1, i, u => (one (fd low i u)).bind fun v => frs low k (i + 1) v
theorem frs_four (low : Bool) (f : Nat → Nat) (n i : Nat) : four low f n i = frs low 4 0 0 f n i := by
  have e : ∀ (p : Prs Nat), p.bind (fun v => ret v) = p := fun p => by
    funext f n i
    unfold Prs.bind
    cases p f n i <;> rfl
  unfold four
  simp only [frs]
  rw [show (fun x => (one (fd low 3 x)).bind fun v => ret v) = fun x => one (fd low 3 x) from funext fun x => e _]
theorem frs_short {low : Bool} {f : Nat → Nat} {n i k u at_ : Nat} (h : n ≤ at_) : frs low (k + 1) i u f n at_ = .no n 3 := by
  show Prs.bind _ _ f n at_ = _
  exact bind_no (by unfold one; rw [if_pos h])
theorem frs_bad {low : Bool} {f : Nat → Nat} {n i k u at_ : Nat} (h : at_ < n) (hd : fd low i u (f at_) = none) : frs low (k + 1) i u f n at_ = .no at_ 4 := by
  show Prs.bind _ _ f n at_ = _
  exact bind_no (by unfold one; rw [if_neg (by omega), hd])
theorem frs_step {low : Bool} {f : Nat → Nat} {n i k u v at_ : Nat} (h : at_ < n) (hd : fd low i u (f at_) = some v) : frs low (k + 1) i u f n at_ = frs low k (i + 1) v f n (at_ + 1) := by
  show Prs.bind _ _ f n at_ = _
  exact bind_ok (by unfold one; rw [if_neg (by omega), hd])
theorem fbad_cases (low : Bool) (i u d : Nat) : (low = true ∧ i = 0 ∧ d = 13 ∧ fbad low i u d = false) ∨ (low = true ∧ i = 0 ∧ d ≠ 13 ∧ fbad low i u d = true) ∨ (low = true ∧ i = 1 ∧ d < 12 ∧ fbad low i u d = true) ∨
    (low = true ∧ i = 1 ∧ 12 ≤ d ∧ fbad low i u d = false) ∨ (low = true ∧ 2 ≤ i ∧ fbad low i u d = false) ∨ (low = false ∧ i = 1 ∧ u = 13 ∧ 12 ≤ d ∧ fbad low i u d = true) ∨
    (low = false ∧ i = 1 ∧ u = 13 ∧ d < 12 ∧ fbad low i u d = false) ∨ (low = false ∧ i = 1 ∧ u ≠ 13 ∧ fbad low i u d = false) ∨ (low = false ∧ i ≠ 1 ∧ fbad low i u d = false) := by
  cases low
  · by_cases h1 : i = 1
    · subst h1
      by_cases h2 : u = 13
      · subst h2
        by_cases h3 : 12 ≤ d
        · simp [fbad, h3]
        · simp [fbad, h3]; omega
      · simp [fbad, h2]
    · simp [fbad, h1]
  · by_cases h0 : i = 0
    · subst h0
      by_cases h2 : d = 13
      · simp [fbad, h2]
      · simp [fbad, h2]
    · by_cases h1 : i = 1
      · subst h1
        by_cases h3 : d < 12
        · simp [fbad, h3]
        · simp [fbad, h3]; omega
      · have : 2 ≤ i := by omega
        simp [fbad, h0, h1, this]
theorem fd_none {low : Bool} {i u c : Nat} (h : hx c = none) : fd low i u c = none := by unfold fd; rw [h]
theorem fd_bad {low : Bool} {i u c d : Nat} (h : hx c = some d) (hb : fbad low i u d = true) : fd low i u c = none := by unfold fd; rw [h]; simp [hb]
theorem fd_some {low : Bool} {i u c d : Nat} (h : hx c = some d) (hb : fbad low i u d = false) : fd low i u c = some (16 * u + d) := by unfold fd; rw [h]; simp [hb]
set_option maxRecDepth 100000 in
set_option maxHeartbeats 1000000 in
theorem rfour_any (s : ByteArray) (at_ : Nat) (low : Bool) (w : World) (hs : s.size ≤ 4611686018427387904) (hat : at_ ≤ s.size) :
    Calls Try.prog 41 #[.string s, .int .i64 (at_ : Int), .bool low] w fun e w' => e = .returned (.tuple #[.int .i64 (rsV (four low (bt s) s.size at_) : Int), .int .i64 (rsK (four low (bt s) s.size at_) : Int), .int .i64 (rsE (four low (bt s) s.size at_) : Int)]) ∧ w = w' := by
  rw [frs_four]
  obtain ⟨R, hR⟩ : ∃ R, frs low 4 0 0 (bt s) s.size at_ = R := ⟨_, rfl⟩
  have HR := Lib.hid hR
  rw [hR]
  clear hR
  go_enter Try.func41, Try.ntmps41
  go_wp2
  go_loop [9, 10] (fun s9 s10 => ∃ i u k : Nat, i + k = 4 ∧ u < 16 ^ i ∧ s9 = .int .i64 (u : Int) ∧ s10 = .int .i64 (i : Int) ∧ Hid (frs low k i u (bt s) s.size (at_ + i) = R)) (fun _ s10 => 4 - (intOf s10).toNat)
  case atStart => exact ⟨0, 0, 4, rfl, by decide, rfl, rfl, HR⟩
  case round =>
    obtain ⟨i, u, k, hik, hu, rfl, rfl, hF⟩ := hrel
    have hu4 : u < 65536 := Nat.lt_of_lt_of_le hu (by
      have : 16 ^ i ≤ 16 ^ 4 := Nat.pow_le_pow_right (by decide) (by omega)
      omega)
    by_cases hlt : i < 4
    · obtain ⟨k, rfl⟩ : ∃ j, k = j + 1 := ⟨k - 1, by omega⟩
      have hk : i + 1 + k = 4 := by omega
      clear hik
      by_cases hin : at_ + i < s.size
      · have hbx := bt_at hin
        have hC := fun wz => digit_any (bt s (at_ + i)) wz (bt_lt s _)
        rw [hbx] at hC
        obtain ⟨c, hc⟩ : ∃ c, bt s (at_ + i) = c := ⟨_, rfl⟩
        rw [← hbx, hc] at hC
        have HBX := Lib.hid hbx
        have HCC := Lib.hid hc
        cases hh : hx c with
        | none =>
          have hd : dg16 c = -1 := by unfold dg16; rw [hh]
          rw [hd, ← hc, hbx] at hC
          have HC := Lib.hid hC
          have hF2 := hF.out
          rw [frs_bad hin (by rw [hc]; exact fd_none hh)] at hF2
          have HF := Lib.hid hF2
          clear hC hbx hc hd hh hF2 hu hF
          cases low
          all_goals
            go_wp2_with fail
            refine (HC.out _).mono ?_
            rintro e w1 ⟨rfl, rfl⟩
            go_wp2_with fail
            exact bodyPost_ret (v := .tuple #[.int .i64 0, .int .i64 ((at_ : Int) + (i : Int)), .int .i64 4]) (by simp [results, Try.results41, go_sem]) rfl ⟨by rw [← HF.out]; rfl, rfl⟩
        | some d =>
          have hd : dg16 c = (d : Int) := by unfold dg16; rw [hh]
          have hd16 := hx_lt hh
          rw [hd, ← hc, hbx] at hC
          have HC := Lib.hid hC
          have hpow : 16 * u + d < 16 ^ (i + 1) := by rw [Nat.pow_succ]; omega
          have HP := Lib.hid hpow
          have HY : Hid (fbad low i u d = true → frs low (k + 1) i u (bt s) s.size (at_ + i) = .no (at_ + i) 4) := Lib.hid fun hb => frs_bad hin (by rw [hc]; exact fd_bad hh hb)
          have HN : Hid (fbad low i u d = false → frs low (k + 1) i u (bt s) s.size (at_ + i) = frs low k (i + 1) (16 * u + d) (bt s) s.size (at_ + (i + 1))) := Lib.hid fun hb => by rw [frs_step hin (by rw [hc]; exact fd_some hh hb), Nat.add_assoc]
          clear hC hbx hc hd hh hu hpow
          rcases fbad_cases low i u d with ⟨rfl, rfl, h1, hb⟩ | ⟨rfl, rfl, h1, hb⟩ | ⟨rfl, rfl, h1, hb⟩ | ⟨rfl, rfl, h1, hb⟩ | ⟨rfl, h1, hb⟩ | ⟨rfl, rfl, h1, h2, hb⟩ | ⟨rfl, rfl, h1, h2, hb⟩ | ⟨rfl, rfl, h1, hb⟩ | ⟨rfl, h1, hb⟩
          all_goals
            have HB := Lib.hid hb
            clear hb
            first | (have q1 := ne_u8 h1) | (have q1 : ((d : Int) == 13) = true := by (subst h1; rfl)) | (have q1 : ((u : Int) == 13) = true := by (subst h1; rfl)) | (have q1 : ((i : Int) == 0) = false ∧ ((i : Int) == 1) = false := ⟨by simp; omega, by simp; omega⟩; obtain ⟨q1, q1'⟩ := q1) | skip
            go_wp2_with fail
            refine (HC.out _).mono ?_
            rintro e w1 ⟨rfl, rfl⟩
            go_wp2_with fail
            first
              | (refine bodyPost_ret (v := .tuple #[.int .i64 0, .int .i64 (at_ : Int), .int .i64 4]) (by simp [results, Try.results41, go_sem]) rfl ⟨?_, rfl⟩; rw [← hF.out, HY.out HB.out]; rfl)
              | (refine bodyPost_ret (v := .tuple #[.int .i64 0, .int .i64 ((at_ : Int) + 1), .int .i64 4]) (by simp [results, Try.results41, go_sem]) rfl ⟨?_, rfl⟩; rw [← hF.out, HY.out HB.out]; rfl)
              | (go_round
                 case rel => exact ⟨_, _, k, hk, HP.out, by go_num, by go_num, Lib.hid (by rw [← HN.out HB.out]; exact hF.out)⟩
                 case measure => (simp [intOf] <;> omega))
      · have hF2 := hF.out
        rw [frs_short (by omega)] at hF2
        have HF := Lib.hid hF2
        clear hF2 hF
        go_wp2_with fail
        exact bodyPost_ret (v := .tuple #[.int .i64 0, .int .i64 (s.size : Int), .int .i64 3]) (by simp [results, Try.results41, go_sem]) rfl ⟨by rw [← HF.out]; rfl, rfl⟩
    · obtain rfl : i = 4 := by omega
      obtain rfl : k = 0 := by omega
      have HF := Lib.hid hF.out
      go_wp2_with fail
      exact bodyPost_ret (v := .tuple #[.int .i64 (u : Int), .int .i64 ((at_ : Int) + 4), .int .i64 0]) (by simp [results, Try.results41, go_sem]) rfl ⟨by rw [← HF.out]; rfl, rfl⟩
end Go.Proofs.Ytaopjeobapnhbaa.nn
namespace Go.Proofs.Ytaopjeobapnhbaa.nn
open Go.RowKit

theorem uempty_of {s : ByteArray} (h : s.size = 0) : s = ⟨#[]⟩ := by
  apply ByteArray.ext
  exact Array.eq_empty_of_size_eq_zero h

theorem hd_mask' {x k : Nat} (hx : x < 256) (h2 : 2 ≤ k) (h4 : k ≤ 4) : bits .and .i64 (x : Int) (255 / 2 ^ (k + 1)) = ((x % 2 ^ (7 - k) : Nat) : Int) := by
  match k, h2, h4 with
  | 2, _, _ => exact (i64_and_nat x 31 (by omega) (by decide)).trans (by rw [and_mask x 5])
  | 3, _, _ => exact (i64_and_nat x 15 (by omega) (by decide)).trans (by rw [and_mask x 4])
  | 4, _, _ => exact (i64_and_nat x 7 (by omega) (by decide)).trans (by rw [and_mask x 3])
theorem nonempty {s : ByteArray} (h : 0 < s.size) : s.toList.isEmpty = false := by
  have e : s.toList = s.data.toList := ByteArray.toList_eq s
  rw [e, List.isEmpty_eq_false_iff]
  intro h2
  have : s.data.toList.length = 0 := by rw [h2]; rfl
  have h3 : s.size = s.data.toList.length := rfl
  omega

set_option maxRecDepth 100000 in
set_option maxHeartbeats 1000000 in
theorem rpoint_any (s : ByteArray) (w : World) (hs : s.size ≤ maxLen) :
    Calls Try.prog 28 #[.string s] w fun r w' => r = .returned (.tuple #[.int .i64 (ptV (bt s) s.size : Int), .int .i64 (ptK (bt s) s.size : Int)]) ∧ Below w.heap.size w w' := by
  unfold maxLen at hs
  by_cases h0 : s.size = 0
  · have hA := pok_no (f := bt s) (n := s.size) (.inl h0)
    rw [hA.1, hA.2]
    clear hA
    obtain rfl := uempty_of h0
    clear h0
    go_enter Try.func28, Try.ntmps28
    go_wp2
    go_ret2
    exact ⟨rfl, Below.refl _ _⟩
  · have hC := fun wz => need_any (bt s 0) wz (bt_lt s 0)
    have hb0 : bt s 0 = (s[0]'(by omega)).toNat := bt_at (by omega)
    have hk5 := nd_lt (bt s 0)
    have hx := bt_lt s 0
    obtain ⟨k, hk⟩ : ∃ k, nd (bt s 0) = k := ⟨_, rfl⟩
    rw [hk] at hC hk5
    have HK := Lib.hid hk
    rw [hb0] at hC
    have HC := Lib.hid hC
    have h0' : 0 < s.size := by omega
    have hne : s.toList.isEmpty = false := nonempty h0'
    by_cases hbad : k = 0 ∨ s.size < k
    · have hA := pok_no (f := bt s) (n := s.size) (by rw [hk]; rcases hbad with h | h; exact .inr (.inl h); exact .inr (.inr (.inl h)))
      rw [hA.1, hA.2]
      by_cases hk0 : k = 0
      · subst hk0
        clear hA hbad hC hb0 hk hx hk5
        go_enter Try.func28, Try.ntmps28
        go_wp2_with fail
        refine (HC.out _).mono ?_
        rintro r w1 ⟨rfl, rfl⟩
        go_wp2_with fail
        go_ret2
        exact ⟨rfl, Below.refl _ _⟩
      · have hb' : s.size < k := by omega
        have q1 : ((k : Int) == 0) = false := by simp; omega
        clear hA hbad hC hb0 hk hx
        go_enter Try.func28, Try.ntmps28
        go_wp2_with fail
        refine (HC.out _).mono ?_
        rintro r w1 ⟨rfl, rfl⟩
        go_wp2_with fail
        go_ret2
        exact ⟨rfl, Below.refl _ _⟩
    · have q1 : ((k : Int) == 0) = false := by simp; omega
      have q2 : k ≤ s.size := by omega
      have hfy := first_yes (f := bt s) (N := -1) (i := 0) rfl rfl (by rw [hk]; omega) (.inl (by omega))
      rw [hk] at hfy
      have HY := Lib.hid hfy
      by_cases hk1 : k = 1
      · subst hk1
        have hA := pok_yes (f := bt s) (n := s.size) (by omega) hk (by omega) q2 (aw_al hfy.1)
        have HA := Lib.hid hA
        have E1 : wrap64 ((s[0]'(by omega)).toNat : Int) = (bt s 0 : Int) := by rw [← hb0]; exact wrap64_nat (by omega)
        have HE := Lib.hid E1
        clear hA hbad hC hb0 hk hfy E1
        go_enter Try.func28, Try.ntmps28
        go_wp2_with fail
        refine (HC.out _).mono ?_
        rintro r w1 ⟨rfl, rfl⟩
        go_wp2_with fail
        go_ret2
        refine ⟨?_, Below.refl _ _⟩
        rw [HA.out.1, HA.out.2]
        exact congrArg (fun x => Ending.returned (.tuple #[.int .i64 x, .int .i64 1])) HE.out
      · have q3 : ((k : Int) == 1) = false := by simp; omega
        have E1 : wrap64 ((s[0]'(by omega)).toNat : Int) = (bt s 0 : Int) := by rw [← hb0]; exact wrap64_nat (by omega)
        have h2k : 2 ≤ k := by
          rcases nd_cases (bt s 0) with h | h | h | h | h <;> omega
        have E2 : bits .and .i64 (bt s 0 : Int) (255 / 2 ^ (k + 1)) = (pv (bt s) k 0 : Int) := by
          rw [hd_mask' hx h2k (by omega)]
          unfold pv hdv
          rw [if_neg hk1]
        have HB := Lib.hid hb0
        clear hbad hC hb0 hk hfy
        go_enter Try.func28, Try.ntmps28
        go_wp2_with fail
        refine (HC.out _).mono ?_
        rintro r w1 ⟨rfl, rfl⟩
        go_wp2_with fail
        go_quiet (fail)
        go_wp2_with fail
        have hbw := Lib.hid (drew_below (Below.refl w.heap.size w) nq)
        generalize w.drewN nq = wd at hbw ⊢
        clear E1 E2
        go_loopw [5, 6] (fun s5 s6 wr => ∃ p : Nat, 1 ≤ p ∧ p ≤ k ∧ s5 = .int .i64 (pv (bt s) k (p - 1) : Int) ∧ s6 = .int .i64 (p : Int) ∧ Hid (aw (bt s) (-1) (0 + p) = true) ∧ Hid (In (bt s) 0 p k) ∧ Hid (Below w.heap.size w wr)) (fun _ s6 _ => k - (intOf s6).toNat)
        case atStart => exact ⟨1, by omega, by omega, rfl, rfl, Lib.hid HY.out.1, Lib.hid HY.out.2, hbw⟩
        case round =>
          obtain ⟨p, hp1, hpk, rfl, rfl, haw, hin, hb⟩ := hrel
          by_cases hlt : p < k
          · have hls : p < s.size := by omega
            have hbj := bt_at hls
            have hC2 := fun wz => (may_any (bt s 0) p (bt s p) wz (bt_lt s 0) (bt_lt s _) (by omega)).mono (fun _ _ h => And.intro h.1 h.2.symm)
            by_cases hy : my (bt s 0) p (bt s p) = true
            · have hz : 0 + p = p := Nat.zero_add _
              have hy2 : my (bt s 0) p (bt s (0 + p)) = true := by rw [hz]; exact hy
              obtain ⟨z1, z2⟩ := next_yes haw.out hin.out hlt (by omega) hy2
              have Z1 := Lib.hid z1
              have Z2 := Lib.hid z2
              rw [hy, HB.out, hbj] at hC2
              have HC2 := Lib.hid hC2
              have hbl := bt_lt s p
              have hv := pv_le (bt s) k hx (j := p - 1) (by omega)
              have H3 : Hid (pv (bt s) k p = pv (bt s) k (p - 1) * 64 + bt s p % 64) := Lib.hid (by obtain ⟨j, rfl⟩ : ∃ j, p = j + 1 := ⟨p - 1, by omega⟩; rfl)
              obtain ⟨b, hbb⟩ : ∃ b, bt s p = b := ⟨_, rfl⟩
              obtain ⟨v, hvv⟩ : ∃ v, pv (bt s) k (p - 1) = v := ⟨_, rfl⟩
              rw [hbb] at hbj hbl
              rw [hvv] at hv
              have E3 : s[p].toNat = b := hbj.symm
              have hq : b % 64 < 64 := Nat.mod_lt _ (by decide)
              have E6 : bits .or .i64 ((v : Int) * 64) ((b : Int) % 64) = ((v * 64 + b % 64 : Nat) : Int) := i64_join v (b % 64) (Nat.lt_trans hv (by decide)) hq
              have E7 : wrap64 (b : Int) = (b : Int) := wrap64_nat (Nat.lt_trans hbl (by decide))
              have E4 : bits .and .i64 (b : Int) 63 = (b : Int) % 64 := i64_63 b (Nat.lt_trans hbl (by decide))
              have HV := Lib.hid (And.intro hbb hvv)
              have HE := Lib.hid (And.intro E3 (And.intro E6 (And.intro E7 E4)))
              rw [hvv]
              clear hbj hbb hvv z1 z2 hy hy2 hC2 hz E3 E4 E6 E7
              go_wp2_with fail
              go_quiet ((go_at_call 44; exact Calls.quiet_of_same (HC2.out _)))
              obtain ⟨E3, E6, E7, E4⟩ := HE.out
              go_wp2_with fail
              clear E3 E6 E7 E4
              go_roundw
              case rel => exact ⟨p + 1, by omega, by omega, by rw [Nat.add_sub_cancel, H3.out, HV.out.1, HV.out.2]; first | rfl | go_num, by go_num, Z1, Z2, Lib.hid (drew_below hb.out _)⟩
              case measure => simp [intOf]; omega
            · have hy' : my (bt s 0) p (bt s p) = false := by simpa using hy
              have hz : 0 + p = p := Nat.zero_add _
              have z1 := next_no (aw_al haw.out) hin.out hlt (by rw [hz]; exact hy')
              rw [hz] at z1
              have hA := pok_no (f := bt s) (n := s.size) (.inr (.inr (.inr (dead z1 (by rw [HK.out]; omega)))))
              have HA := Lib.hid hA
              rw [hy', HB.out, hbj] at hC2
              have HC2 := Lib.hid hC2
              clear z1 hy hy' hC2 hbj hA hz
              go_wp2_with fail
              go_quiet ((go_at_call 44; exact Calls.quiet_of_same (HC2.out _)))
              go_wp2_with fail
              go_ret2
              exact ⟨ret_two HA.out.2.symm HA.out.1.symm, drew_below hb.out _⟩
          · obtain rfl : p = k := by omega
            have hA := pok_yes (f := bt s) (n := s.size) (by omega) HK.out (by omega) q2 (by have := aw_al haw.out; rwa [Nat.zero_add] at this)
            have HA := Lib.hid hA
            clear hA
            go_wp2_with fail
            go_ret2
            exact ⟨ret_two HA.out.2.symm HA.out.1.symm, hb.out⟩
end Go.Proofs.Ytaopjeobapnhbaa.nn
namespace Go.Proofs.Ytaopjeobapnhbaa.nn
open Go.RowKit

def rsT (r : Rs (List UInt8)) : ByteArray := match r with | .ok L _ => ⟨L.toArray⟩ | .no _ _ => ⟨#[]⟩
/-- a reader that errs just by 3 and 4 -/
def Er {α : Type} (p : Prs α) : Prop := ∀ {f n i q e}, p f n i = .no q e → e = 3 ∨ e = 4
section
variable {α β : Type} {p : Prs α}
theorem er_one (t : Nat → Option α) : Er (one t) := by
  intro f n i q e h
  unfold one at h
  split at h
  · injection h with _ h; exact .inl h.symm
  · split at h
    · cases h
    · injection h with _ h; exact .inr h.symm
theorem er_ret (a : α) : Er (ret a) := fun h => by cases h
theorem er_bind (h : Er p) {q : α → Prs β} (hq : ∀ a, Er (q a)) : Er (p.bind q) := by
  intro f n i r e h1
  unfold Prs.bind at h1
  split at h1
  · exact hq _ h1
  · rename_i h2
    injection h1 with h3 h4
    subst h3 h4
    exact h h2
theorem er_four (low : Bool) : Er (four low) := er_bind (er_one _) fun _ => er_bind (er_one _) fun _ => er_bind (er_one _) fun _ => er_one _
theorem er_pair (u : Nat) : Er (pairP u) := er_bind (er_one _) fun _ => er_bind (er_one _) fun _ => er_bind (er_four _) fun _ => er_ret _
theorem er_u : Er uP := er_bind (er_four _) fun u => by
  split
  · exact er_ret _
  · exact er_pair u
theorem er_esc : Er escP := er_bind (er_one _) fun u => by
  split
  · exact er_u
  · exact er_ret _
end
theorem fd_lt {low : Bool} {i u c x : Nat} (h : fd low i u c = some x) : x < 16 * u + 16 := by
  unfold fd at h
  cases hh : hx c with
  | none => rw [hh] at h; cases h
  | some d =>
    rw [hh] at h
    have := hx_lt hh
    dsimp only at h
    split at h
    · cases h
    · injection h with h; omega
theorem four_lt {low : Bool} {f : Nat → Nat} {n i u k : Nat} (h : four low f n i = .ok u k) : u < 65536 ∧ k = i + 4 ∧ k ≤ n := by
  have hk := four_len h
  unfold four at h
  obtain ⟨a, j1, h1, h⟩ := bind_to h
  obtain ⟨b, j2, h2, h⟩ := bind_to h
  obtain ⟨c, j3, h3, h⟩ := bind_to h
  have e1 := one_lt h1
  have e2 := one_lt h2
  have e3 := one_lt h3
  have e4 := one_lt h
  have := fd_lt e1.2.2
  have := fd_lt e2.2.2
  have := fd_lt e3.2.2
  have := fd_lt e4.2.2
  omega
theorem enc_text (u : Nat) : (⟨(encL u).toArray⟩ : ByteArray) = encF (u : Int) := by
  unfold encL
  apply ByteArray.ext
  simp
def EscAns (R : Rs (List UInt8)) (w : World) (e : Ending) (w' : World) : Prop := e = .returned (.tuple #[.string (rsT R), .int .i64 (rsK R : Int), .int .i64 (rsE R : Int)]) ∧ Below w.heap.size w w'
theorem EscAns.ok {R : Rs (List UInt8)} {w w' : World} {L : List UInt8} {k : Nat} {T : ByteArray} {b : Int} (h : R = .ok L k) (hT : T = ⟨L.toArray⟩) (hb : b = (k : Int)) (hw : Below w.heap.size w w') : EscAns R w (.returned (.tuple #[.string T, .int .i64 b, .int .i64 0])) w' := by
  subst h hT hb
  exact ⟨rfl, hw⟩
theorem EscAns.no {R : Rs (List UInt8)} {w w' : World} {q e : Nat} {b c : Int} (h : R = .no q e) (hb : b = (q : Int)) (hc : c = (e : Int)) (hw : Below w.heap.size w w') : EscAns R w (.returned (.tuple #[.string ⟨#[]⟩, .int .i64 b, .int .i64 c])) w' := by
  subst h hb hc
  exact ⟨rfl, hw⟩

/-- the pair's second half, behind the first -/
theorem pair_short {u : Nat} {f : Nat → Nat} {n k i : Nat} (hi : i < 2) (h0 : 0 < i → f k = 92) (_ : k ≤ n) (hn : n ≤ k + i) : pairP u f n k = .no n 3 := by
  unfold pairP
  rcases (show i = 0 ∨ i = 1 by omega) with rfl | rfl
  · exact bind_no (by unfold one; rw [if_pos (by omega)])
  · by_cases hk : n ≤ k
    · exact bind_no (by unfold one; rw [if_pos (by omega)])
    · rw [bind_ok (a := 92) (k := k + 1) (by unfold one; rw [if_neg hk, h0 (by decide)]; rfl)]
      exact bind_no (by unfold one; rw [if_pos (by omega)])
theorem pair_form {u : Nat} {f : Nat → Nat} {n k i : Nat} (hi : i < 2) (h0 : 0 < i → f k = 92) (hn : k + i < n) (h : f (k + i) ≠ (if i = 0 then 92 else 117)) : pairP u f n k = .no (k + i) 4 := by
  unfold pairP
  rcases (show i = 0 ∨ i = 1 by omega) with rfl | rfl
  · exact bind_no (by unfold one is_; rw [if_neg (by omega)]; rw [Nat.add_zero, if_pos rfl] at h; simp [h])
  · rw [bind_ok (a := 92) (k := k + 1) (by unfold one; rw [if_neg (by omega), h0 (by decide)]; rfl)]
    exact bind_no (by unfold one is_; rw [if_neg (by omega)]; rw [if_neg (by decide)] at h; simp [h])
theorem pair_on {u : Nat} {f : Nat → Nat} {n k : Nat} (h0 : f k = 92) (h1 : f (k + 1) = 117) (hn : k + 1 < n) :
    pairP u f n k = (four true).bind (fun v => ret (encL (65536 + (u - 55296) * 1024 + v - 56320))) f n (k + 2) := by
  unfold pairP
  rw [bind_ok (a := 92) (k := k + 1) (by unfold one; rw [if_neg (by omega), h0]; rfl), bind_ok (a := 117) (k := k + 1 + 1) (by unfold one; rw [if_neg (by omega), h1]; rfl)]

set_option maxRecDepth 100000 in
set_option maxHeartbeats 1000000 in
theorem resc_any (s : ByteArray) (at_ : Nat) (w : World) (hs : s.size ≤ 4611686018427387904) (hat : at_ ≤ s.size) :
    Calls Try.prog 27 #[.string s, .int .i64 (at_ : Int)] w (EscAns (escP (bt s) s.size at_) w) := by
  obtain ⟨R, hR⟩ : ∃ R, escP (bt s) s.size at_ = R := ⟨_, rfl⟩
  by_cases hin : at_ < s.size
  · have hbx := bt_at hin
    by_cases hc : bt s at_ = 117
    · have hR2 : uP (bt s) s.size (at_ + 1) = R := by
        rw [← hR]
        unfold escP
        rw [bind_ok (a := 117) (k := at_ + 1) (by unfold one; rw [if_neg (by omega), hc]; rfl), if_pos rfl]
      have hC := fun wz => rfour_any s (at_ + 1) false wz hs hin
      have e1 : ((at_ + 1 : Nat) : Int) = (at_ : Int) + 1 := by omega
      rw [e1] at hC
      cases hf : four false (bt s) s.size (at_ + 1) with
      | no q e =>
        rw [hf] at hC
        have HC := Lib.hid hC
        have he := er_four false hf
        have HR : Hid (R = .no q e) := Lib.hid (by rw [← hR2]; unfold uP; exact bind_no hf)
        have q2 : ((s[at_].toNat : Int) == 117) = true := by rw [← hbx, hc]; rfl
        have q3 : ((e : Int) == 0) = false := by simp; omega
        rw [hR]
        clear hR2 hR hbx hc hf hC he e1
        go_enter Try.func27, Try.ntmps27
        go_wp2_with fail
        refine (HC.out _).mono ?_
        rintro r w1 ⟨rfl, rfl⟩
        simp only [rsV, rsK, rsE]
        go_wp2_with fail
        exact bodyPost_ret (v := .tuple #[.string ⟨#[]⟩, .int .i64 (q : Int), .int .i64 (e : Int)]) (by simp [results, Try.results27, go_sem]) rfl (EscAns.no HR.out rfl rfl (Below.refl _ _))
      | ok u k =>
        obtain ⟨hu, hk, hkn⟩ := four_lt hf
        rw [hf] at hC
        have HC := Lib.hid hC
        have q2 : ((s[at_].toNat : Int) == 117) = true := by rw [← hbx, hc]; rfl
        by_cases hpl : u < 55296 ∨ 56319 < u
        · have HR : Hid (R = .ok (encL u) k) := Lib.hid (by rw [← hR2]; unfold uP; rw [bind_ok hf, if_pos hpl]; rfl)
          rw [hR]
          clear hR2 hR hbx hc hf hC e1 hk
          rcases hpl with h | h
          all_goals
            go_enter Try.func27, Try.ntmps27
            go_wp2_with fail
            refine (HC.out _).mono ?_
            rintro r w1 ⟨rfl, rfl⟩
            simp only [rsV, rsK, rsE]
            go_wp2_with fail
            refine (renc_any (u : Int) _ (by omega) (by omega)).mono ?_
            rintro r w1 ⟨rfl, hb1⟩
            go_wp2_with fail
            exact bodyPost_ret (v := .tuple #[.string (encF (u : Int)), .int .i64 (k : Int), .int .i64 0]) (by simp [results, Try.results27, go_sem]) rfl (EscAns.ok HR.out (enc_text u).symm rfl hb1)
        · have hR3 : R = pairP u (bt s) s.size k := by rw [← hR2]; unfold uP; rw [bind_ok hf, if_neg hpl]
          have u1 : 55296 ≤ u := by omega
          have u2 : u ≤ 56319 := by omega
          have HR := Lib.hid hR3
          rw [hR]
          clear hR2 hR hbx hc hf hC e1 hpl hR3 hk
          go_enter Try.func27, Try.ntmps27
          go_wp2_with fail
          refine (HC.out _).mono ?_
          rintro r w1 ⟨rfl, rfl⟩
          simp only [rsV, rsK, rsE]
          go_wp2_with fail
          go_loopw [12] (fun s12 wr => ∃ i : Nat, i ≤ 2 ∧ s12 = .int .i64 (i : Int) ∧ Hid ((0 < i → bt s k = 92 ∧ k < s.size) ∧ (1 < i → bt s (k + 1) = 117 ∧ k + 1 < s.size)) ∧ Hid (Below w.heap.size w wr)) (fun s12 _ => 2 - (intOf s12).toNat)
          case atStart => exact ⟨0, by omega, rfl, Lib.hid ⟨fun h => by omega, fun h => by omega⟩, Lib.hid (Below.refl _ _)⟩
          case round =>
            obtain ⟨i, hi, rfl, hI, hb⟩ := hrel
            by_cases hlt : i < 2
            · by_cases hki : k + i < s.size
              · have hbk := bt_at hki
                have hw2 : i < (⟨#[92, 117]⟩ : ByteArray).size := hlt
                have hwv : (⟨#[92, 117]⟩ : ByteArray)[i].toNat = (if i = 0 then 92 else 117) := by
                  rcases (show i = 0 ∨ i = 1 by omega) with rfl | rfl <;> rfl
                by_cases hq : bt s (k + i) = (if i = 0 then 92 else 117)
                · have q4 : ((s[k + i].toNat : Int) != ((⟨#[92, 117]⟩ : ByteArray)[i].toNat : Int)) = false := by rw [hwv, ← hq, hbk]; simp
                  have hI2 : Hid ((0 < i + 1 → bt s k = 92 ∧ k < s.size) ∧ (1 < i + 1 → bt s (k + 1) = 117 ∧ k + 1 < s.size)) := Lib.hid (by
                    rcases (show i = 0 ∨ i = 1 by omega) with rfl | rfl
                    · exact ⟨fun _ => ⟨hq, hki⟩, fun h => by omega⟩
                    · exact ⟨fun _ => hI.out.1 (by decide), fun _ => ⟨hq, hki⟩⟩)
                  clear hbk hwv hq hI
                  go_wp2_with fail
                  have k1 : IntKind.i64.wrap ((k : Int) + (i : Int)) = (k : Int) + (i : Int) := IntWalk.i64_in _ (by omega)
                  have k2 : 0 ≤ (k : Int) + (i : Int) := by omega
                  have k3 : ((k : Int) + (i : Int)).toNat = k + i := by omega
                  go_quiet (fail)
                  clear k1
                  go_wp2_with fail
                  go_roundw
                  case rel => exact ⟨i + 1, by omega, by go_num, hI2, Lib.hid (drew_below hb.out _)⟩
                  case measure => simp [intOf]; omega
                · have HS : Hid (R = .no (k + i) 4) := Lib.hid (by rw [HR.out]; exact pair_form hlt (fun h => (hI.out.1 h).1) hki hq)
                  have q4 : ((s[k + i].toNat : Int) != ((⟨#[92, 117]⟩ : ByteArray)[i].toNat : Int)) = true := by rw [hwv, ← hbk]; simp; omega
                  clear hbk hwv hq hI
                  go_wp2_with fail
                  have k1 : IntKind.i64.wrap ((k : Int) + (i : Int)) = (k : Int) + (i : Int) := IntWalk.i64_in _ (by omega)
                  have k2 : 0 ≤ (k : Int) + (i : Int) := by omega
                  have k3 : ((k : Int) + (i : Int)).toNat = k + i := by omega
                  go_quiet (fail)
                  clear k1
                  go_wp2_with fail
                  exact bodyPost_ret (v := .tuple #[.string ⟨#[]⟩, .int .i64 ((k : Int) + (i : Int)), .int .i64 4]) (by simp [results, Try.results27, go_sem]) rfl (EscAns.no HS.out (by omega) rfl (drew_below hb.out _))
              · have HS : Hid (R = .no s.size 3) := Lib.hid (by rw [HR.out]; exact pair_short hlt (fun h => (hI.out.1 h).1) hkn (by omega))
                go_wp2_with fail
                exact bodyPost_ret (v := .tuple #[.string ⟨#[]⟩, .int .i64 (s.size : Int), .int .i64 3]) (by simp [results, Try.results27, go_sem]) rfl (EscAns.no HS.out rfl rfl hb.out)
            · obtain rfl : i = 2 := by omega
              obtain ⟨b0, b1⟩ := hI.out
              have hk2 := (b1 (by decide)).2
              have hp := pair_on (u := u) (b0 (by decide)).1 (b1 (by decide)).1 hk2
              rw [← HR.out] at hp
              have hC2 := fun wz => rfour_any s (k + 2) true wz hs hk2
              have e2 : ((k + 2 : Nat) : Int) = (k : Int) + 2 := by omega
              rw [e2] at hC2
              cases hf2 : four true (bt s) s.size (k + 2) with
              | no q e =>
                rw [hf2] at hC2
                have HC2 := Lib.hid hC2
                have he := er_four true hf2
                have HS : Hid (R = .no q e) := Lib.hid (by rw [hp]; exact bind_no hf2)
                have q3 : ((e : Int) == 0) = false := by simp; omega
                clear hC2 hf2 hp b0 b1 e2 he
                go_wp2_with fail
                refine (HC2.out _).mono ?_
                rintro r w2 ⟨rfl, rfl⟩
                simp only [rsV, rsK, rsE]
                go_wp2_with fail
                exact bodyPost_ret (v := .tuple #[.string ⟨#[]⟩, .int .i64 (q : Int), .int .i64 (e : Int)]) (by simp [results, Try.results27, go_sem]) rfl (EscAns.no HS.out rfl rfl hb.out)
              | ok v k2 =>
                obtain ⟨hv, hz, hkn2⟩ := four_lt hf2
                clear hz
                rw [hf2] at hC2
                have HC2 := Lib.hid hC2
                obtain ⟨x, hx⟩ : ∃ x, 65536 + (u - 55296) * 1024 + v - 56320 = x := ⟨_, rfl⟩
                have HS : Hid (R = .ok (encL x) k2) := Lib.hid (by rw [hp, ← hx]; rw [bind_ok hf2]; rfl)
                have hxi : 65536 + ((u : Int) - 55296) * 1024 + (v : Int) - 56320 = (x : Int) := by omega
                have hxb : x ≤ 2000000 := by omega
                have HX := Lib.hid hxi
                clear hC2 hf2 hp b0 b1 e2 hx hxi
                go_wp2_with fail
                refine (HC2.out _).mono ?_
                rintro r w2 ⟨rfl, rfl⟩
                simp only [rsV, rsK, rsE]
                go_wp2_with fail
                rw [HX.out]
                refine (renc_any (x : Int) _ (by omega) (by omega)).mono ?_
                rintro r w2 ⟨rfl, hb2⟩
                have hb3 := Lib.hid (hb.out.trans (hb2.mono hb.out.size))
                clear hb2
                go_wp2_with fail
                exact bodyPost_ret (v := .tuple #[.string (encF (x : Int)), .int .i64 (k2 : Int), .int .i64 0]) (by simp [results, Try.results27, go_sem]) rfl (EscAns.ok HS.out (enc_text x).symm rfl hb3.out)
    · have hR2 : R = (match escK (bt s at_) with | some x => .ok [UInt8.ofNat x] (at_ + 1) | none => .no at_ 4) := by
        rw [← hR]
        unfold escP
        cases hk : escK (bt s at_) with
        | none => exact bind_no (by unfold one; rw [if_neg (by omega), hk])
        | some x =>
          have hx : x ≠ 117 := by
            unfold escK at hk
            rw [if_neg hc] at hk
            have := pl_cases (bt s at_)
            split at hk
            · cases hk
            · injection hk with hk; omega
          rw [bind_ok (a := x) (k := at_ + 1) (by unfold one; rw [if_neg (by omega), hk]), if_neg hx]
          rfl
      unfold escK at hR2
      rw [if_neg hc] at hR2
      have hC := fun wz => plain_any (bt s at_) wz (bt_lt s _)
      obtain ⟨p, hp⟩ : ∃ p, pl (bt s at_) = p := ⟨_, rfl⟩
      have hp128 : p < 128 := by have := pl_cases (bt s at_); omega
      rw [hp] at hR2 hC
      rw [hbx] at hC
      have HC := Lib.hid hC
      have q2 : ((s[at_].toNat : Int) == 117) = false := by rw [← hbx]; exact ne_u8 hc
      rw [hR]
      by_cases hp0 : p = 0
      · subst hp0
        rw [if_pos rfl] at hR2
        have HR := Lib.hid hR2
        clear hR2 hp hR hC hc hbx
        go_enter Try.func27, Try.ntmps27
        go_wp2_with fail
        refine (HC.out _).mono ?_
        rintro e w1 ⟨rfl, rfl⟩
        go_wp2_with fail
        exact bodyPost_ret (v := .tuple #[.string ⟨#[]⟩, .int .i64 (at_ : Int), .int .i64 4]) (by simp [results, Try.results27, go_sem]) rfl (EscAns.no HR.out rfl rfl (Below.refl _ _))
      · rw [if_neg hp0] at hR2
        have HR := Lib.hid hR2
        have q3 := ne_u8 hp0
        have kc := conv_new w [(p : Int)] 1 rfl
        simp only [List.map_cons, List.map_nil] at kc
        have H := Lib.hid (fun o => (Below.refl w.heap.size w).alloc (Nat.le_refl _) o)
        clear hR2 hp hR hC hc hbx hp0
        go_enter Try.func27, Try.ntmps27
        go_wp2_with fail
        refine (HC.out _).mono ?_
        rintro e w1 ⟨rfl, rfl⟩
        go_wp2_with fail
        exact bodyPost_ret (v := .tuple #[.string (strOfNums [(p : Int)]), .int .i64 ((at_ : Int) + 1), .int .i64 0]) (by simp [results, Try.results27, go_sem]) rfl (EscAns.ok HR.out (str_of rfl) (by omega) (H.out _))
  · obtain rfl : at_ = s.size := by omega
    have hR2 : R = .no s.size 3 := by rw [← hR]; exact bind_no (by unfold one; rw [if_pos (Nat.le_refl _)])
    have HR := Lib.hid hR2
    rw [hR]
    clear hR2 hR
    go_enter Try.func27, Try.ntmps27
    go_wp2_with fail
    exact bodyPost_ret (v := .tuple #[.string ⟨#[]⟩, .int .i64 (s.size : Int), .int .i64 3]) (by simp [results, Try.results27, go_sem]) rfl (EscAns.no HR.out rfl rfl (Below.refl _ _))
end Go.Proofs.Ytaopjeobapnhbaa.nn
