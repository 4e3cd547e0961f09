/- Joined texts, what is wanted of them: Num, Mem, Write, RefAt. -/
import Derived.Below
import Derived.Laws.OwnMore
import Derived.Deep.AppendLies
import Derived.Deep.Draws
import Derived.Laws.Rows
import Derived.Deep.WholeRow
import Derived.Lib.Hide
import Derived.Deep.QuietTactic
import Derived.BigQuiet
import Derived.IntWalk
import Derived.StillTailTactics
import Derived.Deep.RegionHeld3
import Derived.Test.YthlpiaoofijfpaaProg
import Derived.WalkKit
import Derived.Test.YthlpiaoofijfpaaJa
namespace Go.Proofs.Ythlpiaoofijfpaa.nn

/-- all limbs below B -/
def Lt (B : Nat) (f : Nat → Nat) (n : Nat) : Prop := ∀ i, i < n → f i < B

theorem Lt.mono {B : Nat} {f : Nat → Nat} {n m : Nat} (h : Lt B f n) (hm : m ≤ n) : Lt B f m := fun i hi => h i (by omega)

end Go.Proofs.Ythlpiaoofijfpaa.nn
namespace Go.Proofs.Ythlpiaoofijfpaa.nn
open Go.RowKit

/-- the slice at address A reads as n integers f 0 .. f (n - 1) of kind k, in a block that is there -/
def Rd (w : World) (k : IntKind) (A : Option Addr) (n : Nat) (f : Nat → Nat) : Prop :=
  0 < n → ∃ b off, A = some ⟨b, off, none⟩ ∧ b < w.heap.size ∧ ∀ i, i < n → w.cell? ⟨b, off + i, none⟩ = some (.int k (f i : Int))

section
variable {w w' : World} {k : IntKind} {A : Option Addr} {n m : Nat} {f g : Nat → Nat}

theorem Rd.keep (h : Rd w k A n f) (hs : w.heap.size ≤ w'.heap.size) (hk : ∀ b o, b < w.heap.size → w'.cell? ⟨b, o, none⟩ = w.cell? ⟨b, o, none⟩) : Rd w' k A n f := fun hn => by
  obtain ⟨b, off, e, hb, hc⟩ := h hn
  exact ⟨b, off, e, by omega, fun i hi => (hk b _ hb).trans (hc i hi)⟩
theorem Rd.below (h : Rd w k A n f) (hb : Below w.heap.size w w') : Rd w' k A n f :=
  h.keep hb.size fun b o hlt => hb.cell (p := ⟨b, o, none⟩) hlt
theorem Rd.drew (h : Rd w k A n f) : Rd w.drew k A n f := h
theorem Rd.drewN (h : Rd w k A n f) (j : Nat) : Rd (w.drewN j) k A n f := h
theorem Rd.alloc (h : Rd w k A n f) (o : Obj) : Rd (w.alloc o) k A n f :=
  h.keep (by simp) fun _ _ hlt => World.cell?_alloc_lt w o _ hlt
theorem Rd.mono (h : Rd w k A n f) (hm : m ≤ n) : Rd w k A m f := fun h0 => by
  obtain ⟨b, off, e, hb, hc⟩ := h (by omega)
  exact ⟨b, off, e, hb, fun i hi => hc i (by omega)⟩
theorem Rd.lt {b o : Nat} (h : Rd w k A n f) (e : A = some ⟨b, o, none⟩) (h0 : 0 < n) : b < w.heap.size := by
  obtain ⟨b', o', e', hb, _⟩ := h h0
  rw [e] at e'
  injection e' with e'
  injection e' with e'
  omega
theorem Rd.none_ : Rd w k A 0 f := fun h => absurd h (by omega)

/-- the limbs as a list of values -/
def vl (k : IntKind) (f : Nat → Nat) (n : Nat) : List Value := (List.range n).map fun i => .int k (f i : Int)

theorem vl_at (k : IntKind) (f : Nat → Nat) {n i : Nat} (h : i < n) : (vl k f n)[i]? = some (.int k (f i : Int)) := by simp [vl, h]
/-- what the call owns reads as its limbs -/
theorem Rd.of_own {base : Nat} {e : TypeId} {v : Value} (h : w.ownsRow base e 1 v n (vl k f n)) : ∃ A c, v = .slice A n c ∧ n ≤ c ∧ c ≤ maxLen ∧ Rd w k A n f := by
  have hh := h
  rcases h.2 with ⟨rfl, rfl⟩ | ⟨b, cap, cur, rfl, _, hb, hc, hm, _⟩
  · exact ⟨none, 0, rfl, Nat.le_refl _, by simp [maxLen], Rd.none_⟩
  · refine ⟨_, cap, rfl, hc, hm, fun _ => ⟨b, 0, rfl, (Array.getElem?_eq_some_iff.1 hb).1, fun i hi => ?_⟩⟩
    rw [Nat.zero_add, hh.cellAt i (by omega)]
    exact vl_at k f hi

end

end Go.Proofs.Ythlpiaoofijfpaa.nn
namespace Go.Proofs.Ythlpiaoofijfpaa.nn
open Go.RowKit

/-- block g is just the cells cur of element type e, none frozen -/
def Bk (w : World) (g : Nat) (e : TypeId) (cur : Array Value) : Prop := w.heap[g]? = some (.cells cur e (0, 0))

/-- from place off on stand the limbs f -/
def Ints (cur : Array Value) (k : IntKind) (off n : Nat) (f : Nat → Nat) : Prop := ∀ i, i < n → cur[off + i]? = some (.int k (f i : Int))

/-- in block g, between off and off + n alone, something was written -/
structure Wrote (w w' : World) (g : Nat) (e : TypeId) (cur cur' : Array Value) (off n : Nat) : Prop where
  blk : Bk w' g e cur'
  size : cur'.size = cur.size
  out : ∀ i, i < off ∨ off + n ≤ i → cur'[i]? = cur[i]?
  grown : w.grownBy w' (some g)
  hsize : w'.heap.size = w.heap.size

section
variable {w w' w'' : World} {g : Nat} {e : TypeId} {cur cur' cur'' : Array Value} {off n m i : Nat} {k : IntKind} {f : Nat → Nat}

theorem Bk.lt (h : Bk w g e cur) : g < w.heap.size := (Array.getElem?_eq_some_iff.1 h).1
theorem Bk.cell (h : Bk w g e cur) (i : Nat) : w.cell? ⟨g, i, none⟩ = cur[i]? := cell_of_row w g i cur e (0, 0) h
theorem Bk.frozen (h : Bk w g e cur) (i : Nat) : w.frozen? ⟨g, i, none⟩ = false := by
  unfold Bk at h
  simp [World.frozen?, h]
theorem Bk.drewN (h : Bk w g e cur) (j : Nat) : Bk (w.drewN j) g e cur := h
theorem Bk.below {B : Nat} (h : Bk w g e cur) (hb : Below B w w') (hg : g < B) : Bk w' g e cur := (hb.block g hg).trans h
theorem Bk.grown {row : Option Nat} (h : Bk w g e cur) (hb : w.grownBy w' row) (hg : some g ≠ row) : Bk w' g e cur := (hb.block g h.lt hg).trans h

theorem Ints.mono (h : Ints cur k off n f) (hm : m ≤ n) : Ints cur k off m f := fun i hi => h i (by omega)
theorem Ints.lt (h : Ints cur k off n f) (hi : i < n) : off + i < cur.size := (Array.getElem?_eq_some_iff.1 (h i hi)).1
theorem Wrote.refl (h : Bk w g e cur) (off n : Nat) : Wrote w w g e cur cur off n :=
  ⟨h, rfl, fun _ _ => rfl, ⟨rfl, rfl, rfl, Nat.le_refl _, fun _ _ _ => rfl⟩, rfl⟩
theorem Wrote.drewN (h : Wrote w w' g e cur cur' off n) (j : Nat) : Wrote w (w'.drewN j) g e cur cur' off n :=
  ⟨h.blk, h.size, h.out, ⟨h.grown.os, h.grown.tape, h.grown.output, h.grown.size, h.grown.block⟩, h.hsize⟩
theorem Wrote.trans (h : Wrote w w' g e cur cur' off n) (h' : Wrote w' w'' g e cur' cur'' off n) : Wrote w w'' g e cur cur'' off n :=
  ⟨h'.blk, h'.size.trans h.size, fun i hi => (h'.out i hi).trans (h.out i hi),
   ⟨h'.grown.os.trans h.grown.os, h'.grown.tape.trans h.grown.tape, h'.grown.output.trans h.grown.output, Nat.le_trans h.grown.size h'.grown.size,
    fun b hb hne => (h'.grown.block b (by have := h.hsize; omega) hne).trans (h.grown.block b hb hne)⟩, h'.hsize.trans h.hsize⟩
/-- a stretch within a stretch -/
theorem Wrote.wide (h : Wrote w w' g e cur cur' off n) {off' n' : Nat} (h1 : off' ≤ off) (h2 : off + n ≤ off' + n') : Wrote w w' g e cur cur' off' n' :=
  ⟨h.blk, h.size, fun i hi => h.out i (by omega), h.grown, h.hsize⟩
end

end Go.Proofs.Ythlpiaoofijfpaa.nn
namespace Go.Proofs.Ythlpiaoofijfpaa.nn
open Go.RowKit

/-- a list of whole numbers lies in memory -/
def Ri (w : World) (A : Option Addr) (zs : List Int) : Prop := zs = [] ∨ ∃ (b off : Nat), A = some ⟨b, off, none⟩ ∧ b < w.heap.size ∧ ∀ i (h : i < zs.length), w.cell? ⟨b, off + i, none⟩ = some (.int .i64 zs[i])
theorem Ri.keep {w w' : World} {A : Option Addr} {zs : List Int} (h : Ri w A zs) {B : Nat} (hB : Below B w w') (hs : w.heap.size ≤ B) : Ri w' A zs := by
  rcases h with h | ⟨b, off, h1, h2, h3⟩
  · exact .inl h
  · exact .inr ⟨b, off, h1, Nat.lt_of_lt_of_le h2 hB.size, fun i hi => (hB.cell (p := ⟨b, off + i, none⟩) (Nat.lt_of_lt_of_le h2 hs)).trans (h3 i hi)⟩
/-- the cells of a value -/
def vc (t : VT) (C : Value) : Array Value := #[.int .i64 t.k, .bool t.g, .int .u64 (t.n : Int), .string t.s, C]
/-- two new blocks, each a value -/
structure Bx (w : World) (t : VT) (C : Value) (u : VT) (D : Value) (W : World) : Prop where
  b : Below w.heap.size w W
  r : Bk W w.heap.size 25 (vc t C)
  r2 : Bk W (w.heap.size + 1) 25 (vc u D)
theorem Bx.new (w : World) (t : VT) (C : Value) (u : VT) (D : Value) : Bx w t C u D ((w.alloc (.cells (vc t C) 25)).alloc (.cells (vc u D) 25)) := by
  have hz : (w.alloc (.cells (vc t C) 25)).heap.size = w.heap.size + 1 := by simp
  refine ⟨((Below.refl _ _).alloc (Nat.le_refl _) _).alloc (by simp) _, ?_, ?_⟩
  · exact (Below.heap_alloc _ _ _ (by simp)).trans (heap_alloc_last _ _)
  · have := heap_alloc_last (w.alloc (.cells (vc t C) 25)) (.cells (vc u D) 25)
    rw [hz] at this
    exact this
end Go.Proofs.Ythlpiaoofijfpaa.nn
