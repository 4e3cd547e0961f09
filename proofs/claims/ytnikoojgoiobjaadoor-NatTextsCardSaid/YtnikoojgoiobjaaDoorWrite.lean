/- Words for writing in place: a block that is known whole, a stretch of it that holds limbs, and what a call that writes there leaves. No program is named here. -/
import Derived.Test.YtnikoojgoiobjaaDoorMem
import Derived.Laws.Rows
namespace Go.Proofs.YtnikoojgoiobjaaDoor.nn
open Go.RowKit

/-- block g is just the cells cur of element type e, none frozen -/
def Bk (w : World) (g : Nat) (e : TypeId) (cur : Array Value) : Prop := w.heap[g]? = some (.cells cur e (0, 0))

/-- from place off on stand the limbs f -/
def Ints (cur : Array Value) (k : IntKind) (off n : Nat) (f : Nat → Nat) : Prop := ∀ i, i < n → cur[off + i]? = some (.int k (f i : Int))

/-- in block g, between off and off + n alone, something was written -/
structure Wrote (w w' : World) (g : Nat) (e : TypeId) (cur cur' : Array Value) (off n : Nat) : Prop where
  blk : Bk w' g e cur'
  size : cur'.size = cur.size
  out : ∀ i, i < off ∨ off + n ≤ i → cur'[i]? = cur[i]?
  grown : w.grownBy w' (some g)
  hsize : w'.heap.size = w.heap.size

section
variable {w w' w'' : World} {g : Nat} {e : TypeId} {cur cur' cur'' : Array Value} {off n m i : Nat} {k : IntKind} {f : Nat → Nat}

theorem Bk.lt (h : Bk w g e cur) : g < w.heap.size := (Array.getElem?_eq_some_iff.1 h).1
theorem Bk.cell (h : Bk w g e cur) (i : Nat) : w.cell? ⟨g, i, none⟩ = cur[i]? := cell_of_row w g i cur e (0, 0) h
theorem Bk.frozen (h : Bk w g e cur) (i : Nat) : w.frozen? ⟨g, i, none⟩ = false := by
  unfold Bk at h
  simp [World.frozen?, h]
theorem Bk.set_ (h : Bk w g e cur) (i : Nat) (u : Value) : Bk (w.setCell ⟨g, i, none⟩ u) g e (cur.setIfInBounds i u) := by
  unfold Bk at h ⊢
  simp [World.setCell, Array.getElem?_modify, h]
theorem Bk.drewN (h : Bk w g e cur) (j : Nat) : Bk (w.drewN j) g e cur := h
theorem Bk.below {B : Nat} (h : Bk w g e cur) (hb : Below B w w') (hg : g < B) : Bk w' g e cur := (hb.block g hg).trans h
theorem Bk.grown {row : Option Nat} (h : Bk w g e cur) (hb : w.grownBy w' row) (hg : some g ≠ row) : Bk w' g e cur := (hb.block g h.lt hg).trans h

theorem Ints.mono (h : Ints cur k off n f) (hm : m ≤ n) : Ints cur k off m f := fun i hi => h i (by omega)
theorem Ints.congr {f' : Nat → Nat} (h : Ints cur k off n f) (e : ∀ i, i < n → f i = f' i) : Ints cur k off n f' := fun i hi => by rw [← e i hi]; exact h i hi
theorem Ints.lt (h : Ints cur k off n f) (hi : i < n) : off + i < cur.size := (Array.getElem?_eq_some_iff.1 (h i hi)).1
theorem Ints.set_ (h : Ints cur k off n f) (i x : Nat) (hi : i < n) : Ints (cur.setIfInBounds (off + i) (.int k (x : Int))) k off n (upd f i x) := fun j hj => by
  rw [Array.getElem?_setIfInBounds]
  by_cases e : j = i
  · subst e; rw [if_pos rfl, if_pos (h.lt hi), upd_at]
  · rw [if_neg (by omega), upd_ne f e]; exact h j hj
theorem Ints.rd (h : Ints cur k off n f) (hb : Bk w g e cur) : Rd w k (some ⟨g, off, none⟩) n f := fun _ => ⟨g, off, rfl, hb.lt, fun i hi => (hb.cell _).trans (h i hi)⟩

theorem Wrote.refl (h : Bk w g e cur) (off n : Nat) : Wrote w w g e cur cur off n :=
  ⟨h, rfl, fun _ _ => rfl, ⟨rfl, rfl, rfl, Nat.le_refl _, fun _ _ _ => rfl⟩, rfl⟩
theorem Wrote.drewN (h : Wrote w w' g e cur cur' off n) (j : Nat) : Wrote w (w'.drewN j) g e cur cur' off n :=
  ⟨h.blk, h.size, h.out, ⟨h.grown.os, h.grown.tape, h.grown.output, h.grown.size, h.grown.block⟩, h.hsize⟩
theorem Wrote.set_ (h : Wrote w w' g e cur cur' off n) (i : Nat) (hi : i < n) (u : Value) : Wrote w (w'.setCell ⟨g, off + i, none⟩ u) g e cur (cur'.setIfInBounds (off + i) u) off n :=
  ⟨h.blk.set_ _ u, by rw [Array.size_setIfInBounds, h.size], fun j hj => by rw [Array.getElem?_setIfInBounds, if_neg (by omega)]; exact h.out j hj,
   ⟨h.grown.os, h.grown.tape, h.grown.output, by simpa [World.setCell] using h.grown.size, fun b hb hne => (Below.heap_setCell w' ⟨g, off + i, none⟩ u b (by rintro rfl; exact hne rfl)).trans (h.grown.block b hb hne)⟩,
   by simpa [World.setCell] using h.hsize⟩
theorem Wrote.trans (h : Wrote w w' g e cur cur' off n) (h' : Wrote w' w'' g e cur' cur'' off n) : Wrote w w'' g e cur cur'' off n :=
  ⟨h'.blk, h'.size.trans h.size, fun i hi => (h'.out i hi).trans (h.out i hi),
   ⟨h'.grown.os.trans h.grown.os, h'.grown.tape.trans h.grown.tape, h'.grown.output.trans h.grown.output, Nat.le_trans h.grown.size h'.grown.size,
    fun b hb hne => (h'.grown.block b (by have := h.hsize; omega) hne).trans (h.grown.block b hb hne)⟩, h'.hsize.trans h.hsize⟩
/-- a stretch within a stretch -/
theorem Wrote.wide (h : Wrote w w' g e cur cur' off n) {off' n' : Nat} (h1 : off' ≤ off) (h2 : off + n ≤ off' + n') : Wrote w w' g e cur cur' off' n' :=
  ⟨h.blk, h.size, fun i hi => h.out i (by omega), h.grown, h.hsize⟩
/-- a slice in another block reads as it did -/
theorem Rd.wrote {A : Option Addr} {l : Nat} {f : Nat → Nat} (h : Rd w k A l f) (hw : Wrote w w' g e cur cur' off n) (hne : ∀ b o, A = some ⟨b, o, none⟩ → 0 < l → b ≠ g) : Rd w' k A l f := fun hl => by
  obtain ⟨b, o, ea, hb, hc⟩ := h hl
  refine ⟨b, o, ea, by rw [hw.hsize]; exact hb, fun i hi => ?_⟩
  exact (World.cell?_of_block (w := w) (hw.grown.block b hb (fun e => hne b o ea hl (by injection e)))).trans (hc i hi)

/-- what the call owns, behind a call that wrote into it -/
theorem own_wrote {base : Nat} {l cap : Nat} {f : Nat → Nat} (ho : w.ownsRow base e 1 (.slice (some ⟨g, 0, none⟩) l cap) l (vl k f l)) :
    ∃ cur, Bk w g e cur ∧ Ints cur k 0 l f ∧ base ≤ g ∧ l ≤ cap ∧ cap ≤ maxLen ∧ cur.size = cap ∧
      ∀ (w' : World) cur' f', Wrote w w' g e cur cur' 0 l → Ints cur' k 0 l f' → w'.ownsRow base e 1 (.slice (some ⟨g, 0, none⟩) l cap) l (vl k f' l) := by
  have ho0 := ho
  rcases ho.2 with ⟨h, _⟩ | ⟨g', cap', cur, h, hb, hh, hl, hm, hs, ht⟩
  · cases h
  · simp only [Value.slice.injEq, Option.some.injEq, Addr.mk.injEq, and_true, true_and] at h
    obtain ⟨rfl, rfl⟩ := h
    have hs' : cur.size = cap := by omega
    refine ⟨cur, hh, fun i hi => ?_, hb, hl, hm, hs', fun w' cur' f' hw hi => ?_⟩
    · have h1 := ho0.cellAt i (by omega)
      rw [Bk.cell hh i] at h1
      rw [Nat.zero_add, h1]
      exact vl_at k f hi
    · refine ⟨by rw [vl_length]; omega, .inr ⟨g, cap, cur', rfl, hb, hw.blk, hl, hm, by rw [hw.size, hs], ?_⟩⟩
      apply List.ext_getElem?
      intro i
      rw [List.getElem?_take]
      by_cases h1 : i < l
      · rw [if_pos (by omega), vl_at k f' h1, Array.getElem?_toList]
        have := hi i h1
        rwa [Nat.zero_add] at this
      · rw [if_neg (by omega), List.getElem?_eq_none (by rw [vl_length]; omega)]
end

end Go.Proofs.YtnikoojgoiobjaaDoor.nn
