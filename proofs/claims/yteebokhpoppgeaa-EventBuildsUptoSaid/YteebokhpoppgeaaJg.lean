/- Joined texts, what is wanted of them: Num, Mem, Write, RefAt, VaCopy, VaDeep, VaAt, Val8At. -/
import Derived.Below
import Derived.Laws.OwnMore
import Derived.Deep.AppendLies
import Derived.Deep.Draws
import Derived.Laws.Rows
import Derived.Deep.WholeRow
import Derived.Lib.Hide
import Derived.Deep.QuietTactic
import Derived.BigQuiet
import Derived.IntWalk
import Derived.StillTailTactics
import Derived.Deep.RegionHeld3
import Derived.WalkSpells
import Derived.Maps.AppendAt
import Derived.Deep.DeepCutAuto
import Derived.Test.YteebokhpoppgeaaProg
import Derived.WalkKit
import Derived.Test.YteebokhpoppgeaaJa
namespace Go.Proofs.Yteebokhpoppgeaa.nn

/-- all limbs below B -/
def Lt (B : Nat) (f : Nat → Nat) (n : Nat) : Prop := ∀ i, i < n → f i < B

/-- f with x at place k -/
def upd (f : Nat → Nat) (k x : Nat) : Nat → Nat := fun i => if i = k then x else f i

theorem upd_at (f : Nat → Nat) (k x : Nat) : upd f k x k = x := by simp [upd]
theorem upd_ne (f : Nat → Nat) {k x i : Nat} (h : i ≠ k) : upd f k x i = f i := by simp [upd, h]

theorem Lt.mono {B : Nat} {f : Nat → Nat} {n m : Nat} (h : Lt B f n) (hm : m ≤ n) : Lt B f m := fun i hi => h i (by omega)

theorem Lt.upd {B : Nat} {f : Nat → Nat} {n k x : Nat} (h : Lt B f n) (hx : x < B) : Lt B (upd f k x) n := fun i hi => by
  by_cases e : i = k
  · subst e; rw [upd_at]; exact hx
  · rw [upd_ne f e]; exact h i hi

theorem Lt.snoc {B : Nat} {f : Nat → Nat} {n x : Nat} (h : Lt B f n) (hx : x < B) : Lt B (nn.upd f n x) (n + 1) := fun i hi => by
  by_cases e : i = n
  · subst e; rw [upd_at]; exact hx
  · rw [upd_ne f e]; exact h i (by omega)

end Go.Proofs.Yteebokhpoppgeaa.nn
namespace Go.Proofs.Yteebokhpoppgeaa.nn
open Go.RowKit

/-- the slice at address A reads as n integers f 0 .. f (n - 1) of kind k, in a block that is there -/
def Rd (w : World) (k : IntKind) (A : Option Addr) (n : Nat) (f : Nat → Nat) : Prop :=
  0 < n → ∃ b off, A = some ⟨b, off, none⟩ ∧ b < w.heap.size ∧ ∀ i, i < n → w.cell? ⟨b, off + i, none⟩ = some (.int k (f i : Int))

section
variable {w w' : World} {k : IntKind} {A : Option Addr} {n m : Nat} {f g : Nat → Nat}

theorem Rd.keep (h : Rd w k A n f) (hs : w.heap.size ≤ w'.heap.size) (hk : ∀ b o, b < w.heap.size → w'.cell? ⟨b, o, none⟩ = w.cell? ⟨b, o, none⟩) : Rd w' k A n f := fun hn => by
  obtain ⟨b, off, e, hb, hc⟩ := h hn
  exact ⟨b, off, e, by omega, fun i hi => (hk b _ hb).trans (hc i hi)⟩
theorem Rd.below (h : Rd w k A n f) (hb : Below w.heap.size w w') : Rd w' k A n f :=
  h.keep hb.size fun b o hlt => hb.cell (p := ⟨b, o, none⟩) hlt
theorem Rd.drew (h : Rd w k A n f) : Rd w.drew k A n f := h
theorem Rd.drewN (h : Rd w k A n f) (j : Nat) : Rd (w.drewN j) k A n f := h
theorem Rd.alloc (h : Rd w k A n f) (o : Obj) : Rd (w.alloc o) k A n f :=
  h.keep (by simp) fun _ _ hlt => World.cell?_alloc_lt w o _ hlt
theorem Rd.mono (h : Rd w k A n f) (hm : m ≤ n) : Rd w k A m f := fun h0 => by
  obtain ⟨b, off, e, hb, hc⟩ := h (by omega)
  exact ⟨b, off, e, hb, fun i hi => hc i (by omega)⟩
theorem Rd.lt {b o : Nat} (h : Rd w k A n f) (e : A = some ⟨b, o, none⟩) (h0 : 0 < n) : b < w.heap.size := by
  obtain ⟨b', o', e', hb, _⟩ := h h0
  rw [e] at e'
  injection e' with e'
  injection e' with e'
  omega
theorem Rd.none_ : Rd w k A 0 f := fun h => absurd h (by omega)

/-- the limbs as a list of values -/
def vl (k : IntKind) (f : Nat → Nat) (n : Nat) : List Value := (List.range n).map fun i => .int k (f i : Int)

theorem vl_at (k : IntKind) (f : Nat → Nat) {n i : Nat} (h : i < n) : (vl k f n)[i]? = some (.int k (f i : Int)) := by simp [vl, h]
/-- what the call owns reads as its limbs -/
theorem Rd.of_own {base : Nat} {e : TypeId} {v : Value} (h : w.ownsRow base e 1 v n (vl k f n)) : ∃ A c, v = .slice A n c ∧ n ≤ c ∧ c ≤ maxLen ∧ Rd w k A n f := by
  have hh := h
  rcases h.2 with ⟨rfl, rfl⟩ | ⟨b, cap, cur, rfl, _, hb, hc, hm, _⟩
  · exact ⟨none, 0, rfl, Nat.le_refl _, by simp [maxLen], Rd.none_⟩
  · refine ⟨_, cap, rfl, hc, hm, fun _ => ⟨b, 0, rfl, (Array.getElem?_eq_some_iff.1 hb).1, fun i hi => ?_⟩⟩
    rw [Nat.zero_add, hh.cellAt i (by omega)]
    exact vl_at k f hi

end

end Go.Proofs.Yteebokhpoppgeaa.nn
namespace Go.Proofs.Yteebokhpoppgeaa.nn
open Go.RowKit

/-- block g is just the cells cur of element type e, none frozen -/
def Bk (w : World) (g : Nat) (e : TypeId) (cur : Array Value) : Prop := w.heap[g]? = some (.cells cur e (0, 0))

/-- from place off on stand the limbs f -/
def Ints (cur : Array Value) (k : IntKind) (off n : Nat) (f : Nat → Nat) : Prop := ∀ i, i < n → cur[off + i]? = some (.int k (f i : Int))

/-- in block g, between off and off + n alone, something was written -/
structure Wrote (w w' : World) (g : Nat) (e : TypeId) (cur cur' : Array Value) (off n : Nat) : Prop where
  blk : Bk w' g e cur'
  size : cur'.size = cur.size
  out : ∀ i, i < off ∨ off + n ≤ i → cur'[i]? = cur[i]?
  grown : w.grownBy w' (some g)
  hsize : w'.heap.size = w.heap.size

section
variable {w w' w'' : World} {g : Nat} {e : TypeId} {cur cur' cur'' : Array Value} {off n m i : Nat} {k : IntKind} {f : Nat → Nat}

theorem Bk.lt (h : Bk w g e cur) : g < w.heap.size := (Array.getElem?_eq_some_iff.1 h).1
theorem Bk.cell (h : Bk w g e cur) (i : Nat) : w.cell? ⟨g, i, none⟩ = cur[i]? := cell_of_row w g i cur e (0, 0) h
theorem Bk.frozen (h : Bk w g e cur) (i : Nat) : w.frozen? ⟨g, i, none⟩ = false := by
  unfold Bk at h
  simp [World.frozen?, h]
theorem Bk.set_ (h : Bk w g e cur) (i : Nat) (u : Value) : Bk (w.setCell ⟨g, i, none⟩ u) g e (cur.setIfInBounds i u) := by
  unfold Bk at h ⊢
  simp [World.setCell, Array.getElem?_modify, h]
theorem Bk.drewN (h : Bk w g e cur) (j : Nat) : Bk (w.drewN j) g e cur := h
theorem Bk.below {B : Nat} (h : Bk w g e cur) (hb : Below B w w') (hg : g < B) : Bk w' g e cur := (hb.block g hg).trans h
theorem Bk.grown {row : Option Nat} (h : Bk w g e cur) (hb : w.grownBy w' row) (hg : some g ≠ row) : Bk w' g e cur := (hb.block g h.lt hg).trans h

theorem Ints.mono (h : Ints cur k off n f) (hm : m ≤ n) : Ints cur k off m f := fun i hi => h i (by omega)
theorem Ints.lt (h : Ints cur k off n f) (hi : i < n) : off + i < cur.size := (Array.getElem?_eq_some_iff.1 (h i hi)).1
theorem Ints.set_ (h : Ints cur k off n f) (i x : Nat) (hi : i < n) : Ints (cur.setIfInBounds (off + i) (.int k (x : Int))) k off n (upd f i x) := fun j hj => by
  rw [Array.getElem?_setIfInBounds]
  by_cases e : j = i
  · subst e; rw [if_pos rfl, if_pos (h.lt hi), upd_at]
  · rw [if_neg (by omega), upd_ne f e]; exact h j hj
theorem Wrote.refl (h : Bk w g e cur) (off n : Nat) : Wrote w w g e cur cur off n :=
  ⟨h, rfl, fun _ _ => rfl, ⟨rfl, rfl, rfl, Nat.le_refl _, fun _ _ _ => rfl⟩, rfl⟩
theorem Wrote.drewN (h : Wrote w w' g e cur cur' off n) (j : Nat) : Wrote w (w'.drewN j) g e cur cur' off n :=
  ⟨h.blk, h.size, h.out, ⟨h.grown.os, h.grown.tape, h.grown.output, h.grown.size, h.grown.block⟩, h.hsize⟩
theorem Wrote.set_ (h : Wrote w w' g e cur cur' off n) (i : Nat) (hi : i < n) (u : Value) : Wrote w (w'.setCell ⟨g, off + i, none⟩ u) g e cur (cur'.setIfInBounds (off + i) u) off n :=
  ⟨h.blk.set_ _ u, by rw [Array.size_setIfInBounds, h.size], fun j hj => by rw [Array.getElem?_setIfInBounds, if_neg (by omega)]; exact h.out j hj,
   ⟨h.grown.os, h.grown.tape, h.grown.output, by simpa [World.setCell] using h.grown.size, fun b hb hne => (Below.heap_setCell w' ⟨g, off + i, none⟩ u b (by rintro rfl; exact hne rfl)).trans (h.grown.block b hb hne)⟩,
   by simpa [World.setCell] using h.hsize⟩
theorem Wrote.trans (h : Wrote w w' g e cur cur' off n) (h' : Wrote w' w'' g e cur' cur'' off n) : Wrote w w'' g e cur cur'' off n :=
  ⟨h'.blk, h'.size.trans h.size, fun i hi => (h'.out i hi).trans (h.out i hi),
   ⟨h'.grown.os.trans h.grown.os, h'.grown.tape.trans h.grown.tape, h'.grown.output.trans h.grown.output, Nat.le_trans h.grown.size h'.grown.size,
    fun b hb hne => (h'.grown.block b (by have := h.hsize; omega) hne).trans (h.grown.block b hb hne)⟩, h'.hsize.trans h.hsize⟩
/-- a stretch within a stretch -/
theorem Wrote.wide (h : Wrote w w' g e cur cur' off n) {off' n' : Nat} (h1 : off' ≤ off) (h2 : off + n ≤ off' + n') : Wrote w w' g e cur cur' off' n' :=
  ⟨h.blk, h.size, fun i hi => h.out i (by omega), h.grown, h.hsize⟩
end

end Go.Proofs.Yteebokhpoppgeaa.nn
namespace Go.Proofs.Yteebokhpoppgeaa.nn
open Go.RowKit

/-- a list of whole numbers lies in memory -/
def Ri (w : World) (A : Option Addr) (zs : List Int) : Prop := zs = [] ∨ ∃ (b off : Nat), A = some ⟨b, off, none⟩ ∧ b < w.heap.size ∧ ∀ i (h : i < zs.length), w.cell? ⟨b, off + i, none⟩ = some (.int .i64 zs[i])
theorem Ri.keep {w w' : World} {A : Option Addr} {zs : List Int} (h : Ri w A zs) {B : Nat} (hB : Below B w w') (hs : w.heap.size ≤ B) : Ri w' A zs := by
  rcases h with h | ⟨b, off, h1, h2, h3⟩
  · exact .inl h
  · exact .inr ⟨b, off, h1, Nat.lt_of_lt_of_le h2 hB.size, fun i hi => (hB.cell (p := ⟨b, off + i, none⟩) (Nat.lt_of_lt_of_le h2 hs)).trans (h3 i hi)⟩
/-- the value at a path -/
def atP : VT → List Int → Option VT
  | t, [] => some t
  | t, z :: r => if h : 0 ≤ z ∧ z.toNat < t.l.length then atP (t.l[z.toNat]'h.2) r else none
def zt : VT := .mk 0 false 0 ⟨#[]⟩ []
def atV (r : Option VT) : VT := r.getD zt
def atE (r : Option VT) : Nat := match r with | some _ => 0 | none => 1
theorem atP_no {t : VT} {zs : List Int} {i : Nat} (h : i < zs.length) (hz : ¬ (0 ≤ zs[i] ∧ zs[i].toNat < t.l.length)) : atP t (zs.drop i) = none := by
  rw [List.drop_eq_getElem_cons h]
  unfold atP
  rw [dif_neg hz]
theorem atP_on {t : VT} {zs : List Int} {i j : Nat} (h : i < zs.length) (hz : zs[i] = (j : Int)) (hj : j < t.l.length) : atP t (zs.drop i) = atP t.l[j] (zs.drop (i + 1)) := by
  rw [List.drop_eq_getElem_cons h]
  have e : zs[i].toNat = j := by omega
  rw [atP, dif_pos ⟨by omega, by omega⟩]
  simp only [e]
/-- the cells of a value -/
def vc (t : VT) (C : Value) : Array Value := #[.int .i64 t.k, .bool t.g, .int .u64 (t.n : Int), .string t.s, C]
/-- two new blocks, each a value -/
structure Bx (w : World) (t : VT) (C : Value) (u : VT) (D : Value) (W : World) : Prop where
  b : Below w.heap.size w W
  r : Bk W w.heap.size 36 (vc t C)
  r2 : Bk W (w.heap.size + 1) 36 (vc u D)
theorem Bx.new (w : World) (t : VT) (C : Value) (u : VT) (D : Value) : Bx w t C u D ((w.alloc (.cells (vc t C) 36)).alloc (.cells (vc u D) 36)) := by
  have hz : (w.alloc (.cells (vc t C) 36)).heap.size = w.heap.size + 1 := by simp
  refine ⟨((Below.refl _ _).alloc (Nat.le_refl _) _).alloc (by simp) _, ?_, ?_⟩
  · exact (Below.heap_alloc _ _ _ (by simp)).trans (heap_alloc_last _ _)
  · have := heap_alloc_last (w.alloc (.cells (vc t C) 36)) (.cells (vc u D) 36)
    rw [hz] at this
    exact this
theorem below_set5 {B g : Nat} {w W : World} (h : Below B w W) (hg : B ≤ g) (a b c d e : Value) :
    Below B w (((((W.setCell ⟨g, 0, none⟩ a).setCell ⟨g, 1, none⟩ b).setCell ⟨g, 2, none⟩ c).setCell ⟨g, 3, none⟩ d).setCell ⟨g, 4, none⟩ e) :=
  ((((h.setCell hg _).setCell hg _).setCell hg _).setCell hg _).setCell hg _
theorem bk_set5 {W : World} {g : Nat} {T : TypeId} {t : VT} {C : Value} (h : Bk W g T (vc t C)) (a b c d e : Value) :
    Bk (((((W.setCell ⟨g, 0, none⟩ a).setCell ⟨g, 1, none⟩ b).setCell ⟨g, 2, none⟩ c).setCell ⟨g, 3, none⟩ d).setCell ⟨g, 4, none⟩ e) g T #[a, b, c, d, e] :=
  ((((h.set_ 0 a).set_ 1 b).set_ 2 c).set_ 3 d).set_ 4 e
theorem bk_other {W : World} {g g' j : Nat} {T : TypeId} {cs : Array Value} {v : Value} (h : Bk W g T cs) (hg : g' ≠ g) : Bk (W.setCell ⟨g', j, none⟩ v) g T cs := by
  unfold Bk at h ⊢
  simp [World.setCell, Array.getElem?_modify, h, hg]
theorem bk_other5 {W : World} {g g' : Nat} {T : TypeId} {cs : Array Value} (h : Bk W g T cs) (hg : g' ≠ g) (a b c d e : Value) :
    Bk (((((W.setCell ⟨g', 0, none⟩ a).setCell ⟨g', 1, none⟩ b).setCell ⟨g', 2, none⟩ c).setCell ⟨g', 3, none⟩ d).setCell ⟨g', 4, none⟩ e) g T cs :=
  bk_other (bk_other (bk_other (bk_other (bk_other h hg) hg) hg) hg) hg
end Go.Proofs.Yteebokhpoppgeaa.nn
namespace Go.Proofs.Yteebokhpoppgeaa.nn
open Go.RowKit

/-- a slice holds a list of trees, all in blocks from B on -/
inductive Lsb (B : Nat) (w : World) : Value → List VT → Prop where
  | nil_ {A : Option Addr} {c : Nat} : Lsb B w (.slice A 0 c) []
  | at_ {b off m c : Nat} {C : Nat → Value} {l : List VT} (hl : l.length = m) (hc : m ≤ c) (h0 : B ≤ b) (hb : b < w.heap.size) (hr : ∀ i (h : i < l.length), Row w b (off + i * 5) l[i] (C i)) (hk : ∀ i (h : i < l.length), Lsb B w (C i) l[i].l) : Lsb B w (.slice (some ⟨b, off, none⟩) m c) l
theorem Lsb.lst {B : Nat} {w : World} {v : Value} {l : List VT} (h : Lsb B w v l) : Lst w v l := by
  induction h with
  | nil_ => exact .nil_
  | at_ hl hc h0 hb hr hk ih => exact .at_ hl hc hb hr ih
theorem Lsb.low {B B' : Nat} {w : World} {v : Value} {l : List VT} (h : Lsb B w v l) (hB : B' ≤ B) : Lsb B' w v l := by
  induction h with
  | nil_ => exact .nil_
  | at_ hl hc h0 hb hr hk ih => exact .at_ hl hc (by omega) hb hr ih
theorem Lsb.keep {B : Nat} {w w' : World} {v : Value} {l : List VT} (h : Lsb B w v l) (hs : w.heap.size ≤ w'.heap.size) (hb : ∀ b, B ≤ b → b < w.heap.size → w'.heap[b]? = w.heap[b]?) : Lsb B w' v l := by
  induction h with
  | nil_ => exact .nil_
  | at_ hl hc h0 hlt hr hk ih =>
    refine .at_ hl hc h0 (by omega) (fun i h => ?_) ih
    have e := hb _ h0 hlt
    have h := hr i h
    exact ⟨(World.cell?_of_block e).trans h.k, (World.cell?_of_block e).trans h.g, (World.cell?_of_block e).trans h.n, (World.cell?_of_block e).trans h.s, (World.cell?_of_block e).trans h.l⟩
/-- the cells of values in a row -/
def rcs (C : Nat → Value) : Nat → List VT → List Value
  | _, [] => []
  | i, t :: r => .int .i64 t.k :: .bool t.g :: .int .u64 (t.n : Int) :: .string t.s :: C i :: rcs C (i + 1) r
theorem rcs_len (C : Nat → Value) (l : List VT) : ∀ i, (rcs C i l).length = l.length * 5 := by
  induction l with
  | nil => intro i; rfl
  | cons t r ih => intro i; simp only [rcs, List.length_cons, ih]; omega
theorem rcs_at (C : Nat → Value) (l : List VT) : ∀ i q (h : q < l.length), (rcs C i l)[q * 5]? = some (.int .i64 l[q].k) ∧ (rcs C i l)[q * 5 + 1]? = some (.bool l[q].g) ∧ (rcs C i l)[q * 5 + 2]? = some (.int .u64 (l[q].n : Int)) ∧ (rcs C i l)[q * 5 + 3]? = some (.string l[q].s) ∧ (rcs C i l)[q * 5 + 4]? = some (C (i + q)) := by
  induction l with
  | nil => intro i q h; simp at h
  | cons t r ih =>
    intro i q h
    cases q with
    | zero => simp [rcs]
    | succ q =>
      have h2 : q < r.length := by simpa using h
      have := ih (i + 1) q h2
      have e : ∀ j, (rcs C i (t :: r))[(q + 1) * 5 + j]? = (rcs C (i + 1) r)[q * 5 + j]? := fun j => by
        rw [show (q + 1) * 5 + j = q * 5 + j + 5 by omega]
        simp [rcs]
      have e0 := e 0
      simp only [Nat.add_zero] at e0
      rw [e0, e 1, e 2, e 3, e 4]
      simp only [List.getElem_cons_succ]
      rw [show i + (q + 1) = i + 1 + q by omega]
      exact this
theorem rcs_one (C : Nat → Value) (l : List VT) : ∀ i, (∀ j, j < l.length → ∃ A n c, C (i + j) = .slice A n c) → ∀ u ∈ rcs C i l, u.oneCell' = true := by
  induction l with
  | nil => intro i _ u hu; simp [rcs] at hu
  | cons t r ih =>
    intro i h u hu
    simp only [rcs, List.mem_cons] at hu
    rcases hu with rfl | rfl | rfl | rfl | rfl | hu
    · rfl
    · rfl
    · rfl
    · rfl
    · obtain ⟨A, n, c, e⟩ := h 0 (by simp)
      rw [Nat.add_zero] at e
      rw [e]
      rfl
    · exact ih (i + 1) (fun j hj => by have := h (j + 1) (by simp; omega); rw [show i + (j + 1) = i + 1 + j by omega] at this; exact this) u hu
theorem info_val3 : (Try.prog.info? 36).map (fun i => (i.zero, i.size, i.bytes)) = some (some (.agg #[.int .i64 0, .bool false, .int .u64 0, .string ⟨#[]⟩, .slice none 0 0]), 5, 64) := by kernel_rfl
/-- what slices.Clone of values answers -/
def CvAns (w0 : World) (l : List VT) (w : World) (e : Ending) (w' : World) : Prop := ∃ A' c', e = .returned (.slice A' l.length c') ∧ Below w.heap.size w w' ∧ (l = [] ∨ ∃ g, A' = some ⟨g, 0, none⟩ ∧ l.length ≤ c' ∧ w.heap.size ≤ g ∧ g < w'.heap.size ∧ (∀ o, w'.frozen? ⟨g, o, none⟩ = false) ∧ ∃ C : Nat → Value, ∀ j (h : j < l.length), Row w' g (j * 5) l[j] (C j) ∧ Lst w0 (C j) l[j].l)
set_option maxRecDepth 100000 in
set_option maxHeartbeats 1000000 in
theorem clonev_any (w0 : World) (A : Option Addr) (c : Nat) (l : List VT) (w : World) (h0 : Below w0.heap.size w0 w) (hC : Lst w0 (.slice A l.length c) l) (hl : l.length ≤ 1099511627776) :
    Calls Try.prog 40 #[.slice A l.length c] w (CvAns w0 l w) := by
  obtain ⟨i0, hi, hz0, hz1, hz2⟩ : ∃ i0, Try.prog.info? 36 = some i0 ∧ i0.zero = some (.agg #[.int .i64 0, .bool false, .int .u64 0, .string ⟨#[]⟩, .slice none 0 0]) ∧ i0.size = 5 ∧ i0.bytes = 64 := info_parts info_val3
  have hn0 := fun (wx : World) => Lib.run_eql_slice_nil (P := Try.prog) wx 34 36 A l.length c 0 0 Try.underlying34
  have hf : ∀ (w' : World) {g n cap : Nat} {xs : List Value}, w'.ownsRow w.heap.size 36 5 (.slice (some ⟨g, 0, none⟩) n cap) n xs → ∀ o, w'.frozen? ⟨g, o, none⟩ = false := fun w' g n cap xs h o => by
    rcases h.2 with ⟨h5, _⟩ | ⟨g', cap', cur, e, _, hg, _⟩
    · cases h5
    · injection e with e1 e2 e3
      injection e1 with e1
      injection e1 with e1
      subst e1
      simp [World.frozen?, hg]
  rcases A with _ | ad
  · obtain ⟨A2, c2, e, hlc, hA⟩ := hC.out
    have hl0 : l = [] := by
      rcases hA with ⟨_, h, _⟩ | ⟨b, off, D, h, _⟩
      · exact h
      · injection e with e1
        rw [← e1] at h
        cases h
    subst hl0
    simp only [List.length_nil] at hn0
    simp only [List.length_nil]
    go_enter Try.func40, Try.ntmps40
    go_wp2
    go_ret
    exact ⟨none, 0, rfl, Below.refl _ _, .inl rfl⟩
  · obtain ⟨C, hnews, hkid⟩ : ∃ C : Nat → Value, (∀ o j u, (rcs C 0 l)[j]? = some u → (w.alloc o).cell? (ad.add j) = some u) ∧ ∀ j (h : j < l.length), Lst w0 (C j) l[j].l := by
      obtain ⟨A2, c2, e, hlc, hA⟩ := hC.out
      rcases hA with ⟨_, h, _⟩ | ⟨b, off, D, h, hb, hrow, hkid⟩
      · subst h
        exact ⟨fun _ => .slice none 0 0, fun o j u hu => by simp [rcs] at hu, fun j h => by simp at h⟩
      · injection e with e1
        rw [← e1] at h
        injection h with h
        subst h
        refine ⟨D, fun o j u hu => ?_, hkid⟩
        have hj : j < l.length * 5 := by
          have := (List.getElem?_eq_some_iff.1 hu).1
          rw [rcs_len] at this
          exact this
        obtain ⟨q, r, hr5, rfl⟩ : ∃ q r, r < 5 ∧ j = q * 5 + r := ⟨j / 5, j % 5, by omega, by omega⟩
        have hq : q < l.length := by omega
        obtain ⟨r0, r1, r2, r3, r4⟩ := rcs_at D l 0 q hq
        have hR := (hrow q hq).below (h0.alloc h0.size o) hb
        have ha : (⟨b, off, none⟩ : Addr).add (q * 5 + r) = ⟨b, off + q * 5 + r, none⟩ := by unfold Addr.add; split <;> simp_all <;> omega
        rw [ha]
        have hcase : r = 0 ∨ r = 1 ∨ r = 2 ∨ r = 3 ∨ r = 4 := by omega
        rcases hcase with rfl | rfl | rfl | rfl | rfl
        · rw [Nat.add_zero, r0] at hu; injection hu with hu; subst hu; exact hR.k
        · rw [r1] at hu; injection hu with hu; subst hu; exact hR.g
        · rw [r2] at hu; injection hu with hu; subst hu; exact hR.n
        · rw [r3] at hu; injection hu with hu; subst hu; exact hR.s
        · rw [r4, Nat.zero_add] at hu; injection hu with hu; subst hu; exact hR.l
    have HN := Lib.hid hnews
    have HK := Lib.hid hkid
    have H1 : Hid (∀ u ∈ rcs C 0 l, u.oneCell' = true) := Lib.hid (rcs_one C l 0 fun j h => by
      obtain ⟨A3, c3, h3, _⟩ := (hkid j h).out
      rw [Nat.zero_add]
      exact ⟨_, _, _, h3⟩)
    clear hnews hkid hC h0
    go_enter Try.func40, Try.ntmps40
    go_wp2_with (at_builtin; refine wpList_append_own_at _ rfl (.tmp 5) (.tmp 6) 34 rfl w.heap.size 36 i0 (.agg #[.int .i64 0, .bool false, .int .u64 0, .string ⟨#[]⟩, .slice none 0 0]) 5 64 Try.underlying34 hi hz0 hz1 hz2 rfl (by decide) (.slice (some ⟨w.heap.size, 0, none⟩) 0 0) 0 [] rfl (World.ownsRow_lit w #[] 0 (Nat.le_refl _) (by simp [maxLen]) rfl) ad l.length c (rcs C 0 l) rfl (rcs_len _ _ _) (HN.out _) H1.out (by unfold maxLen; omega) (by omega) (by simp) ?_; intro v1 w1 ho1 hg1 hn1 _)
    go_ret
    rw [Nat.zero_add, List.nil_append] at ho1
    have hB : Below w.heap.size w w1 := ((Below.refl _ _).alloc (Nat.le_refl _) _).grown hg1 (by simp) (fun k hk => by simp [Value.ownBlock] at hk; omega)
    have hv1 : v1 ≠ .slice none 0 0 := fun h => by have := (hn1.1 h).1; cases this
    have hown := ho1
    rcases ho1.2 with ⟨h5, _⟩ | ⟨g, cap, cur, rfl, hb, hg, hc, _, hs, ht⟩
    · exact absurd h5 hv1
    · refine ⟨some ⟨g, 0, none⟩, cap, rfl, hB, .inr ⟨g, rfl, hc, hb, (Array.getElem?_eq_some_iff.1 hg).1, hf _ hown, C, fun j hj => ⟨?_, HK.out j hj⟩⟩⟩
      obtain ⟨r0, r1, r2, r3, r4⟩ := rcs_at C l 0 j hj
      have cells := hown.cells (g := g) rfl
      have ha : ∀ j, (⟨g, 0, none⟩ : Addr).add j = ⟨g, j, none⟩ := fun j => by unfold Addr.add; split <;> simp_all
      refine ⟨?_, ?_, ?_, ?_, ?_⟩
      · rw [← ha]; exact cells _ _ r0
      · rw [← ha]; exact cells _ _ r1
      · rw [← ha]; exact cells _ _ r2
      · rw [← ha]; exact cells _ _ r3
      · rw [← ha]; rw [Nat.zero_add] at r4; exact cells _ _ r4
end Go.Proofs.Yteebokhpoppgeaa.nn
namespace Go.Proofs.Yteebokhpoppgeaa.nn
open Go.RowKit

/-- five cells stored -/
def set5 (W : World) (g o : Nat) (a b c d e : Value) : World := ((((W.setCell ⟨g, o, none⟩ a).setCell ⟨g, o + 1, none⟩ b).setCell ⟨g, o + 2, none⟩ c).setCell ⟨g, o + 3, none⟩ d).setCell ⟨g, o + 4, none⟩ e
theorem set5_size (W : World) (g o : Nat) (a b c d e : Value) : (set5 W g o a b c d e).heap.size = W.heap.size := by simp [set5, World.setCell]
theorem set5_other (W : World) (g o : Nat) (a b c d e : Value) (k : Nat) (h : k ≠ g) : (set5 W g o a b c d e).heap[k]? = W.heap[k]? := by
  unfold set5
  rw [Below.heap_setCell _ _ _ _ h, Below.heap_setCell _ _ _ _ h, Below.heap_setCell _ _ _ _ h, Below.heap_setCell _ _ _ _ h, Below.heap_setCell _ _ _ _ h]
theorem set5_far (W : World) (g o : Nat) (a b c d e : Value) (k : Nat) (h : k < o ∨ o + 5 ≤ k) : (set5 W g o a b c d e).cell? ⟨g, k, none⟩ = W.cell? ⟨g, k, none⟩ := by
  have ne : ∀ j, j < 5 → (⟨g, o + j, none⟩ : Addr) ≠ ⟨g, k, none⟩ := fun j hj h2 => by injection h2 with _ h2; omega
  unfold set5
  rw [World.cell?_setCell_other _ _ _ _ (ne 4 (by omega)), World.cell?_setCell_other _ _ _ _ (ne 3 (by omega)), World.cell?_setCell_other _ _ _ _ (ne 2 (by omega)), World.cell?_setCell_other _ _ _ _ (ne 1 (by omega)), World.cell?_setCell_other _ _ _ _ (by intro h2; injection h2 with _ h2; omega)]
theorem set5_row {W : World} {g o : Nat} {t : VT} {C : Value} (h : Row W g o t C) (u : VT) (D : Value) : Row (set5 W g o (.int .i64 u.k) (.bool u.g) (.int .u64 (u.n : Int)) (.string u.s) D) g o u D := by
  have ne : ∀ i j, i ≠ j → (⟨g, o + i, none⟩ : Addr) ≠ ⟨g, o + j, none⟩ := fun i j hij h2 => by injection h2 with _ h2; omega
  have n0 : ∀ i, i ≠ 0 → (⟨g, o + i, none⟩ : Addr) ≠ ⟨g, o, none⟩ := fun i hi h2 => by injection h2 with _ h2; omega
  have z0 : ∀ i, i ≠ 0 → (⟨g, o, none⟩ : Addr) ≠ ⟨g, o + i, none⟩ := fun i hi h2 => n0 i hi h2.symm
  unfold set5
  refine ⟨?_, ?_, ?_, ?_, ?_⟩
  · rw [World.cell?_setCell_other _ _ _ _ (n0 4 (by omega)), World.cell?_setCell_other _ _ _ _ (n0 3 (by omega)), World.cell?_setCell_other _ _ _ _ (n0 2 (by omega)), World.cell?_setCell_other _ _ _ _ (n0 1 (by omega))]
    exact World.cell?_setCell_same _ _ _ h.k
  · rw [World.cell?_setCell_other _ _ _ _ (ne 4 1 (by omega)), World.cell?_setCell_other _ _ _ _ (ne 3 1 (by omega)), World.cell?_setCell_other _ _ _ _ (ne 2 1 (by omega))]
    exact World.cell?_setCell_same _ _ _ ((World.cell?_setCell_other _ _ _ _ (z0 1 (by omega))).trans h.g)
  · rw [World.cell?_setCell_other _ _ _ _ (ne 4 2 (by omega)), World.cell?_setCell_other _ _ _ _ (ne 3 2 (by omega))]
    exact World.cell?_setCell_same _ _ _ ((World.cell?_setCell_other _ _ _ _ (ne 1 2 (by omega))).trans ((World.cell?_setCell_other _ _ _ _ (z0 2 (by omega))).trans h.n))
  · rw [World.cell?_setCell_other _ _ _ _ (ne 4 3 (by omega))]
    exact World.cell?_setCell_same _ _ _ ((World.cell?_setCell_other _ _ _ _ (ne 2 3 (by omega))).trans ((World.cell?_setCell_other _ _ _ _ (ne 1 3 (by omega))).trans ((World.cell?_setCell_other _ _ _ _ (z0 3 (by omega))).trans h.s)))
  · exact World.cell?_setCell_same _ _ _ ((World.cell?_setCell_other _ _ _ _ (ne 3 4 (by omega))).trans ((World.cell?_setCell_other _ _ _ _ (ne 2 4 (by omega))).trans ((World.cell?_setCell_other _ _ _ _ (ne 1 4 (by omega))).trans ((World.cell?_setCell_other _ _ _ _ (z0 4 (by omega))).trans h.l))))
/-- what clone answers -/
def DcAns (t : VT) (W : World) (e : Ending) (W' : World) : Prop := ∃ A c, e = .returned (vv t (.slice A t.l.length c)) ∧ Lsb W.heap.size W' (.slice A t.l.length c) t.l ∧ Below W.heap.size W W'
/-- the row that is filled -/
structure Dr (w : World) (l : List VT) (g B3 : Nat) (C : Nat → Value) (i : Nat) (wr : World) : Prop where
  rows : ∀ j (h : j < l.length), ∃ Cj, Row wr g (j * 5) l[j] Cj ∧ (j < i → Lsb B3 wr Cj l[j].l) ∧ (i ≤ j → Cj = C j)
  kid : ∀ j (h : j < l.length), Lst w (C j) l[j].l
  fz : ∀ o, wr.frozen? ⟨g, o, none⟩ = false
  lo : w.heap.size + 2 ≤ g
  hi : g < B3
structure Dc (w : World) (t : VT) (u : Value) (g B3 : Nat) (C : Nat → Value) (i : Nat) (wr : World) : Prop where
  box : Row wr w.heap.size 0 t u
  res : Bk wr (w.heap.size + 1) 36 (vc zt (.slice none 0 0))
  d : 0 < t.l.length → Dr w t.l g B3 C i wr
  b : Below w.heap.size w wr
  z : B3 ≤ wr.heap.size
  z2 : w.heap.size + 2 ≤ B3
theorem Dc.on {w : World} {t : VT} {u : Value} {g B3 : Nat} {C : Nat → Value} {i : Nat} {wr W' : World} (h : Dc w t u g B3 C i wr) (hB : Below wr.heap.size wr W') : Dc w t u g B3 C i W' := by
  have hz := h.z
  have hz2 := h.z2
  refine ⟨h.box.below hB (by omega), h.res.below hB (by omega), fun h0 => ?_, h.b.trans (hB.mono h.b.size), Nat.le_trans h.z hB.size, h.z2⟩
  obtain ⟨h1, h2, h3, h4, h5⟩ := h.d h0
  refine ⟨fun j hj => ?_, h2, fun o => ?_, h4, h5⟩
  · obtain ⟨Cj, g1, g2, g3⟩ := h1 j hj
    exact ⟨Cj, g1.below hB (by omega), fun hji => (g2 hji).keep hB.size fun b _ hb => hB.block b hb, g3⟩
  · rw [← h3 o]
    exact World.frozen?_of_block (hB.block g (by omega))
theorem Dc.set {w : World} {t : VT} {u : Value} {g B3 : Nat} {C : Nat → Value} {i : Nat} {wr : World} (h : Dc w t u g B3 C i wr) (hi : i < t.l.length) (C1 : Value) (h1 : Lsb B3 wr C1 t.l[i].l) :
    Dc w t u g B3 C (i + 1) (set5 wr g (i * 5) (.int .i64 t.l[i].k) (.bool t.l[i].g) (.int .u64 (t.l[i].n : Int)) (.string t.l[i].s) C1) := by
  obtain ⟨d1, d2, d3, d4, d5⟩ := h.d (by omega)
  have hz2 := h.z2
  have so := set5_other wr g (i * 5) (.int .i64 t.l[i].k) (.bool t.l[i].g) (.int .u64 (t.l[i].n : Int)) (.string t.l[i].s) C1
  have ss := set5_size wr g (i * 5) (.int .i64 t.l[i].k) (.bool t.l[i].g) (.int .u64 (t.l[i].n : Int)) (.string t.l[i].s) C1
  have sf := set5_far wr g (i * 5) (.int .i64 t.l[i].k) (.bool t.l[i].g) (.int .u64 (t.l[i].n : Int)) (.string t.l[i].s) C1
  have sr : ∀ {Cx}, Row wr g (i * 5) t.l[i] Cx → Row (set5 wr g (i * 5) (.int .i64 t.l[i].k) (.bool t.l[i].g) (.int .u64 (t.l[i].n : Int)) (.string t.l[i].s) C1) g (i * 5) t.l[i] C1 := fun hr => set5_row hr _ _
  have sz : ∀ o, (set5 wr g (i * 5) (.int .i64 t.l[i].k) (.bool t.l[i].g) (.int .u64 (t.l[i].n : Int)) (.string t.l[i].s) C1).frozen? ⟨g, o, none⟩ = wr.frozen? ⟨g, o, none⟩ := fun o => by simp [set5]
  have sB : Below g wr (set5 wr g (i * 5) (.int .i64 t.l[i].k) (.bool t.l[i].g) (.int .u64 (t.l[i].n : Int)) (.string t.l[i].s) C1) := by
    unfold set5
    exact (((((Below.refl g wr).setCell (Nat.le_refl _) _).setCell (Nat.le_refl _) _).setCell (Nat.le_refl _) _).setCell (Nat.le_refl _) _).setCell (Nat.le_refl _) _
  generalize set5 wr g (i * 5) (.int .i64 t.l[i].k) (.bool t.l[i].g) (.int .u64 (t.l[i].n : Int)) (.string t.l[i].s) C1 = W' at so ss sf sr sz sB ⊢
  have key : ∀ {v : Value} {l : List VT}, Lsb B3 wr v l → Lsb B3 W' v l := fun hl => hl.keep (by omega) fun b hb _ => so b (by omega)
  refine ⟨h.box.below sB (by omega), h.res.below sB (by omega), fun _ => ⟨fun j hj => ?_, d2, fun o => (sz o).trans (d3 o), d4, d5⟩, h.b.trans (sB.mono (by omega)), by have := h.z; omega, h.z2⟩
  obtain ⟨Cj, g1, g2, g3⟩ := d1 j hj
  by_cases hji : j = i
  · subst hji
    exact ⟨C1, sr g1, fun _ => key h1, fun h => by omega⟩
  · have e : ∀ q, q < 5 → W'.cell? ⟨g, j * 5 + q, none⟩ = wr.cell? ⟨g, j * 5 + q, none⟩ := fun q hq => sf _ (by omega)
    have e0 := e 0 (by omega)
    simp only [Nat.add_zero] at e0
    exact ⟨Cj, ⟨e0.trans g1.k, (e 1 (by omega)).trans g1.g, (e 2 (by omega)).trans g1.n, (e 3 (by omega)).trans g1.s, (e 4 (by omega)).trans g1.l⟩, fun h => key (g2 (by omega)), fun h => g3 (by omega)⟩
theorem Dc.end_ {w : World} {t : VT} {g B3 : Nat} {C : Nat → Value} {A : Option Addr} {c : Nat} {wr : World} (h : Dc w t (.slice A t.l.length c) g B3 C t.l.length wr) (hA : 0 < t.l.length → A = some ⟨g, 0, none⟩ ∧ t.l.length ≤ c) : Lsb (w.heap.size + 2) wr (.slice A t.l.length c) t.l := by
  have hz2 := h.z2
  by_cases h0 : 0 < t.l.length
  · obtain ⟨d1, d2, d3, d4, d5⟩ := h.d h0
    obtain ⟨rfl, hc⟩ := hA h0
    have hz := h.z
    have hex : ∀ i, ∃ Ci, ∀ (h : i < t.l.length), Row wr g (i * 5) t.l[i] Ci ∧ Lsb B3 wr Ci t.l[i].l := fun i => by
      by_cases hi : i < t.l.length
      · obtain ⟨Cj, g1, g2, _⟩ := d1 i hi
        exact ⟨Cj, fun _ => ⟨g1, g2 hi⟩⟩
      · exact ⟨.slice none 0 0, fun h => absurd h hi⟩
    refine .at_ (C := fun i => (hex i).choose) rfl hc (by omega) (by omega) (fun i hi => ?_) (fun i hi => ?_)
    · rw [Nat.zero_add]
      exact ((hex i).choose_spec hi).1
    · exact ((hex i).choose_spec hi).2.low (by omega)
  · have : t.l = [] := List.eq_nil_of_length_eq_zero (by omega)
    rw [this]
    exact .nil_
set_option maxRecDepth 100000 in
set_option maxHeartbeats 4000000 in
theorem vclone_any (N : Nat) (hM : N ≤ 1099511627776) : ∀ (t : VT) (C : Value) (w : World), cnt t ≤ N → Lst w C t.l → Calls Try.prog 36 #[vv t C] w (DcAns t w) := by
  induction N with
  | zero => intro t C w h _; have := cnt_mk t; omega
  | succ N ih =>
    intro t C w hN hC
    have hcm := cnt_mk t
    have hll := len_cntL t.l
    obtain ⟨A, c, rfl, hlc, _⟩ := hC.out
    have HV := Lib.hid (fun W (h : Below w.heap.size w W) => clonev_any w A c t.l W h hC (by omega))
    have HI := Lib.hid (fun i (h : i < t.l.length) C' W (hl : Lst W C' t.l[i].l) => ih (by omega) t.l[i] C' W (by have := cnt_at h; omega) hl)
    obtain ⟨W2, hW2⟩ : ∃ W2, (w.alloc (.cells (vc t (.slice A t.l.length c)) 36)).alloc (.cells (vc zt (.slice none 0 0)) 36) = W2 := ⟨_, rfl⟩
    have HX := Bx.new w t (.slice A t.l.length c) zt (.slice none 0 0)
    rw [hW2] at HX
    have hz2 : W2.heap.size = w.heap.size + 2 := by rw [← hW2]; simp
    obtain ⟨m, hm⟩ : ∃ m, t.l.length = m := ⟨_, rfl⟩
    have hmb : m ≤ 1099511627776 := by omega
    have HM := Lib.hid hm
    have HW : Hid ((w.alloc (.cells #[.int .i64 t.k, .bool t.g, .int .u64 (t.n : Int), .string t.s, .slice A t.l.length c] 36)).alloc (.cells #[.int .i64 0, .bool false, .int .u64 0, .string ⟨#[]⟩, .slice none 0 0] 36) = W2) := Lib.hid hW2
    have HX2 := Lib.hid (And.intro HX hz2)
    rw [hm] at HV HW HX2 ⊢
    clear hcm hll hC hlc ih hm HX hz2 hW2
    unfold vv
    go_enter Try.func36, Try.ntmps36
    go_wp2_with fail
    rw [HW.out]
    refine (HV.out _ HX2.out.1.b).mono ?_
    rintro e w3 ⟨A', c', rfl, hb3, hd⟩
    rw [HM.out]
    have hz3 := hb3.size
    have X3 : Row w3 w.heap.size 0 t (.slice A m c) := by
      have h := HX2.out.1.r
      have e := hb3.block w.heap.size (by have := HX2.out.2; omega)
      have h2 : Bk w3 w.heap.size 36 (vc t (.slice A m c)) := e.trans h
      exact ⟨h2.cell 0, h2.cell 1, h2.cell 2, h2.cell 3, h2.cell 4⟩
    have F3 : w3.frozen? ⟨w.heap.size, 4, none⟩ = false := Bk.frozen (e := 36) (cur := vc t (.slice A m c)) ((hb3.block w.heap.size (by have := HX2.out.2; omega)).trans HX2.out.1.r) 4
    have q4 := X3.l
    obtain ⟨g, C', hDc, hA'⟩ : ∃ (g : Nat) (C' : Nat → Value), Dc w t (.slice A' m c') g w3.heap.size C' 0 (w3.setCell ⟨w.heap.size, 4, none⟩ (.slice A' m c')) ∧ (0 < t.l.length → A' = some ⟨g, 0, none⟩ ∧ t.l.length ≤ c') := by
      have hlt : ∀ k, k < w3.heap.size → k ≠ w.heap.size → (w3.setCell ⟨w.heap.size, 4, none⟩ (.slice A' m c')).heap[k]? = w3.heap[k]? := fun k _ hk => Below.heap_setCell _ _ _ _ hk
      have hBx : Bk (w3.setCell ⟨w.heap.size, 4, none⟩ (.slice A' m c')) w.heap.size 36 #[.int .i64 t.k, .bool t.g, .int .u64 (t.n : Int), .string t.s, .slice A' m c'] := by
        have h2 : Bk w3 w.heap.size 36 (vc t (.slice A m c)) := (hb3.block w.heap.size (by have := HX2.out.2; omega)).trans HX2.out.1.r
        exact h2.set_ 4 _
      have hres : Bk (w3.setCell ⟨w.heap.size, 4, none⟩ (.slice A' m c')) (w.heap.size + 1) 36 (vc zt (.slice none 0 0)) :=
        (Below.heap_setCell _ _ _ _ (by show w.heap.size + 1 ≠ w.heap.size; omega)).trans ((hb3.block _ (by have := HX2.out.2; omega)).trans HX2.out.1.r2)
      have hbl : Below w.heap.size w (w3.setCell ⟨w.heap.size, 4, none⟩ (.slice A' m c')) := (HX2.out.1.b.trans (hb3.mono (by have := HX2.out.2; omega))).setCell (p := ⟨w.heap.size, 4, none⟩) (Nat.le_refl _) _
      have hrow : Row (w3.setCell ⟨w.heap.size, 4, none⟩ (.slice A' m c')) w.heap.size 0 t (.slice A' m c') := ⟨hBx.cell 0, hBx.cell 1, hBx.cell 2, hBx.cell 3, hBx.cell 4⟩
      have hsz : w3.heap.size ≤ (w3.setCell ⟨w.heap.size, 4, none⟩ (.slice A' m c')).heap.size := by simp [World.setCell]
      have hz22 := HX2.out.2
      rcases hd with h0 | ⟨g, rfl, hc, hg, hgl, hfz, D, hrows⟩
      · exact ⟨0, fun _ => .slice none 0 0, ⟨hrow, hres, fun h => by rw [h0] at h; exact absurd h (by simp), hbl, hsz, by omega⟩, fun h => by rw [h0] at h; exact absurd h (by simp)⟩
      · have eg := hlt g hgl (by omega)
        refine ⟨g, D, ⟨hrow, hres, fun _ => ⟨fun j hj => ⟨D j, ?_, fun h => by omega, fun _ => rfl⟩, fun j hj => ?_, fun o => (World.frozen?_of_block eg).trans (hfz o), by omega, hgl⟩, hbl, hsz, by omega⟩, fun _ => ⟨rfl, hc⟩⟩
        · have h := (hrows j hj).1
          exact ⟨(World.cell?_of_block eg).trans h.k, (World.cell?_of_block eg).trans h.g, (World.cell?_of_block eg).trans h.n, (World.cell?_of_block eg).trans h.s, (World.cell?_of_block eg).trans h.l⟩
        · exact (hrows j hj).2
    have HD := Lib.hid hDc
    have HA' := Lib.hid hA'
    clear hb3 hd hz3 X3 HV HX2 HW hDc hA'
    have F4 := Lib.hid F3
    go_wp2_with fail
    go_loopw [12] (fun s12 wr => ∃ i : Nat, i ≤ m ∧ s12 = .int .i64 (i : Int) ∧ Hid (Dc w t (.slice A' m c') g w3.heap.size C' i wr)) (fun s12 _ => m - (intOf s12).toNat)
    case atStart => exact ⟨0, Nat.zero_le _, rfl, HD⟩
    case round =>
      obtain ⟨i, hi, rfl, hk⟩ := hrel
      by_cases hlt : i < m
      · have hi1 : i < t.l.length := by rw [HM.out]; exact hlt
        obtain ⟨rfl, hmc⟩ := HA'.out (by omega)
        have hd := hk.out.d (by omega)
        obtain ⟨Cj, hrow, _, hcj⟩ := hd.rows i hi1
        rw [hcj (Nat.le_refl _)] at hrow
        have hkl := hd.kid i hi1
        obtain ⟨A1, c1, hC1, _⟩ := hkl.out
        obtain ⟨n1, hn1⟩ : ∃ n', t.l[i].l.length = n' := ⟨_, rfl⟩
        rw [hn1] at hC1
        rw [hC1] at hrow hkl
        have HSET := Lib.hid (fun W C1 (h : Dc w t (.slice (some ⟨g, 0, none⟩) m c') g w3.heap.size C' i W) h2 => h.set hi1 C1 h2)
        have HII : Hid (∀ W, Dc w t (.slice (some ⟨g, 0, none⟩) m c') g w3.heap.size C' i W → Calls Try.prog 36 #[vv t.l[i] (.slice A1 n1 c1)] W fun e W' => ∃ A2 c2, e = .returned (vv t.l[i] (.slice A2 n1 c2)) ∧ Lsb W.heap.size W' (.slice A2 n1 c2) t.l[i].l ∧ Below W.heap.size W W') := Lib.hid fun W h => by
          have := HI.out i hi1 (.slice A1 n1 c1) W (hkl.keep h.b (Nat.le_refl _))
          refine this.mono ?_
          rintro e W' ⟨A2, c2, h1, h2, h3⟩
          rw [hn1] at h1 h2
          exact ⟨A2, c2, h1, h2, h3⟩
        obtain ⟨x, hx⟩ : ∃ x, t.l[i] = x := ⟨_, rfl⟩
        simp only [hx] at hrow HII HSET
        have HXX := Lib.hid hx
        have hfz := hd.fz
        have r0 := hrow.k
        have r1 := hrow.g
        have r2 := hrow.n
        have r3 := hrow.s
        have r4 := hrow.l
        unfold vv at HII
        clear hd hrow hkl hcj hC1 hn1 hx hfz
        go_wp2_with fail
        go_upto_region 5 with fail
        obtain ⟨W5, hW5⟩ : ∃ W5, wr.alloc (.cells #[.int .i64 x.k, .bool x.g, .int .u64 (x.n : Int), .string x.s, .slice A1 n1 c1] 36) = W5 := ⟨_, rfl⟩
        rw [hW5]
        have hk5 : Dc w t (.slice (some ⟨g, 0, none⟩) m c') g w3.heap.size C' i W5.drew := by
          rw [← hW5]
          exact hk.out.on (((Below.refl _ _).alloc (Nat.le_refl _) _).drew)
        have hx5 : Row W5 wr.heap.size 0 x (.slice A1 n1 c1) := by rw [← hW5]; exact (Box.new wr x (.slice A1 n1 c1) 36).r
        have d0 := hx5.k
        have d1 := hx5.g
        have d2 := hx5.n
        have d3 := hx5.s
        have d4 := hx5.l
        have d5 : W5.cell? ⟨w.heap.size, 4, none⟩ = some (.slice (some ⟨g, 0, none⟩) m c') := hk5.box.l
        have HK5 := Lib.hid hk5
        have HF : Hid (∀ W, Dc w t (.slice (some ⟨g, 0, none⟩) m c') g w3.heap.size C' i W → W.cell? ⟨w.heap.size, 4, none⟩ = some (.slice (some ⟨g, 0, none⟩) m c') ∧ (∃ C, Row W g (i * 5) x C) ∧ ∀ o, W.frozen? ⟨g, o, none⟩ = false) := Lib.hid fun W h => by
          obtain ⟨Cx, g1, _⟩ := (h.d (by omega)).rows i hi1
          rw [HXX.out] at g1
          exact ⟨h.box.l, ⟨Cx, g1⟩, (h.d (by omega)).fz⟩
        clear hW5 hk5 hx5 r0 r1 r2 r3 r4
        go_region_with (go_at_call 36; (with_reducible refine (HII.out _ ?_).mono ?_); (exact HK5.out); rintro e w6 ⟨A2, c2, rfl, hl6, hb6⟩; obtain ⟨e4, ⟨Cx, hr6⟩, hz6⟩ := HF.out _ (HK5.out.on hb6); have e5 := hr6.k; have e6 := hr6.g; have e7 := hr6.n; have e8 := hr6.s; have e9 := hr6.l; have H6 := Lib.hid (And.intro hl6 hb6); clear hl6 hb6 hr6)
        all_goals
          go_wp2_with fail
          clear d0 d1 d2 d3 d4 d5 e4 e5 e6 e7 e8 e9 hz6
          go_roundw
          case rel => exact ⟨i + 1, hlt, by go_num, Lib.hid (HSET.out w6 _ (HK5.out.on H6.out.2) (H6.out.1.low HK5.out.z))⟩
          case measure => simp [intOf]; omega
      · obtain rfl : m = i := by omega
        have hrow := hk.out.box
        have q0 := hrow.k
        have q1 := hrow.g
        have q2 := hrow.n
        have q3 := hrow.s
        have q4' := hrow.l
        have b0 := hk.out.res
        have bc0 : wr.cell? ⟨w.heap.size + 1, 0, none⟩ = some (.int .i64 0) := b0.cell 0
        have bc1 : wr.cell? ⟨w.heap.size + 1, 1, none⟩ = some (.bool false) := b0.cell 1
        have bc2 : wr.cell? ⟨w.heap.size + 1, 2, none⟩ = some (.int .u64 0) := b0.cell 2
        have bc3 : wr.cell? ⟨w.heap.size + 1, 3, none⟩ = some (.string ⟨#[]⟩) := b0.cell 3
        have bc4 : wr.cell? ⟨w.heap.size + 1, 4, none⟩ = some (.slice none 0 0) := b0.cell 4
        have bf0 := b0.frozen 0
        have bf1 := b0.frozen 1
        have bf2 := b0.frozen 2
        have bf3 := b0.frozen 3
        have bf4 := b0.frozen 4
        have HE : Hid (Lsb (w.heap.size + 2) wr (.slice A' m c') t.l) := Lib.hid (by
          have h := hk.out
          rw [← HM.out] at h ⊢
          exact h.end_ HA'.out)
        have HS := Lib.hid (bk_set5 (t := zt) (C := .slice none 0 0) b0 (.int .i64 t.k) (.bool t.g) (.int .u64 (t.n : Int)) (.string t.s) (.slice A' m c'))
        clear b0 hrow
        go_wp2_with fail
        have d0 := HS.out.cell 0
        have d1 := HS.out.cell 1
        have d2 := HS.out.cell 2
        have d3 := HS.out.cell 3
        have d4 := HS.out.cell 4
        simp only [List.getElem?_toArray, List.getElem?_cons_zero, List.getElem?_cons_succ] at d0 d1 d2 d3 d4
        refine bodyPost_ret (v := .agg #[.int .i64 t.k, .bool t.g, .int .u64 (t.n : Int), .string t.s, .slice A' m c']) (by simp [results, Try.results36, go_sem, d0, d1, d2, d3, d4]) rfl ⟨A', c', by rw [HM.out]; rfl, ?_, ?_⟩
        · rw [HM.out]
          exact (HE.out.keep (Nat.le_of_eq (set5_size wr (w.heap.size + 1) 0 _ _ _ _ _).symm) fun b hb _ => set5_other wr (w.heap.size + 1) 0 _ _ _ _ _ b (by omega)).low (by omega)
        · exact below_set5 hk.out.b (Nat.le_succ _) _ _ _ _ _
end Go.Proofs.Yteebokhpoppgeaa.nn
namespace Go.Proofs.Yteebokhpoppgeaa.nn
open Go.RowKit

/-- what At answers: the value lies in new memory -/
def AtAns3 (r : Option VT) (W : World) (e : Ending) (W' : World) : Prop := ∃ C : Value, e = .returned (.tuple #[vv (atV r) C, .int .i64 (atE r : Int)]) ∧ Lsb W.heap.size W' C (atV r).l ∧ Below W.heap.size W W'
set_option maxRecDepth 100000 in
set_option maxHeartbeats 4000000 in
theorem vat0_any (w0 : World) (t : VT) (C : Value) (A : Option Addr) (zs : List Int) (c : Nat) (w : World) (h0 : Below w0.heap.size w0 w) (hC : Lst w0 C t.l) (hA : Ri w A zs) (hn : zs.length ≤ 4611686018427387904) (_ : zs.length ≤ c) (hb : cnt t ≤ 1099511627776) :
    Calls Try.prog 25 #[vv t C, .slice A zs.length c] w (AtAns3 (atP t zs) w) := by
  obtain ⟨R, hR⟩ : ∃ R, atP t zs = R := ⟨_, rfl⟩
  rw [hR]
  have HB0 := Lib.hid (Bx.new w t C zt (.slice none 0 0))
  have HR := Lib.hid hR
  clear hR
  unfold vv
  go_enter Try.func25, Try.ntmps25
  go_wp2_with fail
  go_loopw [10] (fun s6 wr => ∃ (i : Nat) (t' : VT) (C' : Value), i ≤ zs.length ∧ s6 = .int .i64 (i : Int) ∧ Hid (atP t' (zs.drop i) = R ∧ Lst w0 C' t'.l ∧ t'.l.length ≤ 4611686018427387904 ∧ cnt t' ≤ 1099511627776) ∧ Hid (Bx w t' C' zt (.slice none 0 0) wr)) (fun s6 _ => zs.length - (intOf s6).toNat)
  case atStart => exact ⟨0, t, C, Nat.zero_le _, rfl, Lib.hid ⟨HR.out, hC, by have := cnt_mk t; have := len_cntL t.l; omega, hb⟩, HB0⟩
  case round =>
    obtain ⟨i, t', C', hi, rfl, hI, hk⟩ := hrel
    obtain ⟨A', c', rfl, hlc, hA'⟩ := hI.out.2.1.out
    have hlb := hI.out.2.2.1
    obtain ⟨m, hm⟩ : ∃ m, t'.l.length = m := ⟨_, rfl⟩
    have hk1 := hk.out
    rw [hm] at hk1 hlc hlb
    have ac0 : wr.cell? ⟨w.heap.size, 0, none⟩ = some (.int .i64 t'.k) := hk1.r.cell 0
    have af0 : wr.frozen? ⟨w.heap.size, 0, none⟩ = false := hk1.r.frozen 0
    have ac1 : wr.cell? ⟨w.heap.size, 1, none⟩ = some (.bool t'.g) := hk1.r.cell 1
    have af1 : wr.frozen? ⟨w.heap.size, 1, none⟩ = false := hk1.r.frozen 1
    have ac2 : wr.cell? ⟨w.heap.size, 2, none⟩ = some (.int .u64 (t'.n : Int)) := hk1.r.cell 2
    have af2 : wr.frozen? ⟨w.heap.size, 2, none⟩ = false := hk1.r.frozen 2
    have ac3 : wr.cell? ⟨w.heap.size, 3, none⟩ = some (.string t'.s) := hk1.r.cell 3
    have af3 : wr.frozen? ⟨w.heap.size, 3, none⟩ = false := hk1.r.frozen 3
    have ac4 : wr.cell? ⟨w.heap.size, 4, none⟩ = some (.slice A' m c') := hk1.r.cell 4
    have af4 : wr.frozen? ⟨w.heap.size, 4, none⟩ = false := hk1.r.frozen 4
    have bc0 : wr.cell? ⟨w.heap.size + 1, 0, none⟩ = some (.int .i64 0) := hk1.r2.cell 0
    have bf0 : wr.frozen? ⟨w.heap.size + 1, 0, none⟩ = false := hk1.r2.frozen 0
    have bc1 : wr.cell? ⟨w.heap.size + 1, 1, none⟩ = some (.bool false) := hk1.r2.cell 1
    have bf1 : wr.frozen? ⟨w.heap.size + 1, 1, none⟩ = false := hk1.r2.frozen 1
    have bc2 : wr.cell? ⟨w.heap.size + 1, 2, none⟩ = some (.int .u64 0) := hk1.r2.cell 2
    have bf2 : wr.frozen? ⟨w.heap.size + 1, 2, none⟩ = false := hk1.r2.frozen 2
    have bc3 : wr.cell? ⟨w.heap.size + 1, 3, none⟩ = some (.string ⟨#[]⟩) := hk1.r2.cell 3
    have bf3 : wr.frozen? ⟨w.heap.size + 1, 3, none⟩ = false := hk1.r2.frozen 3
    have bc4 : wr.cell? ⟨w.heap.size + 1, 4, none⟩ = some (.slice none 0 0) := hk1.r2.cell 4
    have bf4 : wr.frozen? ⟨w.heap.size + 1, 4, none⟩ = false := hk1.r2.frozen 4
    by_cases hlt : i < zs.length
    · rcases hA with hz0 | ⟨b, off, rfl, hbl, hcell⟩
      · rw [hz0] at hlt; exact absurd hlt (by simp)
      have hz := (hk.out.b.cell (p := ⟨b, off + i, none⟩) hbl).trans (hcell i hlt)
      obtain ⟨z, hzz⟩ : ∃ z, zs[i] = z := ⟨_, rfl⟩
      have hno := @atP_no t' zs i hlt
      rw [hzz, hm] at hno
      rw [hzz] at hz
      by_cases hbad : z < 0 ∨ 0 ≤ z ∧ (m : Int) ≤ z
      · have HN : Hid (R = none) := Lib.hid (by rw [← hI.out.1]; exact hno (by omega))
        have hgb : w.heap.size ≤ w.heap.size + 1 := Nat.le_succ _
        have HBF : Hid (Below w.heap.size w wr) := Lib.hid hk.out.b
        clear hno hcell hA' hm hzz hk1
        rcases hbad with hz0 | ⟨hz0, hz1⟩
        all_goals
          go_wp2_with fail
          exact bodyPost_ret (v := .tuple #[.agg #[.int .i64 0, .bool false, .int .u64 0, .string ⟨#[]⟩, .slice none 0 0], .int .i64 1]) (by simp [results, Try.results25, go_sem, bc0, bc1, bc2, bc3, bc4]) rfl ⟨.slice none 0 0, by rw [HN.out]; rfl, by rw [HN.out]; exact .nil_, below_set5 HBF.out hgb _ _ _ _ _⟩
      · obtain ⟨j, rfl⟩ : ∃ j : Nat, z = (j : Int) := ⟨z.toNat, by omega⟩
        have hjm : j < m := by omega
        have hj2 : j < t'.l.length := by omega
        rcases hA' with ⟨_, hz0, _⟩ | ⟨b2, off2, DD, rfl, hb2, hrow, hkid⟩
        · rw [hz0] at hj2; exact absurd hj2 (by simp)
        obtain ⟨u, hu⟩ : ∃ u, t'.l[j] = u := ⟨_, rfl⟩
        obtain ⟨Cu, hCu⟩ : ∃ u, DD j = u := ⟨_, rfl⟩
        have hr := (hrow j hj2).below (h0.trans (hk.out.b.mono h0.size)) hb2
        have hkl := hkid j hj2
        have hon2 := atP_on hlt hzz hj2
        have hcn := cnt_at hj2
        rw [hu, hCu] at hr hkl
        rw [hu] at hon2 hcn
        obtain ⟨Au, cu, rfl, _, _⟩ := hkl.out
        have q0 := hr.k
        have q1 := hr.g
        have q2 := hr.n
        have q3 := hr.s
        have q4 := hr.l
        have hI2 : Hid (atP u (zs.drop (i + 1)) = R ∧ Lst w0 (.slice Au u.l.length cu) u.l ∧ u.l.length ≤ 4611686018427387904 ∧ cnt u ≤ 1099511627776) := Lib.hid ⟨by rw [← hon2]; exact hI.out.1, hkl, by
          have h1 := cnt_mk u; have h2 := len_cntL u.l; have h3 := cnt_mk t'; have := hI.out.2.2.2; omega, by have h3 := cnt_mk t'; have := hI.out.2.2.2; omega⟩
        have K := Lib.hid (And.intro hk1.b (And.intro hk1.r hk1.r2))
        have hne : w.heap.size ≠ w.heap.size + 1 := by omega
        clear hno hon2 hcell hm hzz hk1 hr hkl hrow hkid hu hCu hcn hj2 hbad
        go_wp2_with fail
        go_roundw
        case rel => exact ⟨i + 1, u, .slice Au u.l.length cu, hlt, by go_num, hI2, Lib.hid ⟨below_set5 K.out.1 (Nat.le_refl _) _ _ _ _ _, bk_set5 (t := t') (C := .slice (some ⟨b2, off2, none⟩) m c') K.out.2.1 _ _ _ _ _, bk_other5 K.out.2.2 hne _ _ _ _ _⟩⟩
        case measure => simp [intOf]; omega
    · obtain rfl : i = zs.length := by omega
      have HN : Hid (R = some t') := Lib.hid (by have := hI.out.1; rw [List.drop_length] at this; rw [← this]; rfl)
      have HL : Hid (Lst w0 (.slice A' m c') t'.l) := Lib.hid (by have := hI.out.2.1; rw [hm] at this; exact this)
      have HCL : Hid (Calls Try.prog 36 #[vv t' (.slice A' m c')] wr (DcAns t' wr)) := Lib.hid (vclone_any _ (Nat.le_refl _) t' (.slice A' m c') wr hI.out.2.2.2 (HL.out.keep (h0.trans (hk.out.b.mono h0.size)) (Nat.le_refl _)))
      have hzw := hk1.r2.lt
      have HK := Lib.hid (And.intro hk1.r2 (And.intro hk1.b hzw))
      obtain ⟨m', hm'⟩ : ∃ m', t'.l.length = m' := ⟨_, rfl⟩
      have HMM := Lib.hid hm'
      clear hA' hm hk1 hzw hm'
      unfold vv at HCL
      go_wp2_with fail
      refine HCL.out.mono ?_
      rintro e w2 ⟨A2, c2, rfl, hl2, hb2⟩
      rw [HMM.out] at hl2 ⊢
      unfold vv
      have b0 := HK.out.1.below hb2 HK.out.2.2
      have B2 := Lib.hid (HK.out.2.1.trans (hb2.mono HK.out.2.1.size))
      have HL2 := Lib.hid hl2
      have HZ := Lib.hid HK.out.2.2
      have g0 := b0.cell 0
      have g1 := b0.cell 1
      have g2 := b0.cell 2
      have g3 := b0.cell 3
      have g4 := b0.cell 4
      have gf0 := b0.frozen 0
      have gf1 := b0.frozen 1
      have gf2 := b0.frozen 2
      have gf3 := b0.frozen 3
      have gf4 := b0.frozen 4
      simp only [vc, List.getElem?_toArray, List.getElem?_cons_zero, List.getElem?_cons_succ] at g0 g1 g2 g3 g4
      have HS := Lib.hid (bk_set5 (t := zt) (C := .slice none 0 0) b0 (.int .i64 t'.k) (.bool t'.g) (.int .u64 (t'.n : Int)) (.string t'.s) (.slice A2 m' c2))
      clear b0 hl2 hb2 ac0 ac1 ac2 ac3 ac4 af0 af1 af2 af3 af4 bc0 bc1 bc2 bc3 bc4 bf0 bf1 bf2 bf3 bf4 HCL
      go_wp2_with fail
      have d0 := HS.out.cell 0
      have d1 := HS.out.cell 1
      have d2 := HS.out.cell 2
      have d3 := HS.out.cell 3
      have d4 := HS.out.cell 4
      simp only [List.getElem?_toArray, List.getElem?_cons_zero, List.getElem?_cons_succ] at d0 d1 d2 d3 d4
      refine bodyPost_ret (v := .tuple #[.agg #[.int .i64 t'.k, .bool t'.g, .int .u64 (t'.n : Int), .string t'.s, .slice A2 m' c2], .int .i64 0]) (by simp [results, Try.results25, go_sem, d0, d1, d2, d3, d4]) rfl ⟨.slice A2 m' c2, by rw [HN.out]; rfl, ?_, below_set5 B2.out (Nat.le_succ _) _ _ _ _ _⟩
      rw [HN.out]
      exact (HL2.out.keep (Nat.le_of_eq (set5_size w2 (w.heap.size + 1) 0 _ _ _ _ _).symm) fun b hb _ => set5_other w2 (w.heap.size + 1) 0 _ _ _ _ _ b (by have := HZ.out; omega)).low (by have := HZ.out; omega)
end Go.Proofs.Yteebokhpoppgeaa.nn
namespace Go.Proofs.Yteebokhpoppgeaa.nn
open Go.RowKit

theorem Bk.al {W : World} {g : Nat} {T : TypeId} {cs : Array Value} (h : Bk W g T cs) (o : Obj) : Bk (W.alloc o) g T cs := (Below.heap_alloc _ _ _ h.lt).trans h
end Go.Proofs.Yteebokhpoppgeaa.nn
