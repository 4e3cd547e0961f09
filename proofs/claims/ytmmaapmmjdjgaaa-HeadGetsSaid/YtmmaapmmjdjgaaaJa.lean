/- Joined texts, what is wanted of them: Num, Mem, Write, Append, Long, Add, Awake, NatBytes, HdA, Bits, HdB, HdC, HdD, HpA, HpB, FromBytes, HdN, HpC, HpOwn, Bytes, HdLaws, OpenS, Open8. -/
import Derived.Below
import Derived.Laws.OwnMore
import Derived.Deep.AppendLies
import Derived.Deep.Draws
import Derived.Laws.Rows
import Derived.Test.YtmmaapmmjdjgaaaProg
import Derived.WalkKit
import Derived.Lib.Hide
import Derived.Maps.AppendAt
import Derived.RegionTactic
import Derived.OwnWalk
import Derived.Deep.RegionLaw
import Derived.WalkSpells
import Derived.Deep.RegionHeld3
import Derived.Deep.QuietTactic
import Derived.BigQuiet
import Derived.Laws.BitsAllLaws
import Derived.Test.YtmmaapmmjdjgaaaShelf
import Derived.Deep.RegionWith
import Derived.IntWalk
import Derived.Lib.BitFns
import Derived.RowKit
import Derived.Deep.DeepCutAuto
import Derived.Laws.BytesArg
import Derived.Test.YtmmaapmmjdjgaaaRows
import Derived.ProofKit
import Derived.SizedLaws
import Derived.ChangeMaps5
import Derived.StillTailTactics
namespace Go.Proofs.Ytmmaapmmjdjgaaa.nn

/-- the value of n limbs of f at base B, the lowest first -/
def sm (B : Nat) (f : Nat → Nat) : Nat → Nat
  | 0 => 0
  | n + 1 => sm B f n + f n * B ^ n

/-- all limbs below B -/
def Lt (B : Nat) (f : Nat → Nat) (n : Nat) : Prop := ∀ i, i < n → f i < B

/-- trimmed: no zero limb at the end -/
def Trm (f : Nat → Nat) (n : Nat) : Prop := n = 0 ∨ f (n - 1) ≠ 0

theorem Lt.mono {B : Nat} {f : Nat → Nat} {n m : Nat} (h : Lt B f n) (hm : m ≤ n) : Lt B f m := fun i hi => h i (by omega)

end Go.Proofs.Ytmmaapmmjdjgaaa.nn
namespace Go.Proofs.Ytmmaapmmjdjgaaa.nn
open Go.RowKit

/-- the slice at address A reads as n integers f 0 .. f (n - 1) of kind k, in a block that is there -/
def Rd (w : World) (k : IntKind) (A : Option Addr) (n : Nat) (f : Nat → Nat) : Prop :=
  0 < n → ∃ b off, A = some ⟨b, off, none⟩ ∧ b < w.heap.size ∧ ∀ i, i < n → w.cell? ⟨b, off + i, none⟩ = some (.int k (f i : Int))

section
variable {w w' : World} {k : IntKind} {A : Option Addr} {n m : Nat} {f g : Nat → Nat}

theorem Rd.keep (h : Rd w k A n f) (hs : w.heap.size ≤ w'.heap.size) (hk : ∀ b o, b < w.heap.size → w'.cell? ⟨b, o, none⟩ = w.cell? ⟨b, o, none⟩) : Rd w' k A n f := fun hn => by
  obtain ⟨b, off, e, hb, hc⟩ := h hn
  exact ⟨b, off, e, by omega, fun i hi => (hk b _ hb).trans (hc i hi)⟩
theorem Rd.below (h : Rd w k A n f) (hb : Below w.heap.size w w') : Rd w' k A n f :=
  h.keep hb.size fun b o hlt => hb.cell (p := ⟨b, o, none⟩) hlt
theorem Rd.drew (h : Rd w k A n f) : Rd w.drew k A n f := h
theorem Rd.alloc (h : Rd w k A n f) (o : Obj) : Rd (w.alloc o) k A n f :=
  h.keep (by simp) fun _ _ hlt => World.cell?_alloc_lt w o _ hlt
theorem Rd.mono (h : Rd w k A n f) (hm : m ≤ n) : Rd w k A m f := fun h0 => by
  obtain ⟨b, off, e, hb, hc⟩ := h (by omega)
  exact ⟨b, off, e, hb, fun i hi => hc i (by omega)⟩
theorem Rd.congr (h : Rd w k A n f) (e : ∀ i, i < n → f i = g i) : Rd w k A n g := fun h0 => by
  obtain ⟨b, off, ea, hb, hc⟩ := h h0
  exact ⟨b, off, ea, hb, fun i hi => by rw [← e i hi]; exact hc i hi⟩
theorem Rd.lt {b o : Nat} (h : Rd w k A n f) (e : A = some ⟨b, o, none⟩) (h0 : 0 < n) : b < w.heap.size := by
  obtain ⟨b', o', e', hb, _⟩ := h h0
  rw [e] at e'
  injection e' with e'
  injection e' with e'
  omega
theorem Rd.none_ : Rd w k A 0 f := fun h => absurd h (by omega)

/-- the limbs as a list of values -/
def vl (k : IntKind) (f : Nat → Nat) (n : Nat) : List Value := (List.range n).map fun i => .int k (f i : Int)

theorem vl_length (k : IntKind) (f : Nat → Nat) (n : Nat) : (vl k f n).length = n := by simp [vl]
theorem vl_at (k : IntKind) (f : Nat → Nat) {n i : Nat} (h : i < n) : (vl k f n)[i]? = some (.int k (f i : Int)) := by simp [vl, h]
theorem vl_congr (k : IntKind) {n : Nat} (e : ∀ i, i < n → f i = g i) : vl k f n = vl k g n :=
  List.map_congr_left fun i hi => by rw [e i (List.mem_range.1 hi)]
theorem vl_one (k : IntKind) (f : Nat → Nat) (n : Nat) : ∀ u ∈ vl k f n, u.oneCell' = true := by
  intro u hu
  obtain ⟨i, _, rfl⟩ := List.mem_map.1 hu
  rfl
theorem vl_append (k : IntKind) (f g : Nat → Nat) (n m : Nat) : vl k f n ++ vl k g m = vl k (fun i => if i < n then f i else g (i - n)) (n + m) := by
  induction m with
  | zero =>
    simp only [vl, List.range_zero, List.map_nil, List.append_nil, Nat.add_zero]
    exact List.map_congr_left fun i hi => by rw [if_pos (List.mem_range.1 hi)]
  | succ m ih =>
    have e1 : vl k g (m + 1) = vl k g m ++ [.int k (g m : Int)] := by simp [vl, List.range_succ]
    have e2 : vl k (fun i => if i < n then f i else g (i - n)) (n + (m + 1)) = vl k (fun i => if i < n then f i else g (i - n)) (n + m) ++ [.int k (g m : Int)] := by
      simp only [vl, ← Nat.add_assoc, List.range_succ, List.map_append, List.map_cons, List.map_nil]
      rw [if_neg (by omega), Nat.add_sub_cancel_left]
    rw [e1, e2, ← ih, List.append_assoc]

/-- what the call owns reads as its limbs -/
theorem Rd.of_own {base : Nat} {e : TypeId} {v : Value} (h : w.ownsRow base e 1 v n (vl k f n)) : ∃ A c, v = .slice A n c ∧ n ≤ c ∧ c ≤ maxLen ∧ Rd w k A n f := by
  have hh := h
  rcases h.2 with ⟨rfl, rfl⟩ | ⟨b, cap, cur, rfl, _, hb, hc, hm, _⟩
  · exact ⟨none, 0, rfl, Nat.le_refl _, by simp [maxLen], Rd.none_⟩
  · refine ⟨_, cap, rfl, hc, hm, fun _ => ⟨b, 0, rfl, (Array.getElem?_eq_some_iff.1 hb).1, fun i hi => ?_⟩⟩
    rw [Nat.zero_add, hh.cellAt i (by omega)]
    exact vl_at k f hi

end

end Go.Proofs.Ytmmaapmmjdjgaaa.nn
namespace Go.Proofs.Ytmmaapmmjdjgaaa.nn
open Go.RowKit

/-- block g is just the cells cur of element type e, none frozen -/
def Bk (w : World) (g : Nat) (e : TypeId) (cur : Array Value) : Prop := w.heap[g]? = some (.cells cur e (0, 0))

/-- from place off on stand the limbs f -/
def Ints (cur : Array Value) (k : IntKind) (off n : Nat) (f : Nat → Nat) : Prop := ∀ i, i < n → cur[off + i]? = some (.int k (f i : Int))

/-- in block g, between off and off + n alone, something was written -/
structure Wrote (w w' : World) (g : Nat) (e : TypeId) (cur cur' : Array Value) (off n : Nat) : Prop where
  blk : Bk w' g e cur'
  size : cur'.size = cur.size
  out : ∀ i, i < off ∨ off + n ≤ i → cur'[i]? = cur[i]?
  grown : w.grownBy w' (some g)
  hsize : w'.heap.size = w.heap.size

section
variable {w w' w'' : World} {g : Nat} {e : TypeId} {cur cur' cur'' : Array Value} {off n m i : Nat} {k : IntKind} {f : Nat → Nat}

theorem Bk.lt (h : Bk w g e cur) : g < w.heap.size := (Array.getElem?_eq_some_iff.1 h).1
theorem Bk.cell (h : Bk w g e cur) (i : Nat) : w.cell? ⟨g, i, none⟩ = cur[i]? := cell_of_row w g i cur e (0, 0) h
theorem Bk.below {B : Nat} (h : Bk w g e cur) (hb : Below B w w') (hg : g < B) : Bk w' g e cur := (hb.block g hg).trans h
theorem Bk.grown {row : Option Nat} (h : Bk w g e cur) (hb : w.grownBy w' row) (hg : some g ≠ row) : Bk w' g e cur := (hb.block g h.lt hg).trans h

theorem Ints.mono (h : Ints cur k off n f) (hm : m ≤ n) : Ints cur k off m f := fun i hi => h i (by omega)
theorem Ints.congr {f' : Nat → Nat} (h : Ints cur k off n f) (e : ∀ i, i < n → f i = f' i) : Ints cur k off n f' := fun i hi => by rw [← e i hi]; exact h i hi
theorem Ints.lt (h : Ints cur k off n f) (hi : i < n) : off + i < cur.size := (Array.getElem?_eq_some_iff.1 (h i hi)).1
theorem Wrote.refl (h : Bk w g e cur) (off n : Nat) : Wrote w w g e cur cur off n :=
  ⟨h, rfl, fun _ _ => rfl, ⟨rfl, rfl, rfl, Nat.le_refl _, fun _ _ _ => rfl⟩, rfl⟩
theorem Wrote.trans (h : Wrote w w' g e cur cur' off n) (h' : Wrote w' w'' g e cur' cur'' off n) : Wrote w w'' g e cur cur'' off n :=
  ⟨h'.blk, h'.size.trans h.size, fun i hi => (h'.out i hi).trans (h.out i hi),
   ⟨h'.grown.os.trans h.grown.os, h'.grown.tape.trans h.grown.tape, h'.grown.output.trans h.grown.output, Nat.le_trans h.grown.size h'.grown.size,
    fun b hb hne => (h'.grown.block b (by have := h.hsize; omega) hne).trans (h.grown.block b hb hne)⟩, h'.hsize.trans h.hsize⟩
end

end Go.Proofs.Ytmmaapmmjdjgaaa.nn
namespace Go.Proofs.Ytmmaapmmjdjgaaa.nn
open Go.RowKit

/-- n limbs of f, then h's -/
def jn (f : Nat → Nat) (n : Nat) (h : Nat → Nat) : Nat → Nat := fun i => if i < n then f i else h (i - n)
theorem jn_lo (f h : Nat → Nat) {n i : Nat} (hi : i < n) : jn f n h i = f i := by simp [jn, hi]
theorem jn_hi (f h : Nat → Nat) (n i : Nat) : jn f n h (n + i) = h i := by
  rw [jn, if_neg (by omega), Nat.add_sub_cancel_left]
theorem jn_zero (f h : Nat → Nat) : jn f 0 h = h := by funext i; simp [jn]
/-- a new block of one cell -/
theorem rd_one (w : World) (K : IntKind) (x : Nat) (e : TypeId) : Rd (w.alloc (.cells #[.int K (x : Int)] e)) K (some ⟨w.heap.size, 0, none⟩) 1 (fun _ => x) := fun _ =>
  ⟨w.heap.size, 0, rfl, by simp, fun i hi => by
    obtain rfl : i = 0 := by omega
    rw [World.cell?_alloc_at _ _ _ _ rfl]; rfl⟩

section
variable {P : Program} {w : World}

theorem run_app (base : Nat) (t ty e : TypeId) (i : TypeInfo) (z : Value) (bytes : Nat) (ht : P.underlying t = some (.slice e)) (hi : P.info? e = some i) (hz : i.zero = some z)
    (hsize : i.size = 1) (hby : i.bytes = bytes) (hzs : z.cells.size = 1)
    (K : IntKind) (v : Value) (n : Nat) (f : Nat → Nat) (hown : w.ownsRow base e 1 v n (vl K f n))
    (A : Option Addr) (m c : Nat) (h : Nat → Nat) (hr : Rd w K A m h) (h63 : n + m ≤ maxLen) (hbytes : (n + m) * bytes ≤ 140737488355328) (hbase : base ≤ w.heap.size) :
    ∃ v' w', (Builtin.append_ #[t, t] ty #[v, .slice A m c]).run P w = .ok v' w' ∧ w'.ownsRow base e 1 v' (n + m) (vl K (jn f n h) (n + m)) ∧ Below base w w' := by
  have hb0 : ∀ w' : World, w.grownBy w' v.ownBlock → Below base w w' := fun w' hg => (Below.refl base w).grown hg hbase (fun k hk => (hown.lt k hk).1)
  rcases A with _ | ad
  · have hm : m = 0 := by
      rcases Nat.eq_zero_or_pos m with h0 | h0
      · exact h0
      · obtain ⟨b, off, e, _⟩ := hr h0
        cases e
    subst hm
    have e1 : vl K (jn f n h) (n + 0) = vl K f n := vl_congr K fun i hi => jn_lo f h hi
    refine ⟨v, w, ?_, by rw [e1]; exact hown, Below.refl _ _⟩
    rcases hown.2 with ⟨rfl, rfl⟩ | ⟨g, cap, cur, rfl, _, _, hnc, _⟩
    · simp [Builtin.append_, run_underlying ht, sizeOf, typeInfo, hi, Builtin.lenOf, Builtin.firstCells]
    · simp [Builtin.append_, run_underlying ht, sizeOf, typeInfo, hi, Builtin.lenOf, Builtin.firstCells, hnc, storeCells]
  · have hcells : ∀ j u, (vl K h m)[j]? = some u → w.cell? (ad.add j) = some u := by
      intro j u hu
      have hj : j < m := by
        have := (List.getElem?_eq_some_iff.1 hu).1
        rwa [vl_length] at this
      obtain ⟨b, off, e1, _, hc⟩ := hr (by omega)
      injection e1 with e1
      subst e1
      rw [vl_at K h hj] at hu
      injection hu with hu
      subst hu
      have hadd : (⟨b, off, none⟩ : Addr).add j = ⟨b, off + j, none⟩ := by unfold Addr.add; split <;> simp_all
      rw [hadd]
      exact hc j hj
    obtain ⟨v', w', hrun, h2, h3, _⟩ := run_append_own_at (P := P) w base t ty e i z 1 bytes ht hi hz hsize hby hzs (by omega) v n _ hown ad m c (vl K h m) (by rw [vl_length, Nat.mul_one]) hcells (vl_one K h m) h63 hbytes hbase
    exact ⟨v', w', hrun, by rw [vl_append] at h2; exact h2, hb0 w' h3⟩

theorem wp_app {o : Oper} {a : Act} {R : Act → World → Prop} {Q : Exit → Act → World → Prop} (s x : Operand) (t : TypeId)
    (ho : o.op = .call { callee := .builtin .append, args := #[s, x], argTypes := #[t, t] })
    (base : Nat) (e : TypeId) (i : TypeInfo) (z : Value) (bytes : Nat) (ht : P.underlying t = some (.slice e)) (hi : P.info? e = some i) (hz : i.zero = some z)
    (hsize : i.size = 1) (hby : i.bytes = bytes) (hzs : z.cells.size = 1)
    (K : IntKind) (v : Value) (n : Nat) (f : Nat → Nat) (hs : a.eval s = v) (hown : w.ownsRow base e 1 v n (vl K f n))
    (A : Option Addr) (m c : Nat) (h : Nat → Nat) (hx : a.eval x = .slice A m c) (hr : Rd w K A m h) (h63 : n + m ≤ maxLen) (hbytes : (n + m) * bytes ≤ 140737488355328) (hbase : base ≤ w.heap.size)
    (k : ∀ v' w', w'.ownsRow base e 1 v' (n + m) (vl K (jn f n h) (n + m)) → Below base w w' → R (a.put o.dst v') w') : o.wp P a w R Q := by
  obtain ⟨v', w', hrun, h2, h3⟩ := run_app (P := P) base t o.type e i z bytes ht hi hz hsize hby hzs K v n f hown A m c h hr h63 hbytes hbase
  unfold Oper.wp execOp
  simp only [ho, resolve, invoke, builtin, Sem.run_bind, Sem.run_pure, Result.andThen_ok, List.map_toArray, List.map_cons, List.map_nil, hs, hx, hrun]
  exact k v' w' h2 h3

theorem wpList_app {ops : Array Oper} {rest : List Oper} {o : Oper} {a : Act} {Q : Exit → Act → World → Prop} (hgd : o.guard = none) (s x : Operand) (t : TypeId)
    (ho : o.op = .call { callee := .builtin .append, args := #[s, x], argTypes := #[t, t] })
    (base : Nat) (e : TypeId) (i : TypeInfo) (z : Value) (bytes : Nat) (ht : P.underlying t = some (.slice e)) (hi : P.info? e = some i) (hz : i.zero = some z)
    (hsize : i.size = 1) (hby : i.bytes = bytes) (hzs : z.cells.size = 1)
    (K : IntKind) (v : Value) (n : Nat) (f : Nat → Nat) (hs : a.eval s = v) (hown : w.ownsRow base e 1 v n (vl K f n))
    (A : Option Addr) (m c : Nat) (h : Nat → Nat) (hx : a.eval x = .slice A m c) (hr : Rd w K A m h) (h63 : n + m ≤ maxLen) (hbytes : (n + m) * bytes ≤ 140737488355328) (hbase : base ≤ w.heap.size)
    (k : ∀ v' w', w'.ownsRow base e 1 v' (n + m) (vl K (jn f n h) (n + m)) → Below base w w' → wpList P ops Q rest (a.put o.dst v') w') : wpList P ops Q (o :: rest) a w :=
  wpList_plain hgd fun _ hK => wp_app s x t ho base e i z bytes ht hi hz hsize hby hzs K v n f hs hown A m c h hx hr h63 hbytes hbase fun v' w' h2 h3 => hK _ _ (k v' w' h2 h3)

end
end Go.Proofs.Ytmmaapmmjdjgaaa.nn
namespace Go.Proofs.Ytmmaapmmjdjgaaa.nn
open Go.RowKit

/-- a slice of slices of 32-bit limbs -/
def Rds (w : World) (A : Option Addr) (n : Nat) (AA : Nat → Option Addr) (L C : Nat → Nat) (F : Nat → Nat → Nat) : Prop :=
  0 < n → ∃ b off, A = some ⟨b, off, none⟩ ∧ b < w.heap.size ∧ ∀ i, i < n → w.cell? ⟨b, off + i, none⟩ = some (.slice (AA i) (L i) (C i)) ∧ L i ≤ C i ∧ C i ≤ maxLen ∧ Rd w .u32 (AA i) (L i) (F i)

theorem Rds.keep {w w' : World} {A : Option Addr} {n : Nat} {AA : Nat → Option Addr} {L C : Nat → Nat} {F : Nat → Nat → Nat} (h : Rds w A n AA L C F)
    (hs : w.heap.size ≤ w'.heap.size) (hk : ∀ b o, b < w.heap.size → w'.cell? ⟨b, o, none⟩ = w.cell? ⟨b, o, none⟩) : Rds w' A n AA L C F := fun hn => by
  obtain ⟨b, off, e, hb, hc⟩ := h hn
  exact ⟨b, off, e, by omega, fun i hi => ⟨(hk b _ hb).trans (hc i hi).1, (hc i hi).2.1, (hc i hi).2.2.1, (hc i hi).2.2.2.keep hs hk⟩⟩
theorem Rds.below {w w' : World} {A : Option Addr} {n : Nat} {AA : Nat → Option Addr} {L C : Nat → Nat} {F : Nat → Nat → Nat} (h : Rds w A n AA L C F)
    (hb : Below w.heap.size w w') : Rds w' A n AA L C F :=
  h.keep hb.size fun b o hlt => hb.cell (p := ⟨b, o, none⟩) hlt

end Go.Proofs.Ytmmaapmmjdjgaaa.nn
namespace Go.Proofs.Ytmmaapmmjdjgaaa.nn
open Go.RowKit

/-- the slice at A of length n reads as the trimmed number R -/
structure Num (w : World) (A : Option Addr) (n c : Nat) (f : Nat → Nat) (R : Nat) : Prop where
  le : n ≤ c
  cap : c ≤ maxLen
  rd : Rd w .u32 A n f
  lt : Lt (2 ^ 32) f n
  trm : Trm f n
  val : sm (2 ^ 32) f n = R

/-- the sum of the first i parts -/
def tot (L : Nat → Nat) (F : Nat → Nat → Nat) : Nat → Nat
  | 0 => 0
  | i + 1 => tot L F i + sm (2 ^ 32) (F i) (L i)

/-- what holds at the head of Add's loop -/
def AddLoop (old base : Nat) (w0 wr : World) (s : Value) (i n : Nat) (f : Nat → Nat) (L : Nat → Nat) (F : Nat → Nat → Nat) : Prop :=
  ∃ (n' : Nat) (f' : Nat → Nat), wr.ownsRow base 64 1 s n' (vl .u32 f' n') ∧ Below old w0 wr ∧ base ≤ wr.heap.size ∧ Lt (2 ^ 32) f' n' ∧ sm (2 ^ 32) f' n' = sm (2 ^ 32) f n + tot L F i ∧ n' ≤ 4096 + i

theorem AddLoop.below {old base : Nat} {w0 wr : World} {s : Value} {i n : Nat} {f : Nat → Nat} {L : Nat → Nat} {F : Nat → Nat → Nat} (h : AddLoop old base w0 wr s i n f L F) : Below old w0 wr := by
  obtain ⟨_, _, _, h, _⟩ := h
  exact h

end Go.Proofs.Ytmmaapmmjdjgaaa.nn
namespace Go.Proofs.Ytmmaapmmjdjgaaa.nn
open Go.RowKit

theorem hsz (w : World) (o : Obj) : (w.alloc o).heap.size = w.heap.size + 1 := by simp
end Go.Proofs.Ytmmaapmmjdjgaaa.nn
namespace Go.Proofs.Ytmmaapmmjdjgaaa.nn
open Go.RowKit

/-- the number of m bytes, the highest first -/
def be (b : Nat → Nat) : Nat → Nat
  | 0 => 0
  | k + 1 => be b k * 256 + b k
end Go.Proofs.Ytmmaapmmjdjgaaa.nn
namespace Go.Proofs.Ytmmaapmmjdjgaaa.nn

/-- how many bytes a number needs behind the first -/
def hdS (n : Nat) : Nat := if n < 24 then 0 else if n < 256 then 1 else if n < 65536 then 2 else if n < 4294967296 then 4 else 8
/-- the info of so many bytes; 0: none -/
def hdI (k : Int) : Nat := if k = 1 then 24 else if k = 2 then 25 else if k = 4 then 26 else if k = 8 then 27 else 0
/-- is a head refused for its kind, or for the others' numbers -/
def hdX (M : Int) (n : Nat) (k : Int) : Bool := decide (M < 0 ∨ 7 < M ∨ (M = 7 ∧ ((24 ≤ n ∧ n ≤ 31) ∨ 255 < n ∨ 1 < k ∨ (k = 1 ∧ n < 32))))
/-- is there a head with so many bytes -/
def hdOk (M : Int) (n : Nat) (k : Int) : Bool := !hdX M n k && decide ((k = 0 ∨ hdI k ≠ 0) ∧ (hdS n : Int) ≤ k)
/-- byte i of a head with k bytes behind the first -/
def hdB (M n k i : Nat) : Nat := if i = 0 then M * 32 + (if k = 0 then n else hdI k) else n / 256 ^ (k - i) % 256
theorem hdI_cases (k : Int) : (k = 1 ∧ hdI k = 24) ∨ (k = 2 ∧ hdI k = 25) ∨ (k = 4 ∧ hdI k = 26) ∨ (k = 8 ∧ hdI k = 27) ∨ (k ≠ 1 ∧ k ≠ 2 ∧ k ≠ 4 ∧ k ≠ 8 ∧ hdI k = 0) := by
  unfold hdI
  by_cases h1 : k = 1
  · subst h1; simp
  · by_cases h2 : k = 2
    · subst h2; simp
    · by_cases h4 : k = 4
      · subst h4; simp
      · by_cases h8 : k = 8
        · subst h8; simp
        · simp [h1, h2, h4, h8]
theorem hdS_cases (n : Nat) : (n < 24 ∧ hdS n = 0) ∨ (24 ≤ n ∧ n < 256 ∧ hdS n = 1) ∨ (256 ≤ n ∧ n < 65536 ∧ hdS n = 2) ∨ (65536 ≤ n ∧ n < 4294967296 ∧ hdS n = 4) ∨ (4294967296 ≤ n ∧ hdS n = 8) := by
  unfold hdS
  split
  · exact .inl ⟨‹_›, rfl⟩
  · split
    · exact .inr (.inl ⟨by omega, ‹_›, rfl⟩)
    · split
      · exact .inr (.inr (.inl ⟨by omega, ‹_›, rfl⟩))
      · split
        · exact .inr (.inr (.inr (.inl ⟨by omega, ‹_›, rfl⟩)))
        · exact .inr (.inr (.inr (.inr ⟨by omega, rfl⟩)))
theorem hdOk_parts {M : Int} {n : Nat} {k : Int} (h : hdOk M n k = true) : hdX M n k = false ∧ (0 ≤ M ∧ M ≤ 7) ∧ (k = 0 ∨ k = 1 ∨ k = 2 ∨ k = 4 ∨ k = 8) ∧ (hdS n : Int) ≤ k := by
  unfold hdOk at h
  simp only [Bool.and_eq_true, Bool.not_eq_true', decide_eq_true_eq] at h
  obtain ⟨h1, h2, h3⟩ := h
  have h4 := of_decide_eq_false h1
  refine ⟨h1, by omega, ?_, h3⟩
  have := hdI_cases k
  omega
/-- what Get answers of m bytes f: kind, info, number, how many bytes, error -/
def gtR (f : Nat → Nat) (m : Nat) : Nat × Nat × Nat × Nat × Nat :=
  if m = 0 then (0, 0, 0, 0, 3)
  else if (28 ≤ f 0 % 32 ∧ f 0 % 32 ≤ 30) ∨ (f 0 % 32 = 31 ∧ (f 0 / 32 < 2 ∨ f 0 / 32 = 6)) then (0, 0, 0, 0, 4)
  else if f 0 % 32 < 24 then (f 0 / 32, f 0 % 32, f 0 % 32, 1, 0)
  else if f 0 % 32 = 31 then (f 0 / 32, 31, 0, 1, 0)
  else if f 0 / 32 = 7 ∧ f 0 % 32 = 24 ∧ 1 < m ∧ f 1 < 32 then (0, 0, 0, 1, 4)
  else if m < 2 ^ (f 0 % 32 - 24) + 1 then (0, 0, 0, m, 3)
  else (f 0 / 32, f 0 % 32, be (fun i => f (1 + i)) (2 ^ (f 0 % 32 - 24)), 2 ^ (f 0 % 32 - 24) + 1, 0)
end Go.Proofs.Ytmmaapmmjdjgaaa.nn
namespace Go.Proofs.Ytmmaapmmjdjgaaa.nn
open Go.RowKit

theorem ofInt_64 (a : Nat) (ha : a < 9223372036854775808) : (BitVec.ofInt 64 (a : Int)).toNat = a := by
  rw [BitVec.ofInt_natCast, BitVec.toNat_ofNat]
  exact Nat.mod_eq_of_lt (by omega)
theorem wrapi64_nat {n : Nat} (h : n < 9223372036854775808) : IntKind.i64.wrap (n : Int) = (n : Int) := IntWalk.i64_in _ ⟨by omega, by omega⟩
theorem i64_or_nat (a b : Nat) (ha : a < 9223372036854775808) (hb : b < 9223372036854775808) : bits .or .i64 (a : Int) (b : Int) = ((a ||| b : Nat) : Int) := by
  have hx : a ||| b < 2 ^ 63 := Nat.or_lt_two_pow (by omega) (by omega)
  show IntKind.i64.wrap ((BitVec.ofInt 64 (a : Int) ||| BitVec.ofInt 64 (b : Int)).toNat : Int) = _
  rw [BitVec.toNat_or, ofInt_64 a ha, ofInt_64 b hb, wrapi64_nat (by omega)]
theorem and_mask (x k : Nat) : x &&& (2 ^ k - 1) = x % 2 ^ k := Nat.and_two_pow_sub_one_eq_mod x k
end Go.Proofs.Ytmmaapmmjdjgaaa.nn
namespace Go.Proofs.Ytmmaapmmjdjgaaa.nn
open Go.RowKit

theorem info_byte10 : (Try.prog.info? 5).map (fun i => (i.zero, i.size, i.bytes)) = some (some (.int .u8 0), 1, 1) := by kernel_rfl
theorem neI {c k : Int} (h : c ≠ k) : (c == k) = false := by rw [beq_eq_false_iff_ne]; exact h
set_option maxRecDepth 100000 in
theorem hsize_any (n : Nat) (w : World) : Calls Try.prog 17 #[.int .u64 (n : Int)] w fun e w' => e = .returned (.int .i64 (hdS n : Int)) ∧ w = w' := by
  by_cases h1 : (n : Int) < 24
  · have e : hdS n = 0 := by have := hdS_cases n; omega
    rw [e]
    clear e
    go_enter Try.func17, Try.ntmps17
    go_wp2
    go_ret
    exact ⟨rfl, rfl⟩
  · by_cases h2 : (n : Int) < 256
    · have e : hdS n = 1 := by have := hdS_cases n; omega
      rw [e]
      clear e
      go_enter Try.func17, Try.ntmps17
      go_wp2
      go_ret
      exact ⟨rfl, rfl⟩
    · by_cases h3 : (n : Int) < 65536
      · have e : hdS n = 2 := by have := hdS_cases n; omega
        rw [e]
        clear e
        go_enter Try.func17, Try.ntmps17
        go_wp2
        go_ret
        exact ⟨rfl, rfl⟩
      · by_cases h4 : (n : Int) < 4294967296
        · have e : hdS n = 4 := by have := hdS_cases n; omega
          rw [e]
          clear e
          go_enter Try.func17, Try.ntmps17
          go_wp2
          go_ret
          exact ⟨rfl, rfl⟩
        · have e : hdS n = 8 := by have := hdS_cases n; omega
          rw [e]
          clear e
          go_enter Try.func17, Try.ntmps17
          go_wp2
          go_ret
          exact ⟨rfl, rfl⟩
set_option maxRecDepth 100000 in
theorem hinfo_any (k : Int) (w : World) : Calls Try.prog 19 #[.int .i64 k] w fun e w' => e = .returned (.int .i64 (hdI k : Int)) ∧ w = w' := by
  rcases hdI_cases k with ⟨rfl, e⟩ | ⟨rfl, e⟩ | ⟨rfl, e⟩ | ⟨rfl, e⟩ | ⟨h1, h2, h4, h8, e⟩
  · rw [e]
    clear e
    go_enter Try.func19, Try.ntmps19
    go_wp2
    go_ret
    exact ⟨rfl, rfl⟩
  · rw [e]
    clear e
    go_enter Try.func19, Try.ntmps19
    go_wp2
    go_ret
    exact ⟨rfl, rfl⟩
  · rw [e]
    clear e
    go_enter Try.func19, Try.ntmps19
    go_wp2
    go_ret
    exact ⟨rfl, rfl⟩
  · rw [e]
    clear e
    go_enter Try.func19, Try.ntmps19
    go_wp2
    go_ret
    exact ⟨rfl, rfl⟩
  · rw [e]
    have k1 := neI h1
    have k2 := neI h2
    have k4 := neI h4
    have k8 := neI h8
    clear e h1 h2 h4 h8
    go_enter Try.func19, Try.ntmps19
    go_wp2
    go_ret
    exact ⟨rfl, rfl⟩
/-- what Wide answers -/
def HdAns (M : Int) (n : Nat) (k : Int) (w : World) (e : Ending) (w' : World) : Prop :=
  ((hdOk M n k = true ∧ ∃ A c, e = .returned (.tuple #[.slice A (k.toNat + 1) c, .int .i64 0]) ∧ Rd w' .u8 A (k.toNat + 1) (hdB M.toNat n k.toNat) ∧ k.toNat + 1 ≤ c ∧ c ≤ maxLen) ∨
   (hdOk M n k = false ∧ e = .returned (.tuple #[.slice none 0 0, .int .i64 1]))) ∧ Below w.heap.size w w'
theorem first_byte {M x : Nat} (hM : M ≤ 7) (hx : x < 32) : bits .or .u8 (IntKind.u8.wrap ((M : Int) * 32)) (IntKind.u8.wrap (x : Int)) = ((M * 32 + x : Nat) : Int) := by
  have e1 : IntKind.u8.wrap ((M : Int) * 32) = ((M * 32 : Nat) : Int) := by rw [IntKind.wrap_u8]; omega
  have e2 : IntKind.u8.wrap (x : Int) = (x : Int) := by rw [IntKind.wrap_u8]; omega
  rw [e1, e2, u8_or_nat _ _ (by omega) (by omega), nat_join 5 _ _ (Nat.mul_mod_left M 32) hx]
theorem first_byte2 {M x : Nat} (hM : M ≤ 7) (hx : x < 32) : bits .or .u8 ((M : Int) * 32) (x : Int) = ((M * 32 + x : Nat) : Int) := by
  have e1 : (M : Int) * 32 = ((M * 32 : Nat) : Int) := by omega
  rw [e1, u8_or_nat _ _ (by omega) (by omega), nat_join 5 _ _ (Nat.mul_mod_left M 32) hx]
theorem int_first {m x : Nat} (hm : m ≤ 7) (hx : x < 32) : bits .or .i64 ((m : Int) * 32) (x : Int) = ((m * 32 + x : Nat) : Int) := by
  have e1 : (m : Int) * 32 = ((m * 32 : Nat) : Int) := by omega
  rw [e1, i64_or_nat _ _ (by omega) (by omega), nat_join 5 _ _ (Nat.mul_mod_left m 32) hx]
set_option maxRecDepth 100000 in
set_option maxHeartbeats 8000000 in
theorem hwide_any (M : Int) (n : Nat) (k : Int) (w : World) (hn : n < 18446744073709551616) (hM1 : -9223372036854775808 ≤ M) (hM2 : M ≤ 9223372036854775807) (hk1 : -9223372036854775808 ≤ k) (hk2 : k ≤ 9223372036854775807) :
    Calls Try.prog 11 #[.int .i64 M, .int .u64 (n : Int), .int .i64 k] w (HdAns M n k w) := by
  obtain ⟨i0, hi, hz0, hz1, hz2⟩ := info_parts info_byte10
  have HB0 := Lib.hid (Below.refl w.heap.size w)
  have HSZ := Lib.hid (fun W => hsize_any n W)
  have HIN := Lib.hid (fun W => hinfo_any k W)
  have HX0 : Hid (hdX M n k = decide (M < 0 ∨ 7 < M ∨ (M = 7 ∧ ((24 ≤ n ∧ n ≤ 31) ∨ 255 < n ∨ 1 < k ∨ (k = 1 ∧ n < 32))))) := Lib.hid rfl
  have HOK : Hid (hdX M n k = true → hdOk M n k = false) := Lib.hid fun h => by unfold hdOk; rw [h]; rfl
  have HOK2 : Hid (¬ ((k = 0 ∨ hdI k ≠ 0) ∧ (hdS n : Int) ≤ k) → hdOk M n k = false) := Lib.hid fun h => by unfold hdOk; rw [decide_eq_false h, Bool.and_false]
  have HOK3 : Hid (hdX M n k = false → ((k = 0 ∨ hdI k ≠ 0) ∧ (hdS n : Int) ≤ k) → hdOk M n k = true) := Lib.hid fun h1 h2 => by unfold hdOk; rw [h1, decide_eq_true h2]; rfl
  obtain ⟨X, hX⟩ : ∃ X, hdX M n k = X := ⟨_, rfl⟩
  rw [hX] at HX0 HOK HOK3
  have HXX := Lib.hid hX
  clear hX
  go_enter Try.func11, Try.ntmps11
  go_upto_region 1 with fail
  go_cut [43] (fun s43 wx => s43 = .bool X ∧ wx = w)
  case first =>
    have bad : ∀ c : Prop, [Decidable c] → c → (c → (M < 0 ∨ 7 < M ∨ (M = 7 ∧ ((24 ≤ n ∧ n ≤ 31) ∨ 255 < n ∨ 1 < k ∨ (k = 1 ∧ n < 32))))) → X = true := fun c _ h g => by rw [HX0.out]; exact decide_eq_true (g h)
    by_cases c1 : M < 0
    · have HT := Lib.hid (bad _ c1 (fun _ => by omega))
      clear bad
      go_wp2_with fail
      go_meet
      exact ⟨by first | (rw [HT.out]; done) | (rw [HT.out]; rfl) | (rw [HT.out]; simp; omega), rfl⟩
    · by_cases c2 : 7 < M
      · have HT := Lib.hid (bad _ c2 (fun _ => by omega))
        clear bad
        go_wp2_with fail
        go_meet
        exact ⟨by first | (rw [HT.out]; done) | (rw [HT.out]; rfl) | (rw [HT.out]; simp; omega), rfl⟩
      · by_cases c3 : M = 7
        · subst c3
          by_cases d1 : 24 ≤ n ∧ n ≤ 31
          · have HT := Lib.hid (bad _ d1 (fun _ => by omega))
            obtain ⟨d1, d2⟩ := d1
            clear bad
            go_wp2_with fail
            go_meet
            exact ⟨by first | (rw [HT.out]; done) | (rw [HT.out]; rfl) | (rw [HT.out]; simp; omega), rfl⟩
          · by_cases d2 : 255 < n
            · have HT := Lib.hid (bad _ d2 (fun _ => by omega))
              have d3 : ¬ n ≤ 31 := by omega
              clear bad d1
              go_wp2_with fail
              go_meet
              exact ⟨by first | (rw [HT.out]; done) | (rw [HT.out]; rfl) | (rw [HT.out]; simp; omega), rfl⟩
            · by_cases d3 : 1 < k
              · have HT := Lib.hid (bad _ d3 (fun _ => by omega))
                clear bad
                by_cases e1 : 24 ≤ n
                · have e2 : ¬ n ≤ 31 := by omega
                  clear d1
                  go_wp2_with fail
                  go_meet
                  exact ⟨by first | (rw [HT.out]; done) | (rw [HT.out]; rfl) | (rw [HT.out]; simp; omega), rfl⟩
                · clear d1
                  go_wp2_with fail
                  go_meet
                  exact ⟨by first | (rw [HT.out]; done) | (rw [HT.out]; rfl) | (rw [HT.out]; simp; omega), rfl⟩
              · by_cases d4 : k = 1
                · subst d4
                  by_cases d5 : n < 32
                  · have HT := Lib.hid (bad _ d5 (fun _ => by omega))
                    have e1 : ¬ 24 ≤ n := by omega
                    clear bad d1
                    go_wp2_with fail
                    go_meet
                    exact ⟨by first | (rw [HT.out]; done) | (rw [HT.out]; rfl) | (rw [HT.out]; simp; omega), rfl⟩
                  · have HT : Hid (X = false) := Lib.hid (by rw [HX0.out]; exact decide_eq_false (by omega))
                    have e1 : 24 ≤ n := by omega
                    have e2 : ¬ n ≤ 31 := by omega
                    clear bad d1
                    go_wp2_with fail
                    go_meet
                    exact ⟨by first | (rw [HT.out]; done) | (rw [HT.out]; rfl) | (rw [HT.out]; simp; omega), rfl⟩
                · have HT : Hid (X = false) := Lib.hid (by rw [HX0.out]; exact decide_eq_false (by omega))
                  have kk := neI d4
                  clear bad d4
                  by_cases e1 : 24 ≤ n
                  · have e2 : ¬ n ≤ 31 := by omega
                    clear d1
                    go_wp2_with fail
                    go_meet
                    exact ⟨by first | (rw [HT.out]; done) | (rw [HT.out]; rfl) | (rw [HT.out]; simp; omega), rfl⟩
                  · clear d1
                    go_wp2_with fail
                    go_meet
                    exact ⟨by first | (rw [HT.out]; done) | (rw [HT.out]; rfl) | (rw [HT.out]; simp; omega), rfl⟩
        · have HT : Hid (X = false) := Lib.hid (by rw [HX0.out]; exact decide_eq_false (by omega))
          have kk := neI c3
          clear bad c3
          go_wp2_with fail
          go_meet
          exact ⟨by first | (rw [HT.out]; done) | (rw [HT.out]; rfl) | (rw [HT.out]; simp; omega), rfl⟩
  case rest =>
    obtain ⟨rfl, hww⟩ := hcut
    obtain rfl : w = wc := hww.symm
    cases X with
    | true =>
      have HF := Lib.hid (HOK.out rfl)
      go_wp2_with fail
      exact bodyPost_ret (by simp [results, Try.results11, go_sem]) rfl ⟨.inr ⟨HF.out, rfl⟩, HB0.out⟩
    | false =>
      have HXF := HXX
      clear HX0 HOK
      obtain ⟨Y, hY⟩ : ∃ Y, decide (¬ ((k = 0 ∨ hdI k ≠ 0) ∧ (hdS n : Int) ≤ k)) = Y := ⟨_, rfl⟩
      have HY := Lib.hid hY
      clear hY
      obtain ⟨s, hs⟩ : ∃ s, hdS n = s := ⟨_, rfl⟩
      obtain ⟨u, hu⟩ : ∃ s, hdI k = s := ⟨_, rfl⟩
      have HSU := Lib.hid (And.intro hs hu)
      rw [hs] at HSZ
      rw [hu] at HIN
      rw [hs, hu] at HY HOK2 HOK3
      have hs8 : s ≤ 8 := by rw [← hs]; have := hdS_cases n; omega
      have hu27 : u ≤ 27 := by rw [← hu]; have := hdI_cases k; omega
      clear hs hu
      go_upto_region 3 with fail
      go_cut [56] (fun s56 wx => s56 = .bool Y ∧ wx = w)
      case first =>
        by_cases ck : k = 0
        · subst ck
          by_cases cs : 0 < s
          · have HT : Hid (Y = true) := Lib.hid (by rw [← HY.out]; exact decide_eq_true (by omega))
            go_wp2_with fail
            refine (HSZ.out _).mono ?_
            rintro e w' ⟨rfl, rfl⟩
            go_wp2_with fail
            go_meet
            exact ⟨by first | (rw [HT.out]; done) | (rw [HT.out]; rfl) | (rw [HT.out]; simp; omega), rfl⟩
          · obtain rfl : s = 0 := by omega
            have HT : Hid (Y = false) := Lib.hid (by rw [← HY.out]; exact decide_eq_false (by omega))
            go_wp2_with fail
            refine (HSZ.out _).mono ?_
            rintro e w' ⟨rfl, rfl⟩
            go_wp2_with fail
            go_meet
            exact ⟨by first | (rw [HT.out]; done) | (rw [HT.out]; rfl) | (rw [HT.out]; simp; omega), rfl⟩
        · have k0 := neI ck
          have k0' : (k != 0) = true := by simp [ck]
          by_cases cu : u = 0
          · subst cu
            have HT : Hid (Y = true) := Lib.hid (by rw [← HY.out]; exact decide_eq_true (by omega))
            clear ck
            go_wp2_with fail
            refine (HIN.out _).mono ?_
            rintro e w' ⟨rfl, rfl⟩
            go_wp2_with fail
            go_meet
            exact ⟨by first | (rw [HT.out]; done) | (rw [HT.out]; rfl) | (rw [HT.out]; simp; omega), rfl⟩
          · have ku : ((u : Int) == 0) = false := neI (by omega)
            by_cases cs : k < (s : Int)
            · have HT : Hid (Y = true) := Lib.hid (by rw [← HY.out]; exact decide_eq_true (by omega))
              clear ck
              go_wp2_with fail
              refine (HIN.out _).mono ?_
              rintro e w' ⟨rfl, rfl⟩
              go_wp2_with fail
              refine (HSZ.out _).mono ?_
              rintro e w' ⟨rfl, rfl⟩
              go_wp2_with fail
              go_meet
              exact ⟨by first | (rw [HT.out]; done) | (rw [HT.out]; rfl) | (rw [HT.out]; simp; omega), rfl⟩
            · have HT : Hid (Y = false) := Lib.hid (by rw [← HY.out]; exact decide_eq_false (by omega))
              clear ck
              go_wp2_with fail
              refine (HIN.out _).mono ?_
              rintro e w' ⟨rfl, rfl⟩
              go_wp2_with fail
              refine (HSZ.out _).mono ?_
              rintro e w' ⟨rfl, rfl⟩
              go_wp2_with fail
              go_meet
              exact ⟨by first | (rw [HT.out]; done) | (rw [HT.out]; rfl) | (rw [HT.out]; simp; omega), rfl⟩
      case rest =>
        obtain ⟨rfl, hww⟩ := hcut
        obtain rfl : w = wc := hww.symm
        cases Y with
        | true =>
          have HF := Lib.hid (HOK2.out (of_decide_eq_true HY.out))
          go_wp2_with fail
          exact bodyPost_ret (by simp [results, Try.results11, go_sem]) rfl ⟨.inr ⟨HF.out, rfl⟩, HB0.out⟩
        | false =>
          have hp := Decidable.not_not.1 (of_decide_eq_false HY.out)
          have hok := HOK3.out rfl hp
          have HF := Lib.hid hok
          obtain ⟨_, ⟨m0, m7⟩, hk, _⟩ := hdOk_parts hok
          obtain ⟨m, rfl⟩ := Int.eq_ofNat_of_zero_le m0
          have hm7 : m ≤ 7 := by omega
          have hp2 := hp.2
          clear hok m0 m7 HOK2 HOK3 HY hp
          have hq : k = 0 ∨ ∃ q : Nat, k = (q : Int) ∧ (q = 1 ∨ q = 2 ∨ q = 4 ∨ q = 8) := by
            rcases hk with h | h | h | h | h
            · exact .inl h
            · exact .inr ⟨1, h, by omega⟩
            · exact .inr ⟨2, h, by omega⟩
            · exact .inr ⟨4, h, by omega⟩
            · exact .inr ⟨8, h, by omega⟩
          rcases hq with rfl | ⟨q, rfl, hq⟩
          · have hn24 : n < 24 := by have := hdS_cases n; have h2 := HSU.out.1; omega
            have hb := first_byte hm7 (show n < 32 by omega)
            have hbb := first_byte2 hm7 (show n < 32 by omega)
            have HD0 : Hid (hdB m n 0 0 = m * 32 + n) := Lib.hid (by unfold hdB; rw [if_pos rfl, if_pos rfl])
            obtain ⟨d, hd⟩ : ∃ d, m * 32 + n = d := ⟨_, rfl⟩
            rw [hd] at hb hbb HD0
            have HDD := Lib.hid hd
            clear hk hp2 HSU hd
            go_wp2_with fail
            exact bodyPost_ret (by simp [results, Try.results11, go_sem]) rfl ⟨.inl ⟨HF.out, some ⟨w.heap.size, 0, none⟩, 1, rfl, (rd_one w .u8 d 5).congr (fun i hi => by obtain rfl : i = 0 := (by omega); exact HD0.out.symm), by decide, by simp [maxLen]⟩, (Below.refl _ _).alloc (Nat.le_refl _) _⟩
          · have hu32 : u < 32 := by omega
            have hu0 : u = hdI (q : Int) := HSU.out.2.symm
            have hb := int_first hm7 hu32
            have hb8 : IntKind.u8.wrap ((m * 32 + u : Nat) : Int) = ((m * 32 + u : Nat) : Int) := by rw [IntKind.wrap_u8]; omega
            have HD0 : Hid (hdB m n q 0 = m * 32 + u) := Lib.hid (by unfold hdB; rw [if_pos rfl, if_neg (by omega), hu0])
            obtain ⟨d0, hd0⟩ : ∃ d, m * 32 + u = d := ⟨_, rfl⟩
            rw [hd0] at hb hb8 HD0
            have kq : ((q : Int) == 0) = false := neI (by omega)
            have hq8 : 1 ≤ q ∧ q ≤ 8 := by omega
            have HO0 : Hid ((w.alloc (.cells #[.int .u8 (d0 : Int)] 5)).ownsRow w.heap.size 5 1 (.slice (some ⟨w.heap.size, 0, none⟩) 1 1) 1 (vl .u8 (hdB m n q) 1)) := Lib.hid (by
              have h := World.ownsRow_lit (base := w.heap.size) (e := 5) (size := 1) w #[.int .u8 (d0 : Int)] 1 (Nat.le_refl _) (by simp [maxLen]) rfl
              have e : vl .u8 (hdB m n q) 1 = [.int .u8 (d0 : Int)] := by unfold vl; rw [List.range_succ]; simp [HD0.out]
              rw [e]
              exact h)
            have HB1 := Lib.hid ((Below.refl w.heap.size w).alloc (Nat.le_refl _) (.cells #[.int .u8 (d0 : Int)] 5))
            clear hk hp2 HSU hd0 hu0 hq
            go_wp2_with fail
            refine (HIN.out _).mono ?_
            rintro e w' ⟨rfl, rfl⟩
            go_wp2_with fail
            go_loopw [8, 9] (fun s8 s9 wr => ∃ (j : Nat) (v : Value), j ≤ q ∧ s8 = v ∧ s9 = .int .i64 ((q : Int) - 1 - (j : Int)) ∧ (∃ A c, v = .slice A (j + 1) c) ∧ Hid (wr.ownsRow w.heap.size 5 1 v (j + 1) (vl .u8 (hdB m n q) (j + 1)) ∧ Below w.heap.size w wr)) (fun _ s9 _ => ((intOf s9) + 1).toNat)
            case atStart => exact ⟨0, _, Nat.zero_le _, rfl, congrArg (Value.int .i64) (by omega), ⟨_, _, rfl⟩, Lib.hid ⟨HO0.out, HB1.out⟩⟩
            case round =>
              obtain ⟨j, v, hj, rfl, rfl, ⟨A0, c0, rfl⟩, hO⟩ := hrel
              by_cases hlt : j < q
              · obtain ⟨i, hii⟩ : ∃ i : Nat, (q : Int) - 1 - (j : Int) = (i : Int) := ⟨q - 1 - j, by omega⟩
                rw [hii]
                have h8 : i = 0 ∨ i = 1 ∨ i = 2 ∨ i = 3 ∨ i = 4 ∨ i = 5 ∨ i = 6 ∨ i = 7 := by omega
                rcases h8 with rfl | rfl | rfl | rfl | rfl | rfl | rfl | rfl
                · obtain ⟨d, hd⟩ : ∃ d, n / 256 ^ 0 % 256 = d := ⟨_, rfl⟩
                  have hd256 : d < 256 := by rw [← hd]; exact Nat.mod_lt _ (by decide)
                  have u0 : n / 1 % 256 = d := by first | (rw [← hd]; done) | (rw [← hd]; rfl)
                  have u1 : IntKind.u8.wrap ((n : Int)) = (d : Int) := by rw [IntKind.wrap_u8]; omega
                  have HDJ : Hid (hdB m n q (j + 1) = d) := Lib.hid (by unfold hdB; rw [if_neg (by omega), show q - (j + 1) = 0 by omega, hd])
                  clear hd u0
                  go_wp2_with (at_builtin; refine wpList_app rfl (.tmp 79) (.tmp 85) _ rfl w.heap.size 5 i0 _ 1 Try.underlying23 hi hz0 hz1 hz2 rfl .u8 _ (j + 1) (hdB m n q) rfl (hO.out.1.alloc _) _ 1 1 (fun _ => d) rfl (rd_one _ .u8 d _) (by first | (simp [maxLen]; done) | (simp [maxLen]; omega)) (by omega) (by rw [hsz]; exact Nat.le_succ_of_le hO.out.2.size) ?_; intro v1 w1 hown1 hb1)
                  have HO2 : Hid (w1.ownsRow w.heap.size 5 1 v1 (j + 1 + 1) (vl .u8 (hdB m n q) (j + 1 + 1))) := Lib.hid (by
                    rw [vl_congr .u8 (g := hdB m n q) (fun i hi => by
                      rcases Nat.lt_or_ge i (j + 1) with h | h
                      · exact jn_lo _ _ h
                      · obtain rfl : i = j + 1 := by omega
                        have := jn_hi (hdB m n q) (fun _ => d) (j + 1) 0
                        rw [Nat.add_zero] at this
                        rw [this, HDJ.out])] at hown1
                    exact hown1)
                  have HB2 := Lib.hid ((hO.out.2.alloc hO.out.2.size _).trans hb1)
                  obtain ⟨A1, c1, rfl, _, _, _⟩ := Rd.of_own HO2.out
                  clear hown1 hb1
                  go_wp2_with fail
                  go_roundw
                  case rel => exact ⟨j + 1, _, by omega, rfl, congrArg (Value.int .i64) (by omega), ⟨_, _, rfl⟩, Lib.hid ⟨HO2.out, HB2.out⟩⟩
                  case measure => simp [intOf]
                · obtain ⟨d, hd⟩ : ∃ d, n / 256 ^ 1 % 256 = d := ⟨_, rfl⟩
                  have hd256 : d < 256 := by rw [← hd]; exact Nat.mod_lt _ (by decide)
                  have u0 : n / 256 % 256 = d := by first | (rw [← hd]; done) | (rw [← hd]; rfl)
                  have u1 : IntKind.u8.wrap ((n : Int) / 256) = (d : Int) := by rw [IntKind.wrap_u8]; omega
                  have HDJ : Hid (hdB m n q (j + 1) = d) := Lib.hid (by unfold hdB; rw [if_neg (by omega), show q - (j + 1) = 1 by omega, hd])
                  clear hd u0
                  go_wp2_with (at_builtin; refine wpList_app rfl (.tmp 79) (.tmp 85) _ rfl w.heap.size 5 i0 _ 1 Try.underlying23 hi hz0 hz1 hz2 rfl .u8 _ (j + 1) (hdB m n q) rfl (hO.out.1.alloc _) _ 1 1 (fun _ => d) rfl (rd_one _ .u8 d _) (by first | (simp [maxLen]; done) | (simp [maxLen]; omega)) (by omega) (by rw [hsz]; exact Nat.le_succ_of_le hO.out.2.size) ?_; intro v1 w1 hown1 hb1)
                  have HO2 : Hid (w1.ownsRow w.heap.size 5 1 v1 (j + 1 + 1) (vl .u8 (hdB m n q) (j + 1 + 1))) := Lib.hid (by
                    rw [vl_congr .u8 (g := hdB m n q) (fun i hi => by
                      rcases Nat.lt_or_ge i (j + 1) with h | h
                      · exact jn_lo _ _ h
                      · obtain rfl : i = j + 1 := by omega
                        have := jn_hi (hdB m n q) (fun _ => d) (j + 1) 0
                        rw [Nat.add_zero] at this
                        rw [this, HDJ.out])] at hown1
                    exact hown1)
                  have HB2 := Lib.hid ((hO.out.2.alloc hO.out.2.size _).trans hb1)
                  obtain ⟨A1, c1, rfl, _, _, _⟩ := Rd.of_own HO2.out
                  clear hown1 hb1
                  go_wp2_with fail
                  go_roundw
                  case rel => exact ⟨j + 1, _, by omega, rfl, congrArg (Value.int .i64) (by omega), ⟨_, _, rfl⟩, Lib.hid ⟨HO2.out, HB2.out⟩⟩
                  case measure => simp [intOf]
                · obtain ⟨d, hd⟩ : ∃ d, n / 256 ^ 2 % 256 = d := ⟨_, rfl⟩
                  have hd256 : d < 256 := by rw [← hd]; exact Nat.mod_lt _ (by decide)
                  have u0 : n / 65536 % 256 = d := by first | (rw [← hd]; done) | (rw [← hd]; rfl)
                  have u1 : IntKind.u8.wrap ((n : Int) / 65536) = (d : Int) := by rw [IntKind.wrap_u8]; omega
                  have HDJ : Hid (hdB m n q (j + 1) = d) := Lib.hid (by unfold hdB; rw [if_neg (by omega), show q - (j + 1) = 2 by omega, hd])
                  clear hd u0
                  go_wp2_with (at_builtin; refine wpList_app rfl (.tmp 79) (.tmp 85) _ rfl w.heap.size 5 i0 _ 1 Try.underlying23 hi hz0 hz1 hz2 rfl .u8 _ (j + 1) (hdB m n q) rfl (hO.out.1.alloc _) _ 1 1 (fun _ => d) rfl (rd_one _ .u8 d _) (by first | (simp [maxLen]; done) | (simp [maxLen]; omega)) (by omega) (by rw [hsz]; exact Nat.le_succ_of_le hO.out.2.size) ?_; intro v1 w1 hown1 hb1)
                  have HO2 : Hid (w1.ownsRow w.heap.size 5 1 v1 (j + 1 + 1) (vl .u8 (hdB m n q) (j + 1 + 1))) := Lib.hid (by
                    rw [vl_congr .u8 (g := hdB m n q) (fun i hi => by
                      rcases Nat.lt_or_ge i (j + 1) with h | h
                      · exact jn_lo _ _ h
                      · obtain rfl : i = j + 1 := by omega
                        have := jn_hi (hdB m n q) (fun _ => d) (j + 1) 0
                        rw [Nat.add_zero] at this
                        rw [this, HDJ.out])] at hown1
                    exact hown1)
                  have HB2 := Lib.hid ((hO.out.2.alloc hO.out.2.size _).trans hb1)
                  obtain ⟨A1, c1, rfl, _, _, _⟩ := Rd.of_own HO2.out
                  clear hown1 hb1
                  go_wp2_with fail
                  go_roundw
                  case rel => exact ⟨j + 1, _, by omega, rfl, congrArg (Value.int .i64) (by omega), ⟨_, _, rfl⟩, Lib.hid ⟨HO2.out, HB2.out⟩⟩
                  case measure => simp [intOf]
                · obtain ⟨d, hd⟩ : ∃ d, n / 256 ^ 3 % 256 = d := ⟨_, rfl⟩
                  have hd256 : d < 256 := by rw [← hd]; exact Nat.mod_lt _ (by decide)
                  have u0 : n / 16777216 % 256 = d := by first | (rw [← hd]; done) | (rw [← hd]; rfl)
                  have u1 : IntKind.u8.wrap ((n : Int) / 16777216) = (d : Int) := by rw [IntKind.wrap_u8]; omega
                  have HDJ : Hid (hdB m n q (j + 1) = d) := Lib.hid (by unfold hdB; rw [if_neg (by omega), show q - (j + 1) = 3 by omega, hd])
                  clear hd u0
                  go_wp2_with (at_builtin; refine wpList_app rfl (.tmp 79) (.tmp 85) _ rfl w.heap.size 5 i0 _ 1 Try.underlying23 hi hz0 hz1 hz2 rfl .u8 _ (j + 1) (hdB m n q) rfl (hO.out.1.alloc _) _ 1 1 (fun _ => d) rfl (rd_one _ .u8 d _) (by first | (simp [maxLen]; done) | (simp [maxLen]; omega)) (by omega) (by rw [hsz]; exact Nat.le_succ_of_le hO.out.2.size) ?_; intro v1 w1 hown1 hb1)
                  have HO2 : Hid (w1.ownsRow w.heap.size 5 1 v1 (j + 1 + 1) (vl .u8 (hdB m n q) (j + 1 + 1))) := Lib.hid (by
                    rw [vl_congr .u8 (g := hdB m n q) (fun i hi => by
                      rcases Nat.lt_or_ge i (j + 1) with h | h
                      · exact jn_lo _ _ h
                      · obtain rfl : i = j + 1 := by omega
                        have := jn_hi (hdB m n q) (fun _ => d) (j + 1) 0
                        rw [Nat.add_zero] at this
                        rw [this, HDJ.out])] at hown1
                    exact hown1)
                  have HB2 := Lib.hid ((hO.out.2.alloc hO.out.2.size _).trans hb1)
                  obtain ⟨A1, c1, rfl, _, _, _⟩ := Rd.of_own HO2.out
                  clear hown1 hb1
                  go_wp2_with fail
                  go_roundw
                  case rel => exact ⟨j + 1, _, by omega, rfl, congrArg (Value.int .i64) (by omega), ⟨_, _, rfl⟩, Lib.hid ⟨HO2.out, HB2.out⟩⟩
                  case measure => simp [intOf]
                · obtain ⟨d, hd⟩ : ∃ d, n / 256 ^ 4 % 256 = d := ⟨_, rfl⟩
                  have hd256 : d < 256 := by rw [← hd]; exact Nat.mod_lt _ (by decide)
                  have u0 : n / 4294967296 % 256 = d := by first | (rw [← hd]; done) | (rw [← hd]; rfl)
                  have u1 : IntKind.u8.wrap ((n : Int) / 4294967296) = (d : Int) := by rw [IntKind.wrap_u8]; omega
                  have HDJ : Hid (hdB m n q (j + 1) = d) := Lib.hid (by unfold hdB; rw [if_neg (by omega), show q - (j + 1) = 4 by omega, hd])
                  clear hd u0
                  go_wp2_with (at_builtin; refine wpList_app rfl (.tmp 79) (.tmp 85) _ rfl w.heap.size 5 i0 _ 1 Try.underlying23 hi hz0 hz1 hz2 rfl .u8 _ (j + 1) (hdB m n q) rfl (hO.out.1.alloc _) _ 1 1 (fun _ => d) rfl (rd_one _ .u8 d _) (by first | (simp [maxLen]; done) | (simp [maxLen]; omega)) (by omega) (by rw [hsz]; exact Nat.le_succ_of_le hO.out.2.size) ?_; intro v1 w1 hown1 hb1)
                  have HO2 : Hid (w1.ownsRow w.heap.size 5 1 v1 (j + 1 + 1) (vl .u8 (hdB m n q) (j + 1 + 1))) := Lib.hid (by
                    rw [vl_congr .u8 (g := hdB m n q) (fun i hi => by
                      rcases Nat.lt_or_ge i (j + 1) with h | h
                      · exact jn_lo _ _ h
                      · obtain rfl : i = j + 1 := by omega
                        have := jn_hi (hdB m n q) (fun _ => d) (j + 1) 0
                        rw [Nat.add_zero] at this
                        rw [this, HDJ.out])] at hown1
                    exact hown1)
                  have HB2 := Lib.hid ((hO.out.2.alloc hO.out.2.size _).trans hb1)
                  obtain ⟨A1, c1, rfl, _, _, _⟩ := Rd.of_own HO2.out
                  clear hown1 hb1
                  go_wp2_with fail
                  go_roundw
                  case rel => exact ⟨j + 1, _, by omega, rfl, congrArg (Value.int .i64) (by omega), ⟨_, _, rfl⟩, Lib.hid ⟨HO2.out, HB2.out⟩⟩
                  case measure => simp [intOf]
                · obtain ⟨d, hd⟩ : ∃ d, n / 256 ^ 5 % 256 = d := ⟨_, rfl⟩
                  have hd256 : d < 256 := by rw [← hd]; exact Nat.mod_lt _ (by decide)
                  have u0 : n / 1099511627776 % 256 = d := by first | (rw [← hd]; done) | (rw [← hd]; rfl)
                  have u1 : IntKind.u8.wrap ((n : Int) / 1099511627776) = (d : Int) := by rw [IntKind.wrap_u8]; omega
                  have HDJ : Hid (hdB m n q (j + 1) = d) := Lib.hid (by unfold hdB; rw [if_neg (by omega), show q - (j + 1) = 5 by omega, hd])
                  clear hd u0
                  go_wp2_with (at_builtin; refine wpList_app rfl (.tmp 79) (.tmp 85) _ rfl w.heap.size 5 i0 _ 1 Try.underlying23 hi hz0 hz1 hz2 rfl .u8 _ (j + 1) (hdB m n q) rfl (hO.out.1.alloc _) _ 1 1 (fun _ => d) rfl (rd_one _ .u8 d _) (by first | (simp [maxLen]; done) | (simp [maxLen]; omega)) (by omega) (by rw [hsz]; exact Nat.le_succ_of_le hO.out.2.size) ?_; intro v1 w1 hown1 hb1)
                  have HO2 : Hid (w1.ownsRow w.heap.size 5 1 v1 (j + 1 + 1) (vl .u8 (hdB m n q) (j + 1 + 1))) := Lib.hid (by
                    rw [vl_congr .u8 (g := hdB m n q) (fun i hi => by
                      rcases Nat.lt_or_ge i (j + 1) with h | h
                      · exact jn_lo _ _ h
                      · obtain rfl : i = j + 1 := by omega
                        have := jn_hi (hdB m n q) (fun _ => d) (j + 1) 0
                        rw [Nat.add_zero] at this
                        rw [this, HDJ.out])] at hown1
                    exact hown1)
                  have HB2 := Lib.hid ((hO.out.2.alloc hO.out.2.size _).trans hb1)
                  obtain ⟨A1, c1, rfl, _, _, _⟩ := Rd.of_own HO2.out
                  clear hown1 hb1
                  go_wp2_with fail
                  go_roundw
                  case rel => exact ⟨j + 1, _, by omega, rfl, congrArg (Value.int .i64) (by omega), ⟨_, _, rfl⟩, Lib.hid ⟨HO2.out, HB2.out⟩⟩
                  case measure => simp [intOf]
                · obtain ⟨d, hd⟩ : ∃ d, n / 256 ^ 6 % 256 = d := ⟨_, rfl⟩
                  have hd256 : d < 256 := by rw [← hd]; exact Nat.mod_lt _ (by decide)
                  have u0 : n / 281474976710656 % 256 = d := by first | (rw [← hd]; done) | (rw [← hd]; rfl)
                  have u1 : IntKind.u8.wrap ((n : Int) / 281474976710656) = (d : Int) := by rw [IntKind.wrap_u8]; omega
                  have HDJ : Hid (hdB m n q (j + 1) = d) := Lib.hid (by unfold hdB; rw [if_neg (by omega), show q - (j + 1) = 6 by omega, hd])
                  clear hd u0
                  go_wp2_with (at_builtin; refine wpList_app rfl (.tmp 79) (.tmp 85) _ rfl w.heap.size 5 i0 _ 1 Try.underlying23 hi hz0 hz1 hz2 rfl .u8 _ (j + 1) (hdB m n q) rfl (hO.out.1.alloc _) _ 1 1 (fun _ => d) rfl (rd_one _ .u8 d _) (by first | (simp [maxLen]; done) | (simp [maxLen]; omega)) (by omega) (by rw [hsz]; exact Nat.le_succ_of_le hO.out.2.size) ?_; intro v1 w1 hown1 hb1)
                  have HO2 : Hid (w1.ownsRow w.heap.size 5 1 v1 (j + 1 + 1) (vl .u8 (hdB m n q) (j + 1 + 1))) := Lib.hid (by
                    rw [vl_congr .u8 (g := hdB m n q) (fun i hi => by
                      rcases Nat.lt_or_ge i (j + 1) with h | h
                      · exact jn_lo _ _ h
                      · obtain rfl : i = j + 1 := by omega
                        have := jn_hi (hdB m n q) (fun _ => d) (j + 1) 0
                        rw [Nat.add_zero] at this
                        rw [this, HDJ.out])] at hown1
                    exact hown1)
                  have HB2 := Lib.hid ((hO.out.2.alloc hO.out.2.size _).trans hb1)
                  obtain ⟨A1, c1, rfl, _, _, _⟩ := Rd.of_own HO2.out
                  clear hown1 hb1
                  go_wp2_with fail
                  go_roundw
                  case rel => exact ⟨j + 1, _, by omega, rfl, congrArg (Value.int .i64) (by omega), ⟨_, _, rfl⟩, Lib.hid ⟨HO2.out, HB2.out⟩⟩
                  case measure => simp [intOf]
                · obtain ⟨d, hd⟩ : ∃ d, n / 256 ^ 7 % 256 = d := ⟨_, rfl⟩
                  have hd256 : d < 256 := by rw [← hd]; exact Nat.mod_lt _ (by decide)
                  have u0 : n / 72057594037927936 % 256 = d := by first | (rw [← hd]; done) | (rw [← hd]; rfl)
                  have u1 : IntKind.u8.wrap ((n : Int) / 72057594037927936) = (d : Int) := by rw [IntKind.wrap_u8]; omega
                  have HDJ : Hid (hdB m n q (j + 1) = d) := Lib.hid (by unfold hdB; rw [if_neg (by omega), show q - (j + 1) = 7 by omega, hd])
                  clear hd u0
                  go_wp2_with (at_builtin; refine wpList_app rfl (.tmp 79) (.tmp 85) _ rfl w.heap.size 5 i0 _ 1 Try.underlying23 hi hz0 hz1 hz2 rfl .u8 _ (j + 1) (hdB m n q) rfl (hO.out.1.alloc _) _ 1 1 (fun _ => d) rfl (rd_one _ .u8 d _) (by first | (simp [maxLen]; done) | (simp [maxLen]; omega)) (by omega) (by rw [hsz]; exact Nat.le_succ_of_le hO.out.2.size) ?_; intro v1 w1 hown1 hb1)
                  have HO2 : Hid (w1.ownsRow w.heap.size 5 1 v1 (j + 1 + 1) (vl .u8 (hdB m n q) (j + 1 + 1))) := Lib.hid (by
                    rw [vl_congr .u8 (g := hdB m n q) (fun i hi => by
                      rcases Nat.lt_or_ge i (j + 1) with h | h
                      · exact jn_lo _ _ h
                      · obtain rfl : i = j + 1 := by omega
                        have := jn_hi (hdB m n q) (fun _ => d) (j + 1) 0
                        rw [Nat.add_zero] at this
                        rw [this, HDJ.out])] at hown1
                    exact hown1)
                  have HB2 := Lib.hid ((hO.out.2.alloc hO.out.2.size _).trans hb1)
                  obtain ⟨A1, c1, rfl, _, _, _⟩ := Rd.of_own HO2.out
                  clear hown1 hb1
                  go_wp2_with fail
                  go_roundw
                  case rel => exact ⟨j + 1, _, by omega, rfl, congrArg (Value.int .i64) (by omega), ⟨_, _, rfl⟩, Lib.hid ⟨HO2.out, HB2.out⟩⟩
                  case measure => simp [intOf]
              · obtain rfl : j = q := by omega
                have hneg : ((j : Int) - 1 - (j : Int)) = -1 := by omega
                rw [hneg]
                obtain ⟨A1, c1, e1, g1, g2, g3⟩ := Rd.of_own hO.out.1
                injection e1 with ea _ ec
                subst ea ec
                have HG := Lib.hid (And.intro g1 (And.intro g2 g3))
                have hBB := Lib.hid hO.out.2
                clear g1 g2 g3 hneg hO
                go_wp2_with fail
                exact bodyPost_ret (by simp [results, Try.results11, go_sem]) rfl ⟨.inl ⟨HF.out, _, _, rfl, HG.out.2.2, HG.out.1, HG.out.2.1⟩, hBB.out⟩
end Go.Proofs.Ytmmaapmmjdjgaaa.nn
namespace Go.Proofs.Ytmmaapmmjdjgaaa.nn
open Go.RowKit

theorem hdX_put (M : Int) (n : Nat) : hdX M n (hdS n) = decide (M < 0 ∨ 7 < M ∨ (M = 7 ∧ ((24 ≤ n ∧ n ≤ 31) ∨ 255 < n))) := by
  unfold hdX
  have := hdS_cases n
  by_cases c : M < 0 ∨ 7 < M ∨ (M = 7 ∧ ((24 ≤ n ∧ n ≤ 31) ∨ 255 < n))
  · rw [decide_eq_true c, decide_eq_true (by omega)]
  · rw [decide_eq_false c, decide_eq_false (by omega)]
theorem hdOk_put (M : Int) (n : Nat) : hdOk M n (hdS n) = !hdX M n (hdS n) := by
  unfold hdOk
  have h1 := hdS_cases n
  have h2 := hdI_cases (hdS n)
  rw [decide_eq_true (by omega), Bool.and_true]
set_option maxRecDepth 100000 in
set_option maxHeartbeats 4000000 in
theorem hput_any (M : Int) (n : Nat) (w : World) (hn : n < 18446744073709551616) (hM1 : -9223372036854775808 ≤ M) (hM2 : M ≤ 9223372036854775807) :
    Calls Try.prog 9 #[.int .i64 M, .int .u64 (n : Int)] w (HdAns M n (hdS n) w) := by
  have HB0 := Lib.hid (Below.refl w.heap.size w)
  have HSZ := Lib.hid (fun W => hsize_any n W)
  have hs8 : hdS n ≤ 8 := by have := hdS_cases n; omega
  have HW := Lib.hid (fun W => hwide_any M n (hdS n) W hn hM1 hM2 (by omega) (by omega))
  have HX0 := Lib.hid (hdX_put M n)
  have HOK := Lib.hid (hdOk_put M n)
  obtain ⟨X, hX⟩ : ∃ X, hdX M n (hdS n) = X := ⟨_, rfl⟩
  obtain ⟨s, hs⟩ : ∃ X, hdS n = X := ⟨_, rfl⟩
  rw [hX] at HX0 HOK
  unfold HdAns at HW ⊢
  rw [hs] at HSZ HW HOK ⊢
  clear hX hs hs8
  go_enter Try.func9, Try.ntmps9
  go_upto_region 1 with fail
  go_cut [27] (fun s27 wx => s27 = .bool X ∧ wx = w)
  case first =>
    have bad : ∀ c : Prop, c → (c → (M < 0 ∨ 7 < M ∨ (M = 7 ∧ ((24 ≤ n ∧ n ≤ 31) ∨ 255 < n)))) → X = true := fun c h g => by rw [HX0.out]; exact decide_eq_true (g h)
    by_cases c1 : M < 0
    · have HT := Lib.hid (bad _ c1 (fun _ => by omega))
      clear bad
      go_wp2_with fail
      go_meet
      exact ⟨by first | (rw [HT.out]; done) | (rw [HT.out]; rfl) | (rw [HT.out]; simp; omega), rfl⟩
    · by_cases c2 : 7 < M
      · have HT := Lib.hid (bad _ c2 (fun _ => by omega))
        clear bad
        go_wp2_with fail
        go_meet
        exact ⟨by first | (rw [HT.out]; done) | (rw [HT.out]; rfl) | (rw [HT.out]; simp; omega), rfl⟩
      · by_cases c3 : M = 7
        · subst c3
          by_cases d0 : 24 ≤ n
          · by_cases d1 : n ≤ 31
            · have HT := Lib.hid (bad (24 ≤ n ∧ n ≤ 31) ⟨d0, d1⟩ (fun _ => by omega))
              clear bad
              go_wp2_with fail
              go_meet
              exact ⟨by first | (rw [HT.out]; done) | (rw [HT.out]; rfl) | (rw [HT.out]; simp; omega), rfl⟩
            · by_cases d2 : 255 < n
              · have HT := Lib.hid (bad _ d2 (fun _ => by omega))
                clear bad
                go_wp2_with fail
                go_meet
                exact ⟨by first | (rw [HT.out]; done) | (rw [HT.out]; rfl) | (rw [HT.out]; simp; omega), rfl⟩
              · have HT : Hid (X = false) := Lib.hid (by rw [HX0.out]; exact decide_eq_false (by omega))
                clear bad
                go_wp2_with fail
                go_meet
                exact ⟨by first | (rw [HT.out]; done) | (rw [HT.out]; rfl) | (rw [HT.out]; simp; omega), rfl⟩
          · have HT : Hid (X = false) := Lib.hid (by rw [HX0.out]; exact decide_eq_false (by omega))
            have d2 : ¬ 255 < n := by omega
            clear bad
            go_wp2_with fail
            go_meet
            exact ⟨by first | (rw [HT.out]; done) | (rw [HT.out]; rfl) | (rw [HT.out]; simp; omega), rfl⟩
        · have HT : Hid (X = false) := Lib.hid (by rw [HX0.out]; exact decide_eq_false (by omega))
          have kk := neI c3
          clear bad c3
          go_wp2_with fail
          go_meet
          exact ⟨by first | (rw [HT.out]; done) | (rw [HT.out]; rfl) | (rw [HT.out]; simp; omega), rfl⟩
  case rest =>
    obtain ⟨rfl, hww⟩ := hcut
    obtain rfl : w = wc := hww.symm
    cases X with
    | true =>
      have HF : Hid (hdOk M n (s : Int) = false) := HOK
      go_wp2_with fail
      exact bodyPost_ret (by simp [results, Try.results9, go_sem]) rfl ⟨.inr ⟨HF.out, rfl⟩, HB0.out⟩
    | false =>
      go_wp2_with fail
      refine (HSZ.out _).mono ?_
      rintro e w' ⟨rfl, rfl⟩
      go_wp2_with fail
      refine (HW.out _).mono ?_
      rintro e w2 ⟨⟨h1, A, c, rfl, h2⟩ | ⟨h1, rfl⟩, hb⟩
      · have HH := Lib.hid (And.intro h1 (And.intro h2 hb))
        clear h1 h2 hb
        go_wp2_with fail
        exact bodyPost_ret (by simp [results, Try.results9, go_sem]) rfl ⟨.inl ⟨HH.out.1, A, c, rfl, HH.out.2.1⟩, HH.out.2.2⟩
      · have HH := Lib.hid (And.intro h1 hb)
        clear h1 hb
        go_wp2_with fail
        exact bodyPost_ret (by simp [results, Try.results9, go_sem]) rfl ⟨.inr ⟨HH.out.1, rfl⟩, HH.out.2⟩
/-- what Get answers -/
def gtV (r : Nat × Nat × Nat × Nat × Nat) : Value := .tuple #[.int .i64 (r.1 : Int), .int .i64 (r.2.1 : Int), .int .u64 (r.2.2.1 : Int), .int .i64 (r.2.2.2.1 : Int), .int .i64 (r.2.2.2.2 : Int)]
def GtAns (f : Nat → Nat) (m : Nat) (w : World) (e : Ending) (w' : World) : Prop := e = .returned (gtV (gtR f m)) ∧ Below w.heap.size w w'
end Go.Proofs.Ytmmaapmmjdjgaaa.nn
namespace Go.Proofs.Ytmmaapmmjdjgaaa.nn
open Go.RowKit

theorem hd_up {v b : Nat} (hv : v * 256 + b < 18446744073709551616) (hb : b < 256) : bits BinOp.or IntKind.u64 ((v : Int) * 256) (b : Int) = ((v * 256 + b : Nat) : Int) := by
  have e : (v : Int) * 256 = ((v * 256 : Nat) : Int) := by omega
  have h1 : v * 256 < 18446744073709551616 := Nat.lt_of_le_of_lt (Nat.le_add_right _ _) hv
  have h2 : b < 18446744073709551616 := Nat.lt_of_le_of_lt (Nat.le_add_left _ _) hv
  rw [e, u64_or_nat (v * 256) b h1 h2, nat_join 8 (v * 256) b (Nat.mul_mod_left v 256) hb]
theorem be_lt10 {b : Nat → Nat} {n : Nat} (h : ∀ i, i < n → b i < 256) : be b n < 256 ^ n := by
  induction n with
  | zero => simp [be]
  | succ n ih =>
    have h1 := ih fun i hi => h i (by omega)
    have h2 := h n (by omega)
    rw [be, Nat.pow_succ]
    omega
theorem be_64 {b : Nat → Nat} {n : Nat} (h : ∀ i, i < n → b i < 256) (hn : n ≤ 8) : be b n < 18446744073709551616 :=
  Nat.lt_of_lt_of_le (be_lt10 h) (Nat.le_trans (Nat.pow_le_pow_right (by decide) hn) (by decide +kernel))
theorem u8_31 (a : Nat) (ha : a < 256) : bits .and .u8 (a : Int) 31 = ((a % 32 : Nat) : Int) :=
  (u8_and_nat a 31 ha (by decide)).trans (by rw [and_mask a 5])
set_option maxRecDepth 100000 in
set_option maxHeartbeats 8000000 in
theorem hget_any (A : Option Addr) (m c : Nat) (f : Nat → Nat) (w : World) (hA : Rd w .u8 A m f) (hf : ∀ i, i < m → f i < 256) (hm : m ≤ 4611686018427387904) :
    Calls Try.prog 14 #[.slice A m c] w (GtAns f m w) := by
  have HB0 := Lib.hid (Below.refl w.heap.size w)
  have HG : Hid (gtR f m = gtR f m) := Lib.hid rfl
  unfold GtAns
  by_cases h0 : m = 0
  · subst h0
    have e : gtR f 0 = (0, 0, 0, 0, 3) := rfl
    have HE := Lib.hid e
    clear hA hf HG e
    go_enter Try.func14, Try.ntmps14
    go_wp2_with fail
    exact bodyPost_ret (by simp [results, Try.results14, go_sem]; rfl) rfl ⟨by rw [HE.out]; rfl, HB0.out⟩
  · obtain ⟨bb, off, rfl, hbl, hcell⟩ := hA (by omega)
    have HC := Lib.hid hcell
    have HF := Lib.hid hf
    have q0 := hcell 0 (by omega)
    have hf0 := hf 0 (by omega)
    obtain ⟨x0, hx0⟩ : ∃ x, f 0 = x := ⟨_, rfl⟩
    have hm0 : ((m : Int) == 0) = false := neI (by omega)
    have gR : gtR f m = if (28 ≤ x0 % 32 ∧ x0 % 32 ≤ 30) ∨ (x0 % 32 = 31 ∧ (x0 / 32 < 2 ∨ x0 / 32 = 6)) then (0, 0, 0, 0, 4)
      else if x0 % 32 < 24 then (x0 / 32, x0 % 32, x0 % 32, 1, 0)
      else if x0 % 32 = 31 then (x0 / 32, 31, 0, 1, 0)
      else if x0 / 32 = 7 ∧ x0 % 32 = 24 ∧ 1 < m ∧ f 1 < 32 then (0, 0, 0, 1, 4)
      else if m < 2 ^ (x0 % 32 - 24) + 1 then (0, 0, 0, m, 3)
      else (x0 / 32, x0 % 32, be (fun i => f (1 + i)) (2 ^ (x0 % 32 - 24)), 2 ^ (x0 % 32 - 24) + 1, 0) := by
      unfold gtR
      rw [if_neg h0, hx0]
    rw [hx0] at q0 hf0
    have ka := u8_31 x0 hf0
    obtain ⟨M, hM⟩ : ∃ M, x0 / 32 = M := ⟨_, rfl⟩
    obtain ⟨x, hx⟩ : ∃ M, x0 % 32 = M := ⟨_, rfl⟩
    rw [hM, hx] at gR
    rw [hx] at ka
    have kM : (x0 : Int) / 32 = (M : Int) := by omega
    have hM7 : M ≤ 7 := by omega
    have hx31 : x ≤ 31 := by omega
    have GR := Lib.hid gR
    obtain ⟨R, hR⟩ : ∃ R, gtR f m = R := ⟨_, rfl⟩
    rw [hR] at GR ⊢
    clear gR hR hx hM hx0 hcell hf HG hA
    rw [Nat.add_zero] at q0
    go_enter Try.func14, Try.ntmps14
    go_upto_region 5 with fail
    clear ka kM q0
    obtain ⟨X, hX⟩ : ∃ X, decide ((28 ≤ x ∧ x ≤ 30) ∨ (x = 31 ∧ (M < 2 ∨ M = 6))) = X := ⟨_, rfl⟩
    have HX := Lib.hid hX
    clear hX
    go_cut [42] (fun s42 wx => s42 = .bool X ∧ wx = w)
    case first =>
      by_cases c1 : 28 ≤ x
      · by_cases c2 : x ≤ 30
        · have HT : Hid (X = true) := Lib.hid (by rw [← HX.out]; exact decide_eq_true (by omega))
          go_wp2_with fail
          go_meet
          exact ⟨by first | (rw [HT.out]; done) | (rw [HT.out]; rfl) | (rw [HT.out]; simp; omega), rfl⟩
        · obtain rfl : x = 31 := by omega
          by_cases c3 : M < 2
          · have HT : Hid (X = true) := Lib.hid (by rw [← HX.out]; exact decide_eq_true (by omega))
            clear c1 c2
            go_wp2_with fail
            go_meet
            exact ⟨by first | (rw [HT.out]; done) | (rw [HT.out]; rfl) | (rw [HT.out]; simp; omega), rfl⟩
          · by_cases c4 : M = 6
            · subst c4
              have HT : Hid (X = true) := Lib.hid (by rw [← HX.out]; exact decide_eq_true (by omega))
              clear c1 c2 c3
              go_wp2_with fail
              go_meet
              exact ⟨by first | (rw [HT.out]; done) | (rw [HT.out]; rfl) | (rw [HT.out]; simp; omega), rfl⟩
            · have HT : Hid (X = false) := Lib.hid (by rw [← HX.out]; exact decide_eq_false (by omega))
              have kk : ((M : Int) == 6) = false := neI (by omega)
              clear c1 c2 c4
              go_wp2_with fail
              go_meet
              exact ⟨by first | (rw [HT.out]; done) | (rw [HT.out]; rfl) | (rw [HT.out]; simp; omega), rfl⟩
      · have HT : Hid (X = false) := Lib.hid (by rw [← HX.out]; exact decide_eq_false (by omega))
        have kk : ((x : Int) == 31) = false := neI (by omega)
        go_wp2_with fail
        go_meet
        exact ⟨by first | (rw [HT.out]; done) | (rw [HT.out]; rfl) | (rw [HT.out]; simp; omega), rfl⟩
    case rest =>
      obtain ⟨rfl, hww⟩ := hcut
      obtain rfl : w = wc := hww.symm
      cases X with
      | true =>
        have e : R = (0, 0, 0, 0, 4) := by rw [GR.out, if_pos (of_decide_eq_true HX.out)]
        have HE := Lib.hid e
        clear e
        go_wp2_with fail
        exact bodyPost_ret (by simp [results, Try.results14, go_sem]; rfl) rfl ⟨by rw [HE.out]; rfl, HB0.out⟩
      | false =>
        have hno := of_decide_eq_false HX.out
        by_cases c1 : x < 24
        · have e : R = (M, x, x, 1, 0) := by rw [GR.out, if_neg hno, if_pos c1]
          have HE := Lib.hid e
          clear e hno
          go_wp2_with fail
          exact bodyPost_ret (by simp [results, Try.results14, go_sem]; rfl) rfl ⟨by rw [HE.out]; rfl, HB0.out⟩
        · by_cases c2 : x = 31
          · subst c2
            have e : R = (M, 31, 0, 1, 0) := by rw [GR.out, if_neg hno, if_neg c1, if_pos rfl]
            have HE := Lib.hid e
            clear e hno
            go_wp2_with fail
            exact bodyPost_ret (by simp [results, Try.results14, go_sem]; rfl) rfl ⟨by rw [HE.out]; rfl, HB0.out⟩
          · have k31 : ((x : Int) == 31) = false := neI (by omega)
            have hx47 : x = 24 ∨ x = 25 ∨ x = 26 ∨ x = 27 := by omega
            have G2 : Hid (R = if M = 7 ∧ x = 24 ∧ 1 < m ∧ f 1 < 32 then (0, 0, 0, 1, 4) else if m < 2 ^ (x - 24) + 1 then (0, 0, 0, m, 3) else (M, x, be (fun i => f (1 + i)) (2 ^ (x - 24)), 2 ^ (x - 24) + 1, 0)) := Lib.hid (by rw [GR.out, if_neg hno, if_neg c1, if_neg c2])
            obtain ⟨K, hK⟩ : ∃ K, 2 ^ (x - 24) = K := ⟨_, rfl⟩
            have hK8 : 1 ≤ K ∧ K ≤ 8 := by rw [← hK]; rcases hx47 with rfl | rfl | rfl | rfl <;> decide
            have HK := Lib.hid hK
            rw [hK] at G2
            clear hno GR HX hK
            go_upto_region 11 with fail
            go_cut [9] (fun s9 wx => s9 = .int .i64 (K : Int) ∧ wx = w)
            case first =>
              rcases hx47 with rfl | rfl | rfl | rfl
              all_goals
                go_wp2_with fail
                go_meet
                exact ⟨by rw [← HK.out]; rfl, rfl⟩
            case rest =>
              obtain ⟨rfl, hww⟩ := hcut
              obtain rfl : w = wc := hww.symm
              clear k31
              go_upto_region 12 with fail
              obtain ⟨Y, hY⟩ : ∃ Y, decide (M = 7 ∧ x = 24 ∧ 1 < m ∧ f 1 < 32) = Y := ⟨_, rfl⟩
              have HY := Lib.hid hY
              clear hY
              go_cut [72] (fun s72 wx => s72 = .bool Y ∧ wx = w)
              case first =>
                by_cases d1 : M = 7
                · subst d1
                  by_cases d2 : x = 24
                  · subst d2
                    by_cases d3 : 1 < m
                    · have q1 := HC.out 1 d3
                      obtain ⟨x1, hx1⟩ : ∃ x, f 1 = x := ⟨_, rfl⟩
                      rw [hx1] at q1
                      have HX1 := Lib.hid hx1
                      clear hx1
                      by_cases d4 : x1 < 32
                      · have HT : Hid (Y = true) := Lib.hid (by rw [← HY.out, HX1.out]; exact decide_eq_true ⟨rfl, rfl, d3, d4⟩)
                        go_wp2_with fail
                        go_meet
                        exact ⟨by first | (rw [HT.out]; done) | (rw [HT.out]; rfl) | (rw [HT.out]; simp; omega), rfl⟩
                      · have HT : Hid (Y = false) := Lib.hid (by rw [← HY.out, HX1.out]; exact decide_eq_false (by omega))
                        go_wp2_with fail
                        go_meet
                        exact ⟨by first | (rw [HT.out]; done) | (rw [HT.out]; rfl) | (rw [HT.out]; simp; omega), rfl⟩
                    · have HT : Hid (Y = false) := Lib.hid (by rw [← HY.out]; exact decide_eq_false (by omega))
                      go_wp2_with fail
                      go_meet
                      exact ⟨by first | (rw [HT.out]; done) | (rw [HT.out]; rfl) | (rw [HT.out]; simp; omega), rfl⟩
                  · have HT : Hid (Y = false) := Lib.hid (by rw [← HY.out]; exact decide_eq_false (by omega))
                    have kk : ((x : Int) == 24) = false := neI (by omega)
                    go_wp2_with fail
                    go_meet
                    exact ⟨by first | (rw [HT.out]; done) | (rw [HT.out]; rfl) | (rw [HT.out]; simp; omega), rfl⟩
                · have HT : Hid (Y = false) := Lib.hid (by rw [← HY.out]; exact decide_eq_false (by omega))
                  have kk : ((M : Int) == 7) = false := neI (by omega)
                  go_wp2_with fail
                  go_meet
                  exact ⟨by first | (rw [HT.out]; done) | (rw [HT.out]; rfl) | (rw [HT.out]; simp; omega), rfl⟩
              case rest =>
                obtain ⟨rfl, hww⟩ := hcut
                obtain rfl : w = wc := hww.symm
                cases Y with
                | true =>
                  have e : R = (0, 0, 0, 1, 4) := by rw [G2.out, if_pos (of_decide_eq_true HY.out)]
                  have HE := Lib.hid e
                  clear e
                  go_wp2_with fail
                  exact bodyPost_ret (by simp [results, Try.results14, go_sem]; rfl) rfl ⟨by rw [HE.out]; rfl, HB0.out⟩
                | false =>
                  have hno := of_decide_eq_false HY.out
                  by_cases d5 : m < K + 1
                  · have e : R = (0, 0, 0, m, 3) := by rw [G2.out, if_neg hno, if_pos d5]
                    have HE := Lib.hid e
                    clear e hno
                    go_wp2_with fail
                    exact bodyPost_ret (by simp [results, Try.results14, go_sem]; rfl) rfl ⟨by rw [HE.out]; rfl, HB0.out⟩
                  · have e : R = (M, x, be (fun i => f (1 + i)) K, K + 1, 0) := by rw [G2.out, if_neg hno, if_neg d5]
                    have HE := Lib.hid e
                    clear e hno G2 HY HK hx47 c1 c2
                    go_wp2_with fail
                    go_loop [10, 11] (fun s10 s11 => ∃ i : Nat, i ≤ K ∧ s10 = .int .u64 ((be (fun i => f (1 + i)) i : Nat) : Int) ∧ s11 = .int .i64 ((i : Int) + 1)) (fun _ s11 => K + 1 - (intOf s11).toNat)
                    case atStart => exact ⟨0, Nat.zero_le _, rfl, rfl⟩
                    case round =>
                      obtain ⟨i, hi, rfl, rfl⟩ := hrel
                      by_cases hlt : i < K
                      · have q1 := HC.out (1 + i) (by omega)
                        have hb := HF.out (1 + i) (by omega)
                        have hv : be (fun i => f (1 + i)) (i + 1) < 18446744073709551616 := be_64 (fun j hj => HF.out _ (by omega)) (by omega)
                        rw [be] at hv
                        obtain ⟨o, ho⟩ : ∃ o, f (1 + i) = o := ⟨_, rfl⟩
                        obtain ⟨v, hvv⟩ : ∃ v, be (fun i => f (1 + i)) i = v := ⟨_, rfl⟩
                        have hv2 : be (fun i => f (1 + i)) (i + 1) = v * 256 + o := by rw [be, hvv, ho]
                        rw [hvv, ho] at hv
                        rw [ho] at q1 hb
                        rw [hvv]
                        have hor := Lib.hid (show bits BinOp.or IntKind.u64 (IntKind.u64.wrap ((v : Int) * 256)) (o : Int) = ((v * 256 + o : Nat) : Int) by rw [IntKind.wrap_u64, show (v : Int) * 256 % 18446744073709551616 = (v : Int) * 256 by omega, hd_up hv hb])
                        have HV2 := Lib.hid hv2
                        have ti : ((i : Int) + 1).toNat = 1 + i := by omega
                        clear hv2 hvv ho hv
                        go_wp2_with fail
                        go_round
                        case rel => exact ⟨i + 1, hlt, by rw [HV2.out]; exact congrArg (Value.int .u64) hor.out, by go_num⟩
                        case measure => simp [intOf]; omega
                      · obtain rfl : i = K := by omega
                        go_wp2_with fail
                        exact bodyPost_ret (by simp [results, Try.results14, go_sem]; rfl) rfl ⟨by rw [HE.out]; rfl, HB0.out⟩
end Go.Proofs.Ytmmaapmmjdjgaaa.nn
namespace Go.Proofs.Ytmmaapmmjdjgaaa.nn
open Go.RowKit

/-- how many bytes a size has -/
def szL (s : Nat) : Nat := if s = 0 then 0 else if s = 1 then 1 else if s = 2 then 2 else if s = 3 then 4 else if s = 4 then 8 else 16
/-- the greatest number of a size -/
def szG (s : Nat) : Nat := if s = 0 then 23 else if s = 1 then 255 else if s = 2 then 65535 else if s = 3 then 4294967295 else 18446744073709551615
/-- the size of so many bytes -/
def szK (k : Int) : Nat := if k = 0 then 0 else if k = 1 then 1 else if k = 2 then 2 else if k = 4 then 3 else if k = 8 then 4 else 5
/-- the size behind an info -/
def szI (x : Nat) : Nat := if x ≤ 23 ∨ x = 31 then 0 else if x < 28 then x - 23 else 5
/-- the least size that has a number -/
def szN (n : Nat) : Nat := if n < 24 then 0 else if n < 256 then 1 else if n < 65536 then 2 else if n < 4294967296 then 3 else 4
theorem szN_cases (n : Nat) : (n < 24 ∧ szN n = 0) ∨ (24 ≤ n ∧ n < 256 ∧ szN n = 1) ∨ (256 ≤ n ∧ n < 65536 ∧ szN n = 2) ∨ (65536 ≤ n ∧ n < 4294967296 ∧ szN n = 3) ∨ (4294967296 ≤ n ∧ szN n = 4) := by
  unfold szN
  by_cases h1 : n < 24
  · exact .inl ⟨h1, if_pos h1⟩
  · by_cases h2 : n < 256
    · exact .inr (.inl ⟨by omega, h2, by rw [if_neg h1, if_pos h2]⟩)
    · by_cases h3 : n < 65536
      · exact .inr (.inr (.inl ⟨by omega, h3, by rw [if_neg h1, if_neg h2, if_pos h3]⟩))
      · by_cases h4 : n < 4294967296
        · exact .inr (.inr (.inr (.inl ⟨by omega, h4, by rw [if_neg h1, if_neg h2, if_neg h3, if_pos h4]⟩)))
        · exact .inr (.inr (.inr (.inr ⟨by omega, by rw [if_neg h1, if_neg h2, if_neg h3, if_neg h4]⟩)))
theorem szN_len (n : Nat) : szL (szN n) = hdS n ∧ szN n ≤ 4 := by
  have h2 := hdS_cases n
  rcases szN_cases n with ⟨_, e⟩ | ⟨_, _, e⟩ | ⟨_, _, e⟩ | ⟨_, _, e⟩ | ⟨_, e⟩ <;> rw [e] <;> simp [szL] <;> omega
theorem szN_lt {n i : Nat} (h : i < szN n) : szG i < n := by
  have hi : i = 0 ∨ i = 1 ∨ i = 2 ∨ i = 3 := by have := (szN_len n).2; omega
  have := szN_cases n
  rcases hi with rfl | rfl | rfl | rfl <;> simp [szG] <;> omega
theorem szN_le {n : Nat} (hn : n < 18446744073709551616) : n ≤ szG (szN n) := by
  rcases szN_cases n with ⟨_, e⟩ | ⟨_, _, e⟩ | ⟨_, _, e⟩ | ⟨_, _, e⟩ | ⟨_, e⟩ <;> rw [e] <;> simp [szG] <;> omega
theorem szK_cases (k : Int) : (szK k ≤ 4 ∧ k = (szL (szK k) : Int)) ∨ (szK k = 5 ∧ ¬ (k = 0 ∨ k = 1 ∨ k = 2 ∨ k = 4 ∨ k = 8)) := by
  unfold szK
  by_cases h0 : k = 0
  · subst h0; exact .inl ⟨by decide, by decide⟩
  · by_cases h1 : k = 1
    · subst h1; exact .inl ⟨by decide, by decide⟩
    · by_cases h2 : k = 2
      · subst h2; exact .inl ⟨by decide, by decide⟩
      · by_cases h4 : k = 4
        · subst h4; exact .inl ⟨by decide, by decide⟩
        · by_cases h8 : k = 8
          · subst h8; exact .inl ⟨by decide, by decide⟩
          · exact .inr ⟨by rw [if_neg h0, if_neg h1, if_neg h2, if_neg h4, if_neg h8], by omega⟩
theorem szL_inj {i j : Nat} (hi : i ≤ 4) (hj : j ≤ 4) (h : szL i = szL j) : i = j := by
  have h1 : i = 0 ∨ i = 1 ∨ i = 2 ∨ i = 3 ∨ i = 4 := by omega
  have h2 : j = 0 ∨ j = 1 ∨ j = 2 ∨ j = 3 ∨ j = 4 := by omega
  rcases h1 with rfl | rfl | rfl | rfl | rfl <;> rcases h2 with rfl | rfl | rfl | rfl | rfl <;> first | rfl | (exact absurd h (by decide))
theorem szK_lt {k : Int} {i : Nat} (h : i < szK k) : ¬ ((szL i : Nat) : Int) = k := by
  intro e
  rcases szK_cases k with ⟨h1, h2⟩ | ⟨h1, h2⟩
  · have := szL_inj (i := i) (j := szK k) (by omega) h1 (by omega)
    omega
  · have hi : i = 0 ∨ i = 1 ∨ i = 2 ∨ i = 3 ∨ i = 4 := by omega
    rcases hi with rfl | rfl | rfl | rfl | rfl <;> simp [szL] at e <;> omega
set_option maxRecDepth 100000 in
theorem slength_any (s : Nat) (hs : s ≤ 5) (w : World) : Calls Try.prog 23 #[.int .i64 (s : Int)] w fun e w' => e = .returned (.int .i64 (szL s : Int)) ∧ w = w' := by
  have h : s = 0 ∨ s = 1 ∨ s = 2 ∨ s = 3 ∨ s = 4 ∨ s = 5 := by omega
  clear hs
  rcases h with rfl | rfl | rfl | rfl | rfl | rfl
  all_goals
    go_enter Try.func23, Try.ntmps23
    go_wp2_with fail
    go_ret
    exact ⟨rfl, rfl⟩
set_option maxRecDepth 100000 in
theorem sgreatest_any (s : Nat) (hs : s ≤ 4) (w : World) : Calls Try.prog 28 #[.int .i64 (s : Int)] w fun e w' => e = .returned (.int .u64 (szG s : Int)) ∧ w = w' := by
  have HL := Lib.hid (fun s h W => slength_any s h W)
  have h : s = 0 ∨ s = 1 ∨ s = 2 ∨ s = 3 ∨ s = 4 := by omega
  clear hs
  rcases h with rfl | rfl | rfl | rfl | rfl
  · go_enter Try.func28, Try.ntmps28
    go_wp2_with fail
    go_ret
    exact ⟨rfl, rfl⟩
  · have H1 := Lib.hid (fun W => HL.out 1 (by decide) W)
    go_enter Try.func28, Try.ntmps28
    go_wp2_with fail
    refine (H1.out _).mono ?_
    rintro e w' ⟨rfl, rfl⟩
    rw [show szL 1 = 1 from rfl]
    go_wp2_with fail
    go_ret
    exact ⟨rfl, rfl⟩
  · have H1 := Lib.hid (fun W => HL.out 2 (by decide) W)
    go_enter Try.func28, Try.ntmps28
    go_wp2_with fail
    refine (H1.out _).mono ?_
    rintro e w' ⟨rfl, rfl⟩
    rw [show szL 2 = 2 from rfl]
    go_wp2_with fail
    go_ret
    exact ⟨rfl, rfl⟩
  · have H1 := Lib.hid (fun W => HL.out 3 (by decide) W)
    go_enter Try.func28, Try.ntmps28
    go_wp2_with fail
    refine (H1.out _).mono ?_
    rintro e w' ⟨rfl, rfl⟩
    rw [show szL 3 = 4 from rfl]
    go_wp2_with fail
    go_ret
    exact ⟨rfl, rfl⟩
  · have H1 := Lib.hid (fun W => HL.out 4 (by decide) W)
    go_enter Try.func28, Try.ntmps28
    go_wp2_with fail
    refine (H1.out _).mono ?_
    rintro e w' ⟨rfl, rfl⟩
    rw [show szL 4 = 8 from rfl]
    go_wp2_with fail
    go_ret
    exact ⟨rfl, rfl⟩
set_option maxRecDepth 100000 in
theorem sinfo_any (s n : Nat) (hs : s ≤ 4) (hn : s = 0 → n < 24) (_ : n < 18446744073709551616) (w : World) : Calls Try.prog 27 #[.int .i64 (s : Int), .int .u64 (n : Int)] w fun e w' => e = .returned (.int .i64 ((if s = 0 then n else 23 + s : Nat) : Int)) ∧ w = w' := by
  by_cases h : s = 0
  · subst h
    have h24 := hn rfl
    rw [if_pos rfl]
    clear hs hn
    go_enter Try.func27, Try.ntmps27
    go_wp2_with fail
    go_ret
    exact ⟨rfl, rfl⟩
  · have k0 : ((s : Int) == 0) = false := neI (by omega)
    obtain ⟨r, hr⟩ : ∃ r, (if s = 0 then n else 23 + s) = r := ⟨_, rfl⟩
    have e : (23 : Int) + (s : Int) = (r : Int) := by rw [← hr, if_neg h]; omega
    have er : r ≤ 27 := by rw [← hr, if_neg h]; omega
    rw [hr]
    clear hr h hn
    go_enter Try.func27, Try.ntmps27
    go_wp2_with fail
    go_ret
    exact ⟨by first | rfl | (rw [e]), rfl⟩
set_option maxRecDepth 100000 in
theorem sjoin_any (m x : Nat) (hm : m ≤ 7) (hx : x < 32) (w : World) : Calls Try.prog 26 #[.int .i64 (m : Int), .int .i64 (x : Int)] w fun e w' => e = .returned (.int .u8 ((m * 32 + x : Nat) : Int)) ∧ w = w' := by
  have hb := int_first hm hx
  have hb8 : IntKind.u8.wrap ((m * 32 + x : Nat) : Int) = ((m * 32 + x : Nat) : Int) := by rw [IntKind.wrap_u8]; omega
  obtain ⟨d, hd⟩ : ∃ d, m * 32 + x = d := ⟨_, rfl⟩
  rw [hd] at hb hb8 ⊢
  clear hd
  go_enter Try.func26, Try.ntmps26
  go_wp2_with fail
  go_ret
  exact ⟨rfl, rfl⟩
set_option maxRecDepth 100000 in
theorem ssplit_any (x : Nat) (hx : x < 256) (w : World) : Calls Try.prog 21 #[.int .u8 (x : Int)] w fun e w' => e = .returned (.tuple #[.int .i64 ((x / 32 : Nat) : Int), .int .i64 ((x % 32 : Nat) : Int)]) ∧ w = w' := by
  have ka := u8_31 x hx
  have kb : (x : Int) / 32 = ((x / 32 : Nat) : Int) := by omega
  obtain ⟨p, hp⟩ : ∃ p, x / 32 = p := ⟨_, rfl⟩
  obtain ⟨q, hq⟩ : ∃ q, x % 32 = q := ⟨_, rfl⟩
  have hp8 : p < 8 := by omega
  have hq8 : q < 32 := by omega
  rw [hq] at ka ⊢
  rw [hp] at kb ⊢
  clear hp hq
  go_enter Try.func21, Try.ntmps21
  go_wp2_with fail
  exact bodyPost_ret (by simp [results, Try.results21, go_sem]) rfl ⟨rfl, rfl⟩
set_option maxRecDepth 100000 in
theorem scanopen_any (M : Nat) (hM : M ≤ 7) (w : World) : Calls Try.prog 29 #[.int .i64 (M : Int)] w fun e w' => e = .returned (.bool (decide (2 ≤ M ∧ M ≠ 6))) ∧ w = w' := by
  have h : M = 0 ∨ M = 1 ∨ M = 2 ∨ M = 3 ∨ M = 4 ∨ M = 5 ∨ M = 6 ∨ M = 7 := by omega
  clear hM
  rcases h with rfl | rfl | rfl | rfl | rfl | rfl | rfl | rfl
  all_goals
    go_enter Try.func29, Try.ntmps29
    go_wp2_with fail
    go_ret
    exact ⟨rfl, rfl⟩
set_option maxRecDepth 100000 in
theorem sbehind_any (x : Nat) (hx : x ≤ 31) (w : World) : Calls Try.prog 22 #[.int .i64 (x : Int)] w fun e w' => e = .returned (.int .i64 (szI x : Int)) ∧ w = w' := by
  by_cases h1 : (x : Int) ≤ 23
  · have e : szI x = 0 := by unfold szI; rw [if_pos (by omega)]
    rw [e]
    clear e
    go_enter Try.func22, Try.ntmps22
    go_wp2_with fail
    go_ret
    exact ⟨rfl, rfl⟩
  · by_cases h2 : x = 31
    · subst h2
      clear h1 hx
      go_enter Try.func22, Try.ntmps22
      go_wp2_with fail
      go_ret
      exact ⟨rfl, rfl⟩
    · have k31 : ((x : Int) == 31) = false := neI (by omega)
      by_cases h3 : (x : Int) < 28
      · obtain ⟨r, hr⟩ : ∃ r, szI x = r := ⟨_, rfl⟩
        have e : (x : Int) - 23 = (r : Int) := by
          rw [← hr]
          unfold szI
          rw [if_neg (by omega), if_pos (by omega)]
          omega
        rw [hr]
        clear hr h2
        go_enter Try.func22, Try.ntmps22
        go_wp2_with fail
        go_ret
        exact ⟨by first | rfl | (rw [e]), rfl⟩
      · have e : szI x = 5 := by unfold szI; rw [if_neg (by omega), if_neg (by omega)]
        rw [e]
        clear e h2
        go_enter Try.func22, Try.ntmps22
        go_wp2_with fail
        go_ret
        exact ⟨rfl, rfl⟩
set_option maxRecDepth 100000 in
theorem sleast_any (n : Nat) (hn : n < 18446744073709551616) (w : World) : Calls Try.prog 16 #[.int .u64 (n : Int)] w fun e w' => e = .returned (.int .i64 (szN n : Int)) ∧ w = w' := by
  have HG := Lib.hid (fun s h W => sgreatest_any s h W)
  have h4 : szN n ≤ 4 := (szN_len n).2
  have HLT := Lib.hid (fun i (h : i < szN n) => szN_lt h)
  have HLE := Lib.hid (szN_le hn)
  obtain ⟨q, hq⟩ : ∃ q, szN n = q := ⟨_, rfl⟩
  rw [hq] at h4 HLT HLE ⊢
  clear hq
  go_enter Try.func16, Try.ntmps16
  go_wp2_with fail
  go_loopw [3] (fun s3 wr => ∃ i : Nat, i ≤ q ∧ s3 = .int .i64 (i : Int) ∧ w = wr) (fun s3 _ => q - (intOf s3).toNat)
  case atStart => exact ⟨0, Nat.zero_le _, rfl, rfl⟩
  case round =>
    obtain ⟨i, hi, rfl, rfl⟩ := hrel
    have H1 := Lib.hid (fun W => HG.out i (by omega) W)
    obtain ⟨g, hg⟩ : ∃ g, szG i = g := ⟨_, rfl⟩
    rw [hg] at H1
    by_cases hlt : i < q
    · have h1 : ((g : Nat) : Int) < (n : Int) := by have := HLT.out i hlt; omega
      clear hg
      go_wp2_with fail
      refine (H1.out _).mono ?_
      rintro e w' ⟨rfl, rfl⟩
      go_wp2_with fail
      go_roundw
      case rel => exact ⟨i + 1, hlt, by go_num, trivial⟩
      case measure => simp [intOf]; omega
    · obtain rfl : i = q := by omega
      have h1 : ¬ ((g : Nat) : Int) < (n : Int) := by have := HLE.out; omega
      clear hg
      go_wp2_with fail
      refine (H1.out _).mono ?_
      rintro e w' ⟨rfl, rfl⟩
      go_wp2_with fail
      exact bodyPost_ret (by simp [results, Try.results16, go_sem]) rfl ⟨rfl, by first | rfl | trivial⟩
set_option maxRecDepth 100000 in
theorem sizeof_any (k : Int) (w : World) : Calls Try.prog 18 #[.int .i64 k] w fun e w' => e = .returned (.int .i64 (szK k : Int)) ∧ w = w' := by
  have HL := Lib.hid (fun s h W => slength_any s h W)
  have HC := Lib.hid (szK_cases k)
  have h5 : szK k ≤ 5 := by have := szK_cases k; omega
  have HLT := Lib.hid (fun i (h : i < szK k) => szK_lt h)
  obtain ⟨q, hq⟩ : ∃ q, szK k = q := ⟨_, rfl⟩
  rw [hq] at h5 HLT HC ⊢
  clear hq
  go_enter Try.func18, Try.ntmps18
  go_wp2_with fail
  go_loopw [4] (fun s4 wr => ∃ i : Nat, i ≤ q ∧ s4 = .int .i64 (i : Int) ∧ w = wr) (fun s4 _ => q - (intOf s4).toNat)
  case atStart => exact ⟨0, Nat.zero_le _, rfl, rfl⟩
  case round =>
    obtain ⟨i, hi, rfl, rfl⟩ := hrel
    by_cases hlt : i < q
    · have H1 := Lib.hid (fun W => HL.out i (by omega) W)
      have h1 := neI (HLT.out i hlt)
      have h2 : (i : Int) < 5 := by omega
      obtain ⟨g, hg⟩ : ∃ g, szL i = g := ⟨_, rfl⟩
      rw [hg] at H1 h1
      clear hg
      go_wp2_with fail
      refine (H1.out _).mono ?_
      rintro e w' ⟨rfl, rfl⟩
      go_wp2_with fail
      go_roundw
      case rel => exact ⟨i + 1, hlt, by go_num, trivial⟩
      case measure => simp [intOf]; omega
    · obtain rfl : i = q := by omega
      rcases HC.out with ⟨h1, h2⟩ | ⟨h1, _⟩
      · have H1 := Lib.hid (fun W => HL.out i (by omega) W)
        have h3 : (i : Int) < 5 := by omega
        obtain ⟨g, hg⟩ : ∃ g, szL i = g := ⟨_, rfl⟩
        rw [hg] at H1 h2
        subst h2
        clear hg HC HLT
        go_wp2_with fail
        refine (H1.out _).mono ?_
        rintro e w' ⟨rfl, rfl⟩
        go_wp2_with fail
        exact bodyPost_ret (by simp [results, Try.results18, go_sem]) rfl ⟨rfl, by first | rfl | trivial⟩
      · subst h1
        go_wp2_with fail
        exact bodyPost_ret (by simp [results, Try.results18, go_sem]) rfl ⟨rfl, by first | rfl | trivial⟩
end Go.Proofs.Ytmmaapmmjdjgaaa.nn
namespace Go.Proofs.Ytmmaapmmjdjgaaa.nn
open Go.RowKit

/-- is a head refused -/
def rfB (M : Int) (n s : Nat) : Bool := decide (M < 0 ∨ 7 < M ∨ s = 5 ∨ szG s < n ∨ (M = 7 ∧ (1 < s ∨ (s = 1 ∧ n < 32))))
theorem rfB_no {M : Int} {n s : Nat} (hs : s ≤ 4) (hn : n < 18446744073709551616) : hdOk M n (szL s : Int) = !rfB M n s := by
  have h : s = 0 ∨ s = 1 ∨ s = 2 ∨ s = 3 ∨ s = 4 := by omega
  have hS := hdS_cases n
  unfold hdOk hdX rfB
  rcases h with rfl | rfl | rfl | rfl | rfl
  · rw [show szL 0 = 0 from rfl, show szG 0 = 23 from rfl]
    by_cases c : M < 0 ∨ 7 < M ∨ 0 = 5 ∨ 23 < n ∨ (M = 7 ∧ (1 < 0 ∨ (0 = 1 ∧ n < 32)))
    · rw [decide_eq_true c, Bool.not_true]
      by_cases c2 : (hdS n : Int) ≤ 0
      · rw [decide_eq_true (by omega)]; rfl
      · rw [decide_eq_false (p := _ ∧ _) (by omega), Bool.and_false]
    · rw [decide_eq_false c, decide_eq_false (by omega), decide_eq_true ⟨.inl rfl, by omega⟩]; rfl
  · rw [show szL 1 = 1 from rfl, show szG 1 = 255 from rfl, show hdI ((1 : Nat) : Int) = 24 from rfl]
    by_cases c : M < 0 ∨ 7 < M ∨ 1 = 5 ∨ 255 < n ∨ (M = 7 ∧ (1 < 1 ∨ (1 = 1 ∧ n < 32)))
    · rw [decide_eq_true c, Bool.not_true]
      by_cases c2 : (hdS n : Int) ≤ 1
      · rw [decide_eq_true (by omega)]; rfl
      · rw [decide_eq_false (p := _ ∧ _) (by omega), Bool.and_false]
    · rw [decide_eq_false c, decide_eq_false (by omega), decide_eq_true ⟨.inr (by decide), by omega⟩]; rfl
  · rw [show szL 2 = 2 from rfl, show szG 2 = 65535 from rfl, show hdI ((2 : Nat) : Int) = 25 from rfl]
    by_cases c : M < 0 ∨ 7 < M ∨ 2 = 5 ∨ 65535 < n ∨ (M = 7 ∧ (1 < 2 ∨ (2 = 1 ∧ n < 32)))
    · rw [decide_eq_true c, Bool.not_true]
      by_cases c2 : (hdS n : Int) ≤ 2
      · rw [decide_eq_true (by omega)]; rfl
      · rw [decide_eq_false (p := _ ∧ _) (by omega), Bool.and_false]
    · rw [decide_eq_false c, decide_eq_false (by omega), decide_eq_true ⟨.inr (by decide), by omega⟩]; rfl
  · rw [show szL 3 = 4 from rfl, show szG 3 = 4294967295 from rfl, show hdI ((4 : Nat) : Int) = 26 from rfl]
    by_cases c : M < 0 ∨ 7 < M ∨ 3 = 5 ∨ 4294967295 < n ∨ (M = 7 ∧ (1 < 3 ∨ (3 = 1 ∧ n < 32)))
    · rw [decide_eq_true c, Bool.not_true]
      by_cases c2 : (hdS n : Int) ≤ 4
      · rw [decide_eq_true (by omega)]; rfl
      · rw [decide_eq_false (p := _ ∧ _) (by omega), Bool.and_false]
    · rw [decide_eq_false c, decide_eq_false (by omega), decide_eq_true ⟨.inr (by decide), by omega⟩]; rfl
  · rw [show szL 4 = 8 from rfl, show szG 4 = 18446744073709551615 from rfl, show hdI ((8 : Nat) : Int) = 27 from rfl]
    by_cases c : M < 0 ∨ 7 < M ∨ 4 = 5 ∨ 18446744073709551615 < n ∨ (M = 7 ∧ (1 < 4 ∨ (4 = 1 ∧ n < 32)))
    · rw [decide_eq_true c, Bool.not_true]
      by_cases c2 : (hdS n : Int) ≤ 8
      · rw [decide_eq_true (by omega)]; rfl
      · rw [decide_eq_false (p := _ ∧ _) (by omega), Bool.and_false]
    · rw [decide_eq_false c, decide_eq_false (by omega), decide_eq_true ⟨.inr (by decide), by omega⟩]; rfl
theorem hdOk_none {M : Int} {n : Nat} {k : Int} (h : ¬ (k = 0 ∨ k = 1 ∨ k = 2 ∨ k = 4 ∨ k = 8)) : hdOk M n k = false := by
  cases hc : hdOk M n k with
  | false => rfl
  | true => exact absurd (hdOk_parts hc).2.2.1 h
set_option maxRecDepth 100000 in
set_option maxHeartbeats 2000000 in
theorem srefusal_any (M : Int) (n s : Nat) (hM1 : -9223372036854775808 ≤ M) (hM2 : M ≤ 9223372036854775807) (hn : n < 18446744073709551616) (hs : s ≤ 5) (w : World) :
    Calls Try.prog 25 #[.int .i64 M, .int .u64 (n : Int), .int .i64 (s : Int)] w fun e w' => e = .returned (.int .i64 (if rfB M n s then 1 else 0)) ∧ w = w' := by
  have HG := Lib.hid (fun h W => sgreatest_any s h W)
  have HB : Hid (rfB M n s = decide (M < 0 ∨ 7 < M ∨ s = 5 ∨ szG s < n ∨ (M = 7 ∧ (1 < s ∨ (s = 1 ∧ n < 32))))) := Lib.hid rfl
  obtain ⟨B, hB⟩ : ∃ B, rfB M n s = B := ⟨_, rfl⟩
  rw [hB] at HB ⊢
  clear hB
  by_cases c1 : M < 0
  · obtain rfl : B = true := by rw [HB.out]; exact decide_eq_true (by omega)
    clear HB
    go_enter Try.func25, Try.ntmps25
    go_wp2_with fail
    go_ret
    exact ⟨rfl, rfl⟩
  · by_cases c2 : 7 < M
    · obtain rfl : B = true := by rw [HB.out]; exact decide_eq_true (by omega)
      clear HB
      go_enter Try.func25, Try.ntmps25
      go_wp2_with fail
      go_ret
      exact ⟨rfl, rfl⟩
    · by_cases c3 : s = 5
      · subst c3
        obtain rfl : B = true := by rw [HB.out]; exact decide_eq_true (by omega)
        clear HB HG
        go_enter Try.func25, Try.ntmps25
        go_wp2_with fail
        go_ret
        exact ⟨rfl, rfl⟩
      · have k5 : ((s : Int) == 5) = false := neI (by omega)
        have H1 := Lib.hid (HG.out (by omega) w)
        obtain ⟨g, hg⟩ : ∃ g, szG s = g := ⟨_, rfl⟩
        rw [hg] at H1 HB
        have H5 := Lib.hid c3
        clear HG hg c3
        by_cases c4 : (g : Int) < (n : Int)
        · obtain rfl : B = true := by rw [HB.out]; exact decide_eq_true (by omega)
          clear HB
          go_enter Try.func25, Try.ntmps25
          go_wp2_with fail
          refine H1.out.mono ?_
          rintro e w' ⟨rfl, rfl⟩
          go_wp2_with fail
          go_ret
          exact ⟨rfl, rfl⟩
        · by_cases c5 : M = 7
          · subst c5
            by_cases c6 : (1 : Int) < (s : Int)
            · obtain rfl : B = true := by rw [HB.out]; exact decide_eq_true (by omega)
              clear HB c1 c2
              go_enter Try.func25, Try.ntmps25
              go_wp2_with fail
              refine H1.out.mono ?_
              rintro e w' ⟨rfl, rfl⟩
              go_wp2_with fail
              go_ret
              exact ⟨rfl, rfl⟩
            · by_cases c7 : s = 1
              · subst c7
                by_cases c8 : (n : Int) < 32
                · obtain rfl : B = true := by rw [HB.out]; exact decide_eq_true (by omega)
                  clear HB c1 c2 c6
                  go_enter Try.func25, Try.ntmps25
                  go_wp2_with fail
                  refine H1.out.mono ?_
                  rintro e w' ⟨rfl, rfl⟩
                  go_wp2_with fail
                  go_ret
                  exact ⟨rfl, rfl⟩
                · obtain rfl : B = false := by rw [HB.out]; exact decide_eq_false (by omega)
                  clear HB c1 c2 c6
                  go_enter Try.func25, Try.ntmps25
                  go_wp2_with fail
                  refine H1.out.mono ?_
                  rintro e w' ⟨rfl, rfl⟩
                  go_wp2_with fail
                  go_ret
                  exact ⟨rfl, rfl⟩
              · have k1 : ((s : Int) == 1) = false := neI (by omega)
                obtain rfl : B = false := by rw [HB.out]; exact decide_eq_false (by omega)
                clear HB c1 c2 c7
                go_enter Try.func25, Try.ntmps25
                go_wp2_with fail
                refine H1.out.mono ?_
                rintro e w' ⟨rfl, rfl⟩
                go_wp2_with fail
                go_ret
                exact ⟨rfl, rfl⟩
          · have k7 : (M == 7) = false := neI c5
            obtain rfl : B = false := by rw [HB.out]; exact decide_eq_false (by have := H5.out; omega)
            clear HB c5
            go_enter Try.func25, Try.ntmps25
            go_wp2_with fail
            refine H1.out.mono ?_
            rintro e w' ⟨rfl, rfl⟩
            go_wp2_with fail
            go_ret
            exact ⟨rfl, rfl⟩
set_option maxRecDepth 100000 in
set_option maxHeartbeats 8000000 in
theorem swrite_any (M : Int) (n s : Nat) (k : Int) (hM1 : -9223372036854775808 ≤ M) (hM2 : M ≤ 9223372036854775807) (hn : n < 18446744073709551616) (hk : (s ≤ 4 ∧ k = (szL s : Int)) ∨ (s = 5 ∧ ¬ (k = 0 ∨ k = 1 ∨ k = 2 ∨ k = 4 ∨ k = 8))) (w : World) :
    Calls Try.prog 15 #[.int .i64 M, .int .u64 (n : Int), .int .i64 (s : Int)] w (HdAns M n k w) := by
  obtain ⟨i0, hi, hz0, hz1, hz2⟩ := info_parts info_byte10
  have HB0 := Lib.hid (Below.refl w.heap.size w)
  have HR := Lib.hid (srefusal_any M n s hM1 hM2 hn (by omega) w)
  have HOK : Hid (hdOk M n k = !rfB M n s) := Lib.hid (by
    rcases hk with ⟨h1, rfl⟩ | ⟨rfl, h2⟩
    · exact rfB_no h1 hn
    · rw [hdOk_none h2]
      unfold rfB
      rw [decide_eq_true (by omega)]
      rfl)
  have HBD : Hid (rfB M n s = false → 0 ≤ M ∧ M ≤ 7 ∧ s ≤ 4 ∧ n ≤ szG s) := Lib.hid (fun h => by
    have := of_decide_eq_false h
    omega)
  obtain ⟨B, hB⟩ : ∃ B, rfB M n s = B := ⟨_, rfl⟩
  rw [hB] at HR HOK HBD
  clear hB
  cases B with
  | true =>
    have HF : Hid (hdOk M n k = false) := HOK
    clear HBD HOK hk
    rw [if_pos rfl] at HR
    go_enter Try.func15, Try.ntmps15
    go_wp2_with fail
    refine HR.out.mono ?_
    rintro e w' ⟨rfl, rfl⟩
    go_wp2_with fail
    exact bodyPost_ret (by simp [results, Try.results15, go_sem]) rfl ⟨.inr ⟨HF.out, rfl⟩, HB0.out⟩
  | false =>
    have HF : Hid (hdOk M n k = true) := HOK
    rw [if_neg (by decide)] at HR
    obtain ⟨m0, hm7, hs4, hng⟩ := HBD.out rfl
    obtain ⟨m, rfl⟩ := Int.eq_ofNat_of_zero_le m0
    have hm7 : m ≤ 7 := by omega
    obtain ⟨q, hq⟩ : ∃ q, szL s = q := ⟨_, rfl⟩
    obtain rfl : k = (q : Int) := by omega
    have hqs : (s = 0 ∧ q = 0) ∨ (s = 1 ∧ q = 1) ∨ (s = 2 ∧ q = 2) ∨ (s = 3 ∧ q = 4) ∨ (s = 4 ∧ q = 8) := by
      have h : s = 0 ∨ s = 1 ∨ s = 2 ∨ s = 3 ∨ s = 4 := by omega
      rcases h with rfl | rfl | rfl | rfl | rfl <;> simp [szL] at hq <;> omega
    have hn24 : s = 0 → n < 24 := by
      rintro rfl
      simp [szG] at hng
      omega
    have HL := Lib.hid (fun W => slength_any s (by omega) W)
    have HI := Lib.hid (fun W => sinfo_any s n hs4 hn24 hn W)
    obtain ⟨x, hx⟩ : ∃ x, (if s = 0 then n else 23 + s) = x := ⟨_, rfl⟩
    have hx32 : x < 32 := by rw [← hx]; split <;> omega
    have HJ := Lib.hid (fun W => sjoin_any m x hm7 hx32 W)
    have HD0 : Hid (hdB m n q 0 = m * 32 + x) := Lib.hid (by
      unfold hdB
      rw [if_pos rfl, ← hx]
      rcases hqs with ⟨rfl, rfl⟩ | ⟨rfl, rfl⟩ | ⟨rfl, rfl⟩ | ⟨rfl, rfl⟩ | ⟨rfl, rfl⟩ <;> rfl)
    have hd256 : m * 32 + x < 256 := by omega
    obtain ⟨d0, hd0⟩ : ∃ d, m * 32 + x = d := ⟨_, rfl⟩
    rw [hq] at HL
    rw [hx] at HI
    rw [hd0] at HJ HD0 hd256
    have hq8 : q ≤ 8 := by omega
    have HO0 : Hid ((w.alloc (.cells #[.int .u8 (d0 : Int)] 5)).ownsRow w.heap.size 5 1 (.slice (some ⟨w.heap.size, 0, none⟩) 1 1) 1 (vl .u8 (hdB m n q) 1)) := Lib.hid (by
      have h := World.ownsRow_lit (base := w.heap.size) (e := 5) (size := 1) w #[.int .u8 (d0 : Int)] 1 (Nat.le_refl _) (by simp [maxLen]) rfl
      have e : vl .u8 (hdB m n q) 1 = [.int .u8 (d0 : Int)] := by unfold vl; rw [List.range_succ]; simp [HD0.out]
      rw [e]
      exact h)
    have HB1 := Lib.hid ((Below.refl w.heap.size w).alloc (Nat.le_refl _) (.cells #[.int .u8 (d0 : Int)] 5))
    clear hk HBD HOK m0 hng hq hqs hn24 hx hx32 hd0 hs4
    go_enter Try.func15, Try.ntmps15
    go_wp2_with fail
    refine HR.out.mono ?_
    rintro e w' ⟨rfl, rfl⟩
    go_wp2_with fail
    refine (HI.out _).mono ?_
    rintro e w' ⟨rfl, rfl⟩
    go_wp2_with fail
    refine (HJ.out _).mono ?_
    rintro e w' ⟨rfl, rfl⟩
    go_wp2_with fail
    refine (HL.out _).mono ?_
    rintro e w' ⟨rfl, rfl⟩
    go_wp2_with fail
    go_loopw [9, 10] (fun s9 s10 wr => ∃ (j : Nat) (v : Value), j ≤ q ∧ s9 = v ∧ s10 = .int .i64 ((q : Int) - 1 - (j : Int)) ∧ (∃ A c, v = .slice A (j + 1) c) ∧ Hid (wr.ownsRow w.heap.size 5 1 v (j + 1) (vl .u8 (hdB m n q) (j + 1)) ∧ Below w.heap.size w wr)) (fun _ s10 _ => ((intOf s10) + 1).toNat)
    case atStart => exact ⟨0, _, Nat.zero_le _, rfl, congrArg (Value.int .i64) (by omega), ⟨_, _, rfl⟩, Lib.hid ⟨HO0.out, HB1.out⟩⟩
    case round =>
      obtain ⟨j, v, hj, rfl, rfl, ⟨A0, c0, rfl⟩, hO⟩ := hrel
      by_cases hlt : j < q
      · obtain ⟨i, hii⟩ : ∃ i : Nat, (q : Int) - 1 - (j : Int) = (i : Int) := ⟨q - 1 - j, by omega⟩
        rw [hii]
        have h8 : i = 0 ∨ i = 1 ∨ i = 2 ∨ i = 3 ∨ i = 4 ∨ i = 5 ∨ i = 6 ∨ i = 7 := by omega
        obtain ⟨d, hd⟩ : ∃ d, n / 256 ^ i % 256 = d := ⟨_, rfl⟩
        have hd256' : d < 256 := by rw [← hd]; exact Nat.mod_lt _ (by decide)
        have HDJ : Hid (hdB m n q (j + 1) = d) := Lib.hid (by unfold hdB; rw [if_neg (by omega), show q - (j + 1) = i by omega, hd])
        have U1 : Hid (∀ N : Nat, N = 256 ^ i → IntKind.u8.wrap ((n : Int) / (N : Int)) = (d : Int)) := Lib.hid (fun N hN => by
          rw [IntKind.wrap_u8, ← hd, hN]
          simp)
        have hO2 : ∀ (v1 : Value) (w1 : World), w1.ownsRow w.heap.size 5 1 v1 (j + 1 + 1) (vl .u8 (jn (hdB m n q) (j + 1) (fun _ => d)) (j + 1 + 1)) → Hid (w1.ownsRow w.heap.size 5 1 v1 (j + 1 + 1) (vl .u8 (hdB m n q) (j + 1 + 1))) := fun v1 w1 hown1 => Lib.hid (by
          rw [vl_congr .u8 (g := hdB m n q) (fun i hi => by
            rcases Nat.lt_or_ge i (j + 1) with h | h
            · exact jn_lo _ _ h
            · obtain rfl : i = j + 1 := by omega
              have := jn_hi (hdB m n q) (fun _ => d) (j + 1) 0
              rw [Nat.add_zero] at this
              rw [this, HDJ.out])] at hown1
          exact hown1)
        have HH2 := Lib.hid hO2
        clear hO2 hd
        rcases h8 with rfl | rfl | rfl | rfl | rfl | rfl | rfl | rfl
        all_goals
          first
            | (have u2 : IntKind.u8.wrap (n : Int) = (d : Int) := by have := U1.out 1 (by decide); rw [show ((1 : Nat) : Int) = 1 from rfl, Int.ediv_one] at this; exact this)
            | (have u2 : IntKind.u8.wrap ((n : Int) / 256) = (d : Int) := U1.out 256 (by decide))
            | (have u2 : IntKind.u8.wrap ((n : Int) / 65536) = (d : Int) := U1.out 65536 (by decide))
            | (have u2 : IntKind.u8.wrap ((n : Int) / 16777216) = (d : Int) := U1.out 16777216 (by decide))
            | (have u2 : IntKind.u8.wrap ((n : Int) / 4294967296) = (d : Int) := U1.out 4294967296 (by decide))
            | (have u2 : IntKind.u8.wrap ((n : Int) / 1099511627776) = (d : Int) := U1.out 1099511627776 (by decide))
            | (have u2 : IntKind.u8.wrap ((n : Int) / 281474976710656) = (d : Int) := U1.out 281474976710656 (by decide))
            | (have u2 : IntKind.u8.wrap ((n : Int) / 72057594037927936) = (d : Int) := U1.out 72057594037927936 (by decide))
          clear U1
          go_wp2_with (at_builtin; refine wpList_app rfl (.tmp 31) (.tmp 37) _ rfl w.heap.size 5 i0 _ 1 Try.underlying23 hi hz0 hz1 hz2 rfl .u8 _ (j + 1) (hdB m n q) rfl (hO.out.1.alloc _) _ 1 1 (fun _ => d) rfl (rd_one _ .u8 d _) (by first | (simp [maxLen]; done) | (simp [maxLen]; omega)) (by omega) (by rw [hsz]; exact Nat.le_succ_of_le hO.out.2.size) ?_; intro v1 w1 hown1 hb1)
          have HO2 := HH2.out _ _ hown1
          have HB2 := Lib.hid ((hO.out.2.alloc hO.out.2.size _).trans hb1)
          obtain ⟨A1, c1, rfl, _, _, _⟩ := Rd.of_own HO2.out
          clear hown1 hb1
          go_wp2_with fail
          go_roundw
          case rel => exact ⟨j + 1, _, by omega, rfl, congrArg (Value.int .i64) (by omega), ⟨_, _, rfl⟩, Lib.hid ⟨HO2.out, HB2.out⟩⟩
          case measure => simp [intOf]
      · obtain rfl : j = q := by omega
        have hneg : ((j : Int) - 1 - (j : Int)) = -1 := by omega
        rw [hneg]
        obtain ⟨A1, c1, e1, g1, g2, g3⟩ := Rd.of_own hO.out.1
        injection e1 with ea _ ec
        subst ea ec
        have HG := Lib.hid (And.intro g1 (And.intro g2 g3))
        have hBB := Lib.hid hO.out.2
        clear g1 g2 g3 hneg hO
        go_wp2_with fail
        exact bodyPost_ret (by simp [results, Try.results15, go_sem]) rfl ⟨.inl ⟨HF.out, _, _, rfl, HG.out.2.2, HG.out.1, HG.out.2.1⟩, hBB.out⟩
set_option maxRecDepth 100000 in
theorem put_any (M : Int) (n : Nat) (w : World) (hn : n < 18446744073709551616) (hM1 : -9223372036854775808 ≤ M) (hM2 : M ≤ 9223372036854775807) :
    Calls Try.prog 8 #[.int .i64 M, .int .u64 (n : Int)] w (HdAns M n (hdS n) w) := by
  have HN := Lib.hid (sleast_any n hn w)
  have HC := Lib.hid (swrite_any M n (szN n) (hdS n) hM1 hM2 hn (.inl ⟨(szN_len n).2, by rw [(szN_len n).1]⟩) w)
  obtain ⟨s, hs⟩ : ∃ s, szN n = s := ⟨_, rfl⟩
  rw [hs] at HN HC
  clear hs hn hM1 hM2
  go_enter Try.func8, Try.ntmps8
  go_wp2_with fail
  refine HN.out.mono ?_
  rintro e w' ⟨rfl, rfl⟩
  go_wp2_with fail
  refine HC.out.mono ?_
  rintro e w' ⟨⟨h1, A, c, rfl, h2⟩ | ⟨h1, rfl⟩, hb⟩
  · have HH := Lib.hid (And.intro h1 (And.intro h2 hb))
    clear h1 h2 hb
    go_wp2_with fail
    exact bodyPost_ret (by simp [results, Try.results8, go_sem]) rfl ⟨.inl ⟨HH.out.1, A, c, rfl, HH.out.2.1⟩, HH.out.2.2⟩
  · have HH := Lib.hid (And.intro h1 hb)
    clear h1 hb
    go_wp2_with fail
    exact bodyPost_ret (by simp [results, Try.results8, go_sem]) rfl ⟨.inr ⟨HH.out.1, rfl⟩, HH.out.2⟩
set_option maxRecDepth 100000 in
theorem wide_any (M : Int) (n : Nat) (k : Int) (w : World) (hn : n < 18446744073709551616) (hM1 : -9223372036854775808 ≤ M) (hM2 : M ≤ 9223372036854775807) (_ : -9223372036854775808 ≤ k) (_ : k ≤ 9223372036854775807) :
    Calls Try.prog 10 #[.int .i64 M, .int .u64 (n : Int), .int .i64 k] w (HdAns M n k w) := by
  have HN := Lib.hid (sizeof_any k w)
  have HC := Lib.hid (swrite_any M n (szK k) k hM1 hM2 hn (szK_cases k) w)
  obtain ⟨s, hs⟩ : ∃ s, szK k = s := ⟨_, rfl⟩
  rw [hs] at HN HC
  clear hs hn hM1 hM2
  go_enter Try.func10, Try.ntmps10
  go_wp2_with fail
  refine HN.out.mono ?_
  rintro e w' ⟨rfl, rfl⟩
  go_wp2_with fail
  refine HC.out.mono ?_
  rintro e w' ⟨⟨h1, A, c, rfl, h2⟩ | ⟨h1, rfl⟩, hb⟩
  · have HH := Lib.hid (And.intro h1 (And.intro h2 hb))
    clear h1 h2 hb
    go_wp2_with fail
    exact bodyPost_ret (by simp [results, Try.results10, go_sem]) rfl ⟨.inl ⟨HH.out.1, A, c, rfl, HH.out.2.1⟩, HH.out.2.2⟩
  · have HH := Lib.hid (And.intro h1 hb)
    clear h1 hb
    go_wp2_with fail
    exact bodyPost_ret (by simp [results, Try.results10, go_sem]) rfl ⟨.inr ⟨HH.out.1, rfl⟩, HH.out.2⟩
end Go.Proofs.Ytmmaapmmjdjgaaa.nn
namespace Go.Proofs.Ytmmaapmmjdjgaaa.nn
open Go.RowKit

theorem be_lt {b : Nat → Nat} {n : Nat} (h : ∀ i, i < n → b i < 256) : be b n < 256 ^ n := by
  induction n with
  | zero => simp [be]
  | succ n ih =>
    have h1 := ih fun i hi => h i (by omega)
    have h2 := h n (by omega)
    rw [be, Nat.pow_succ]
    omega

end Go.Proofs.Ytmmaapmmjdjgaaa.nn
namespace Go.Proofs.Ytmmaapmmjdjgaaa.nn

theorem be_of10 {N m : Nat} {O : Nat → Nat} (hN : N < 256 ^ m) (hO : ∀ i, i < m → O i = N / 256 ^ (m - 1 - i) % 256) : ∀ i, i ≤ m → be O i = N / 256 ^ (m - i) := by
  intro i
  induction i with
  | zero => intro _; rw [Nat.sub_zero, Nat.div_eq_of_lt hN]; rfl
  | succ i ih =>
    intro hi
    rw [be, ih (by omega), hO i (by omega), show m - i = (m - 1 - i) + 1 by omega, show m - (i + 1) = m - 1 - i by omega, Nat.pow_succ, ← Nat.div_div_eq_div_mul]
    omega
theorem be_div10 {f : Nat → Nat} {m : Nat} (hf : ∀ i, i < m → f i < 256) (k : Nat) : ∀ i, i + k ≤ m → be f (i + k) / 256 ^ k = be f i := by
  induction k with
  | zero => intro i _; simp
  | succ k ih =>
    intro i hi
    have h1 := ih (i + 1) (by omega)
    have h2 := hf i (by omega)
    rw [Nat.pow_succ, ← Nat.div_div_eq_div_mul, show i + (k + 1) = (i + 1) + k by omega, h1, be]
    omega
theorem be_at10 {f : Nat → Nat} {m i : Nat} (hf : ∀ i, i < m → f i < 256) (hi : i < m) : be f m / 256 ^ (m - 1 - i) % 256 = f i := by
  have h1 := be_div10 hf (m - 1 - i) (i + 1) (by omega)
  rw [show i + 1 + (m - 1 - i) = m by omega] at h1
  rw [h1, be]
  have := hf i hi
  omega
section
variable {f g : Nat → Nat} {m m' : Nat}
/-- the ways of Get -/
theorem gt_cases (f : Nat → Nat) (m : Nat) : ∃ M x K, f 0 / 32 = M ∧ f 0 % 32 = x ∧ 2 ^ (x - 24) = K ∧
    ((m = 0 ∧ gtR f m = (0, 0, 0, 0, 3)) ∨
     (0 < m ∧ ((28 ≤ x ∧ x ≤ 30) ∨ (x = 31 ∧ (M < 2 ∨ M = 6))) ∧ gtR f m = (0, 0, 0, 0, 4)) ∨
     (0 < m ∧ x < 24 ∧ gtR f m = (M, x, x, 1, 0)) ∨
     (0 < m ∧ x = 31 ∧ gtR f m = (M, 31, 0, 1, 0)) ∨
     (1 < m ∧ M = 7 ∧ x = 24 ∧ f 1 < 32 ∧ gtR f m = (0, 0, 0, 1, 4)) ∨
     (0 < m ∧ (x = 24 ∨ x = 25 ∨ x = 26 ∨ x = 27) ∧ m < K + 1 ∧ gtR f m = (0, 0, 0, m, 3)) ∨
     (K + 1 ≤ m ∧ (x = 24 ∨ x = 25 ∨ x = 26 ∨ x = 27) ∧ ¬ (M = 7 ∧ x = 24 ∧ f 1 < 32) ∧ gtR f m = (M, x, be (fun i => f (1 + i)) K, K + 1, 0))) := by
  refine ⟨_, _, _, rfl, rfl, rfl, ?_⟩
  unfold gtR
  obtain ⟨M, hM⟩ : ∃ M, f 0 / 32 = M := ⟨_, rfl⟩
  obtain ⟨x, hx⟩ : ∃ M, f 0 % 32 = M := ⟨_, rfl⟩
  have hx31 : x ≤ 31 := by omega
  rw [hM, hx]
  by_cases h0 : m = 0
  · exact .inl ⟨h0, by rw [if_pos h0]⟩
  · rw [if_neg h0]
    refine .inr ?_
    by_cases h1 : (28 ≤ x ∧ x ≤ 30) ∨ (x = 31 ∧ (M < 2 ∨ M = 6))
    · exact .inl ⟨by omega, h1, by rw [if_pos h1]⟩
    · rw [if_neg h1]
      refine .inr ?_
      by_cases h2 : x < 24
      · exact .inl ⟨by omega, h2, by rw [if_pos h2]⟩
      · rw [if_neg h2]
        refine .inr ?_
        by_cases h3 : x = 31
        · exact .inl ⟨by omega, h3, by rw [if_pos h3]⟩
        · rw [if_neg h3]
          refine .inr ?_
          by_cases h4 : M = 7 ∧ x = 24 ∧ 1 < m ∧ f 1 < 32
          · exact .inl ⟨h4.2.2.1, h4.1, h4.2.1, h4.2.2.2, by rw [if_pos h4]⟩
          · rw [if_neg h4]
            refine .inr ?_
            by_cases h5 : m < 2 ^ (x - 24) + 1
            · exact .inl ⟨by omega, by omega, h5, by rw [if_pos h5]⟩
            · rw [if_neg h5]
              have : 0 < 2 ^ (x - 24) := Nat.pow_pos (by decide)
              exact .inr ⟨by omega, by omega, fun h => h4 ⟨h.1, h.2.1, by omega, h.2.2⟩, rfl⟩
theorem two_k {x : Nat} (h : x = 24 ∨ x = 25 ∨ x = 26 ∨ x = 27) : (2 ^ (x - 24) = 1 ∧ x = 24 ∨ 2 ^ (x - 24) = 2 ∧ x = 25 ∨ 2 ^ (x - 24) = 4 ∧ x = 26 ∨ 2 ^ (x - 24) = 8 ∧ x = 27) := by
  rcases h with rfl | rfl | rfl | rfl <;> decide
/-- what errs as short: all there is, and less than 9 -/
theorem gt_short (h : (gtR f m).2.2.2.2 = 3) : (gtR f m).2.2.2.1 = m ∧ m < 9 := by
  obtain ⟨M, x, K, _, _, hK, h1 | h1 | h1 | h1 | h1 | h1 | h1⟩ := gt_cases f m
  · rw [h1.2]; exact ⟨h1.1.symm, by omega⟩
  · rw [h1.2.2] at h; cases h
  · rw [h1.2.2] at h; cases h
  · rw [h1.2.2] at h; cases h
  · rw [h1.2.2.2.2] at h; cases h
  · rw [h1.2.2.2]
    have := two_k h1.2.1
    exact ⟨rfl, by omega⟩
  · rw [h1.2.2.2] at h; cases h
theorem gt_errs : (gtR f m).2.2.2.2 = 0 ∨ (gtR f m).2.2.2.2 = 3 ∨ (gtR f m).2.2.2.2 = 4 := by
  obtain ⟨M, x, K, _, _, _, h1 | h1 | h1 | h1 | h1 | h1 | h1⟩ := gt_cases f m
  · rw [h1.2]; exact .inr (.inl rfl)
  · rw [h1.2.2]; exact .inr (.inr rfl)
  · rw [h1.2.2]; exact .inl rfl
  · rw [h1.2.2]; exact .inl rfl
  · rw [h1.2.2.2.2]; exact .inr (.inr rfl)
  · rw [h1.2.2.2]; exact .inr (.inl rfl)
  · rw [h1.2.2.2]; exact .inl rfl
/-- what errs errs with the same byte, whatever stands behind it -/
theorem gt_form {k : Nat} (h : (gtR f m).2.2.2.2 = 4) (hk : (gtR f m).2.2.2.1 = k) : k ≤ 1 ∧ k < m ∧ ∀ g m', (∀ i, i ≤ k → g i = f i) → k < m' → gtR g m' = (0, 0, 0, k, 4) := by
  obtain ⟨M, x, K, hM, hx, hK, h1 | h1 | h1 | h1 | h1 | h1 | h1⟩ := gt_cases f m
  · rw [h1.2] at h; cases h
  · rw [h1.2.2] at hk
    obtain rfl : 0 = k := hk
    refine ⟨by omega, h1.1, fun g m' hg hm => ?_⟩
    unfold gtR
    rw [hg 0 (by omega), hM, hx, if_neg (by omega), if_pos h1.2.1]
  · rw [h1.2.2] at h; cases h
  · rw [h1.2.2] at h; cases h
  · rw [h1.2.2.2.2] at hk
    obtain rfl : 1 = k := hk
    refine ⟨by omega, h1.1, fun g m' hg hm => ?_⟩
    unfold gtR
    rw [hg 0 (by omega), hg 1 (by omega), hM, hx, if_neg (by omega), if_neg (by omega), if_neg (by omega), if_neg (by omega), if_pos ⟨h1.2.1, h1.2.2.1, hm, h1.2.2.2.1⟩]
  · rw [h1.2.2.2] at h; cases h
  · rw [h1.2.2.2] at h; cases h
/-- what is read, cut by one byte, is short -/
theorem gt_cut {k : Nat} (h : (gtR f m).2.2.2.2 = 0) (hk : (gtR f m).2.2.2.1 = k) : 1 ≤ k ∧ k ≤ m ∧ gtR f (k - 1) = (0, 0, 0, k - 1, 3) := by
  obtain ⟨M, x, K, hM, hx, hK, h1 | h1 | h1 | h1 | h1 | h1 | h1⟩ := gt_cases f m
  · rw [h1.2] at h; cases h
  · rw [h1.2.2] at h; cases h
  · rw [h1.2.2] at hk
    obtain rfl : 1 = k := hk
    exact ⟨by omega, h1.1, rfl⟩
  · rw [h1.2.2] at hk
    obtain rfl : 1 = k := hk
    exact ⟨by omega, h1.1, rfl⟩
  · rw [h1.2.2.2.2] at h; cases h
  · rw [h1.2.2.2] at h; cases h
  · rw [h1.2.2.2] at hk
    obtain rfl : K + 1 = k := hk
    have h2 := two_k h1.2.1
    rw [hK] at h2
    refine ⟨by omega, h1.1, ?_⟩
    rw [Nat.add_sub_cancel]
    unfold gtR
    rw [hM, hx, hK, if_neg (by omega), if_neg (by omega), if_neg (by omega), if_neg (by omega), if_neg (by omega), if_pos (by omega)]
/-- a head that is written is read -/
theorem gt_back {M : Int} {n : Nat} {k : Int} (h : hdOk M n k = true) (hn : n < 18446744073709551616) (hf : ∀ i, i < k.toNat + 1 → f i = hdB M.toNat n k.toNat i) (hm : k.toNat + 1 ≤ m) : ∃ x, gtR f m = (M.toNat, x, n, k.toNat + 1, 0) := by
  obtain ⟨h1, h2, h3, h4⟩ := hdOk_parts h
  have h5 := hdS_cases n
  have h6 : ¬ _ := of_decide_eq_false h1
  obtain ⟨q, rfl⟩ : ∃ q : Nat, M = (q : Int) := ⟨M.toNat, by omega⟩
  rw [Int.toNat_natCast] at hf ⊢
  have f0 := hf 0 (by omega)
  have all : ∀ K x : Nat, K ≠ 0 → n < 256 ^ K → (∀ i, i < K + 1 → f i = hdB q n K i) → be (fun i => f (1 + i)) K = n := fun K x h0 hK hf => by
    have := be_of10 (O := fun i => f (1 + i)) hK (fun i hi => by
      show f (1 + i) = _
      rw [hf (1 + i) (by omega)]
      unfold hdB
      rw [if_neg (by omega), show K - (1 + i) = K - 1 - i by omega]) K (Nat.le_refl _)
    rw [this, Nat.sub_self, Nat.pow_zero, Nat.div_one]
  rcases h3 with rfl | rfl | rfl | rfl | rfl
  · refine ⟨n, ?_⟩
    have e : f 0 = q * 32 + n := f0
    unfold gtR
    rw [if_neg (by omega), if_neg (by omega), if_pos (by omega), show f 0 / 32 = q by omega, show f 0 % 32 = n by omega]
    rfl
  · refine ⟨24, ?_⟩
    have e : f 0 = q * 32 + 24 := f0
    have e1 : f 1 = n / 1 % 256 := hf 1 (by decide)
    have hm2 : 2 ≤ m := hm
    unfold gtR
    rw [if_neg (by omega), show f 0 / 32 = q by omega, show f 0 % 32 = 24 by omega, if_neg (by omega), if_neg (by omega), if_neg (by omega), if_neg (by omega), show 2 ^ (24 - 24) = 1 from rfl, if_neg (by omega), all 1 0 (by decide) (by omega) hf]
    rfl
  · refine ⟨25, ?_⟩
    have e : f 0 = q * 32 + 25 := f0
    have hm2 : 3 ≤ m := hm
    unfold gtR
    rw [if_neg (by omega), show f 0 / 32 = q by omega, show f 0 % 32 = 25 by omega, if_neg (by omega), if_neg (by omega), if_neg (by omega), if_neg (by omega), show 2 ^ (25 - 24) = 2 from rfl, if_neg (by omega), all 2 0 (by decide) (by omega) hf]
    rfl
  · refine ⟨26, ?_⟩
    have e : f 0 = q * 32 + 26 := f0
    have hm2 : 5 ≤ m := hm
    unfold gtR
    rw [if_neg (by omega), show f 0 / 32 = q by omega, show f 0 % 32 = 26 by omega, if_neg (by omega), if_neg (by omega), if_neg (by omega), if_neg (by omega), show 2 ^ (26 - 24) = 4 from rfl, if_neg (by omega), all 4 0 (by decide) (by omega) hf]
    rfl
  · refine ⟨27, ?_⟩
    have e : f 0 = q * 32 + 27 := f0
    have hm2 : 9 ≤ m := hm
    unfold gtR
    rw [if_neg (by omega), show f 0 / 32 = q by omega, show f 0 % 32 = 27 by omega, if_neg (by omega), if_neg (by omega), if_neg (by omega), if_neg (by omega), show 2 ^ (27 - 24) = 8 from rfl, if_neg (by omega), all 8 0 (by decide) (by omega) hf]
    rfl
/-- a head that is read, but an open one, or a float's, is written so with its size -/
theorem gt_forth {M x n k : Nat} (h : gtR f m = (M, x, n, k, 0)) (hf : ∀ i, i < m → f i < 256) (hx : x ≠ 31) (h7 : ¬ (M = 7 ∧ 24 < x)) :
    ∃ K, k = K + 1 ∧ K ≤ 8 ∧ M ≤ 7 ∧ n < 18446744073709551616 ∧ K + 1 ≤ m ∧ hdOk (M : Int) n (K : Int) = true ∧ ∀ i, i < K + 1 → hdB M n K i = f i := by
  obtain ⟨M', x', K, hM, hx', hK, h1 | h1 | h1 | h1 | h1 | h1 | h1⟩ := gt_cases f m
  · rw [h1.2] at h; cases h
  · rw [h1.2.2] at h; cases h
  · rw [h1.2.2] at h
    injection h with e1 e2
    injection e2 with e2 e3
    injection e3 with e3 e4
    injection e4 with e4 e5
    subst e1 e2 e3 e4
    have h0 := hf 0 h1.1
    refine ⟨0, rfl, by omega, by omega, by omega, h1.1, ?_, fun i hi => ?_⟩
    · unfold hdOk hdX
      have := hdS_cases x'
      rw [decide_eq_false (by omega), decide_eq_true (by omega)]
      rfl
    · obtain rfl : i = 0 := by omega
      show M' * 32 + x' = f 0
      omega
  · rw [h1.2.2] at h
    injection h with e1 e2
    injection e2 with e2 e3
    omega
  · rw [h1.2.2.2.2] at h; cases h
  · rw [h1.2.2.2] at h; cases h
  · rw [h1.2.2.2] at h
    injection h with e1 e2
    injection e2 with e2 e3
    injection e3 with e3 e4
    injection e4 with e4 e5
    subst e1 e2 e4
    have h0 := hf 0 (by omega)
    have h2 := two_k h1.2.1
    rw [hK] at h2
    have hb : ∀ i, i < K → (fun i => f (1 + i)) i < 256 := fun i hi => hf (1 + i) (by omega)
    have hlt := be_lt hb
    rw [e3] at hlt
    have h3 := h1.2.2.1
    have h4 := hdS_cases n
    have h5 := hdI_cases (K : Int)
    have n1 : K = 1 → n = f 1 := by
      rintro rfl
      rw [← e3]
      show 0 * 256 + f (1 + 0) = f 1
      simp
    refine ⟨K, rfl, by omega, by omega, ?_, h1.1, ?_, fun i hi => ?_⟩
    · rcases h2 with ⟨h2, _⟩ | ⟨h2, _⟩ | ⟨h2, _⟩ | ⟨h2, _⟩ <;> rw [h2] at hlt <;> omega
    · unfold hdOk hdX
      rw [decide_eq_false, decide_eq_true]
      · rfl
      · refine ⟨by omega, ?_⟩
        rcases h2 with ⟨h2, _⟩ | ⟨h2, _⟩ | ⟨h2, _⟩ | ⟨h2, _⟩ <;> rw [h2] at hlt <;> omega
      · rcases h2 with ⟨h2, _⟩ | ⟨h2, _⟩ | ⟨h2, _⟩ | ⟨h2, _⟩ <;> rw [h2] at hlt <;> omega
    · unfold hdB
      by_cases hi0 : i = 0
      · subst hi0
        rw [if_pos rfl, if_neg (by omega)]
        omega
      · obtain ⟨j, rfl⟩ : ∃ j, i = 1 + j := ⟨i - 1, by omega⟩
        rw [if_neg (by omega), ← e3, show K - (1 + j) = K - 1 - j by omega]
        exact be_at10 hb (by omega)
end
end Go.Proofs.Ytmmaapmmjdjgaaa.nn
namespace Go.Proofs.Ytmmaapmmjdjgaaa.nn
open Go.RowKit

theorem szI_cases {x : Nat} (hx : x ≤ 31) : (x ≤ 23 ∧ szI x = 0) ∨ (x = 31 ∧ szI x = 0) ∨ (x = 24 ∧ szI x = 1) ∨ (x = 25 ∧ szI x = 2) ∨ (x = 26 ∧ szI x = 3) ∨ (x = 27 ∧ szI x = 4) ∨ (28 ≤ x ∧ x ≤ 30 ∧ szI x = 5) := by
  unfold szI
  by_cases h1 : x ≤ 23
  · exact .inl ⟨h1, if_pos (.inl h1)⟩
  · by_cases h2 : x = 31
    · exact .inr (.inl ⟨h2, if_pos (.inr h2)⟩)
    · rw [if_neg (by omega)]
      by_cases h3 : x < 28
      · rw [if_pos h3]; omega
      · rw [if_neg h3]; omega
set_option maxRecDepth 100000 in
set_option maxHeartbeats 2000000 in
theorem snumber_any (x : Nat) (hx : x ≤ 31) (A : Option Addr) (k c : Nat) (f : Nat → Nat) (w : World) (hA : Rd w .u8 A k f) (hf : ∀ i, i < k → f i < 256) (hk : k ≤ 8) :
    Calls Try.prog 24 #[.int .i64 (x : Int), .slice A k c] w fun e w' => e = .returned (.int .u64 ((if x = 31 then 0 else if k = 0 then x else be f k : Nat) : Int)) ∧ w = w' := by
  by_cases h1 : x = 31
  · subst h1
    rw [if_pos rfl]
    clear hA hf
    go_enter Try.func24, Try.ntmps24
    go_wp2_with fail
    go_ret
    exact ⟨rfl, rfl⟩
  · have k31 : ((x : Int) == 31) = false := neI (by omega)
    rw [if_neg h1]
    by_cases h2 : k = 0
    · subst h2
      rw [if_pos rfl]
      clear h1 hA hf
      go_enter Try.func24, Try.ntmps24
      go_wp2_with fail
      go_ret
      exact ⟨rfl, rfl⟩
    · rw [if_neg h2]
      have k0 : ((k : Int) == 0) = false := neI (by omega)
      obtain ⟨bb, off, rfl, hbl, hcell⟩ := hA (by omega)
      have HC := Lib.hid hcell
      have HF := Lib.hid hf
      clear hcell hf h1 h2
      go_enter Try.func24, Try.ntmps24
      go_wp2_with fail
      go_loop [5, 19] (fun s5 s19 => ∃ i : Nat, i ≤ k ∧ s5 = .int .u64 ((be f i : Nat) : Int) ∧ s19 = .int .i64 (i : Int)) (fun _ s19 => k - (intOf s19).toNat)
      case atStart => exact ⟨0, Nat.zero_le _, rfl, rfl⟩
      case round =>
        obtain ⟨i, hi, rfl, rfl⟩ := hrel
        by_cases hlt : i < k
        · have q1 := HC.out i hlt
          have hb := HF.out i hlt
          have hv : be f (i + 1) < 18446744073709551616 := be_64 (fun j hj => HF.out _ (by omega)) (by omega)
          rw [be] at hv
          obtain ⟨o, ho⟩ : ∃ o, f i = o := ⟨_, rfl⟩
          obtain ⟨v, hvv⟩ : ∃ v, be f i = v := ⟨_, rfl⟩
          have hv2 : be f (i + 1) = v * 256 + o := by rw [be, hvv, ho]
          rw [hvv, ho] at hv
          rw [ho] at q1 hb
          rw [hvv]
          have hor := Lib.hid (show bits BinOp.or IntKind.u64 (IntKind.u64.wrap ((v : Int) * 256)) (o : Int) = ((v * 256 + o : Nat) : Int) by rw [IntKind.wrap_u64, show (v : Int) * 256 % 18446744073709551616 = (v : Int) * 256 by omega, hd_up hv hb])
          have HV2 := Lib.hid hv2
          clear hv2 hvv ho hv
          go_wp2_with fail
          go_round
          case rel => exact ⟨i + 1, hlt, by rw [HV2.out]; exact congrArg (Value.int .u64) hor.out, by go_num⟩
          case measure => simp [intOf]; omega
        · obtain rfl : i = k := by omega
          go_wp2_with fail
          exact bodyPost_ret (by simp [results, Try.results24, go_sem]) rfl ⟨rfl, by first | rfl | trivial⟩
/-- where a head errs, and how; 0, 0: it doesn't -/
def ckR (f : Nat → Nat) (m : Nat) : Nat × Nat := if (gtR f m).2.2.2.2 = 0 then (0, 0) else ((gtR f m).2.2.2.1, (gtR f m).2.2.2.2)
def ckV (r : Nat × Nat) : Value := .tuple #[.int .i64 (r.1 : Int), .int .i64 (r.2 : Int)]
set_option maxRecDepth 100000 in
set_option maxHeartbeats 4000000 in
theorem scheck_any (A : Option Addr) (m c : Nat) (f : Nat → Nat) (w : World) (hA : Rd w .u8 A m f) (hf : ∀ i, i < m → f i < 256) (hm : m ≤ 4611686018427387904) :
    Calls Try.prog 20 #[.slice A m c] w fun e w' => e = .returned (ckV (ckR f m)) ∧ w = w' := by
  by_cases h0 : m = 0
  · subst h0
    have HE := Lib.hid (show ckR f 0 = (0, 3) from rfl)
    clear hA hf
    go_enter Try.func20, Try.ntmps20
    go_wp2_with fail
    exact bodyPost_ret (by simp [results, Try.results20, go_sem]; rfl) rfl ⟨by rw [HE.out]; rfl, by first | rfl | trivial⟩
  · obtain ⟨bb, off, rfl, hbl, hcell⟩ := hA (by omega)
    have HC := Lib.hid hcell
    have q0 := hcell 0 (by omega)
    have hf0 := hf 0 (by omega)
    have hf1 := fun h => hf 1 h
    obtain ⟨x0, hx0⟩ : ∃ x, f 0 = x := ⟨_, rfl⟩
    have hm0 : ((m : Int) == 0) = false := neI (by omega)
    have gR : gtR f m = if (28 ≤ x0 % 32 ∧ x0 % 32 ≤ 30) ∨ (x0 % 32 = 31 ∧ (x0 / 32 < 2 ∨ x0 / 32 = 6)) then (0, 0, 0, 0, 4)
      else if x0 % 32 < 24 then (x0 / 32, x0 % 32, x0 % 32, 1, 0)
      else if x0 % 32 = 31 then (x0 / 32, 31, 0, 1, 0)
      else if x0 / 32 = 7 ∧ x0 % 32 = 24 ∧ 1 < m ∧ f 1 < 32 then (0, 0, 0, 1, 4)
      else if m < 2 ^ (x0 % 32 - 24) + 1 then (0, 0, 0, m, 3)
      else (x0 / 32, x0 % 32, be (fun i => f (1 + i)) (2 ^ (x0 % 32 - 24)), 2 ^ (x0 % 32 - 24) + 1, 0) := by
      unfold gtR
      rw [if_neg h0, hx0]
    rw [hx0] at q0 hf0
    have HS := Lib.hid (fun W => ssplit_any x0 hf0 W)
    obtain ⟨M, hM⟩ : ∃ M, x0 / 32 = M := ⟨_, rfl⟩
    obtain ⟨x, hx⟩ : ∃ M, x0 % 32 = M := ⟨_, rfl⟩
    have hM7 : M ≤ 7 := by omega
    have hx31 : x ≤ 31 := by omega
    rw [hM, hx] at gR HS
    have HB := Lib.hid (fun W => sbehind_any x hx31 W)
    have HO := Lib.hid (fun W => scanopen_any M hM7 W)
    have hbs := szI_cases hx31
    obtain ⟨b, hb⟩ : ∃ b, szI x = b := ⟨_, rfl⟩
    rw [hb] at HB hbs
    have hbs : (x ≤ 23 ∧ b = 0) ∨ (x = 31 ∧ b = 0) ∨ ((x = 24 ∧ b = 1) ∨ (x = 25 ∧ b = 2) ∨ (x = 26 ∧ b = 3) ∨ (x = 27 ∧ b = 4)) ∨ (28 ≤ x ∧ x ≤ 30 ∧ b = 5) := by omega
    have GR := Lib.hid gR
    have GC : Hid (ckR f m = if (gtR f m).2.2.2.2 = 0 then (0, 0) else ((gtR f m).2.2.2.1, (gtR f m).2.2.2.2)) := Lib.hid rfl
    obtain ⟨R, hR⟩ : ∃ R, gtR f m = R := ⟨_, rfl⟩
    rw [hR] at GR GC
    obtain ⟨Z, hZ⟩ : ∃ Z, ckR f m = Z := ⟨_, rfl⟩
    rw [hZ] at GC ⊢
    clear gR hR hx hM hx0 hcell hZ hb
    rw [Nat.add_zero] at q0
    have ends : ∀ p e : Nat, (R.2.2.2.2 = e ∧ (e = 0 → p = 0) ∧ (e ≠ 0 → R.2.2.2.1 = p)) → Z = (p, e) := fun p e h => by
      rw [GC.out, h.1]
      by_cases he : e = 0
      · rw [if_pos he, he, h.2.1 he]
      · rw [if_neg he, h.2.2 he]
    have EN := Lib.hid ends
    clear ends GC
    have h1m : ¬ ((m : Nat) : Int) ≤ 0 := by omega
    rcases hbs with ⟨h1, rfl⟩ | ⟨rfl, rfl⟩ | hbs | ⟨h1, h2, rfl⟩
    · -- a number of its own
      have k31 : ((x : Int) == 31) = false := neI (by omega)
      have HE := Lib.hid (EN.out 0 0 (by rw [GR.out, if_neg (by omega), if_pos (by omega)]; exact ⟨rfl, fun _ => rfl, fun h => absurd rfl h⟩))
      have HL := Lib.hid (fun W => slength_any 0 (by decide) W)
      rw [show szL 0 = 0 from rfl] at HL
      have hm7 : M = 7 ∨ ((M : Int) == 7) = false := by
        by_cases h : M = 7
        · exact .inl h
        · exact .inr (neI (by omega))
      clear GR hf hf1 hf0 EN
      go_enter Try.func20, Try.ntmps20
      rcases hm7 with rfl | k7
      all_goals
        go_wp2_with fail
        refine (HS.out _).mono ?_
        rintro e w' ⟨rfl, rfl⟩
        go_wp2_with fail
        refine (HB.out _).mono ?_
        rintro e w' ⟨rfl, rfl⟩
        go_wp2_with fail
        refine (HL.out _).mono ?_
        rintro e w' ⟨rfl, rfl⟩
        go_wp2_with fail
        exact bodyPost_ret (by simp [results, Try.results20, go_sem]; rfl) rfl ⟨by rw [HE.out]; rfl, by first | rfl | trivial⟩
    · -- open
      have HL := Lib.hid (fun W => slength_any 0 (by decide) W)
      rw [show szL 0 = 0 from rfl] at HL
      by_cases hO : 2 ≤ M ∧ M ≠ 6
      · rw [decide_eq_true hO] at HO
        have HE := Lib.hid (EN.out 0 0 (by rw [GR.out, if_neg (by omega), if_neg (by omega), if_pos rfl]; exact ⟨rfl, fun _ => rfl, fun h => absurd rfl h⟩))
        have hm7 : M = 7 ∨ ((M : Int) == 7) = false := by
          by_cases h : M = 7
          · exact .inl h
          · exact .inr (neI (by omega))
        clear GR hf hf1 hf0 EN hO
        go_enter Try.func20, Try.ntmps20
        rcases hm7 with rfl | k7
        all_goals
          go_wp2_with fail
          refine (HS.out _).mono ?_
          rintro e w' ⟨rfl, rfl⟩
          go_wp2_with fail
          refine (HB.out _).mono ?_
          rintro e w' ⟨rfl, rfl⟩
          go_wp2_with fail
          refine (HO.out _).mono ?_
          rintro e w' ⟨rfl, rfl⟩
          go_wp2_with fail
          refine (HL.out _).mono ?_
          rintro e w' ⟨rfl, rfl⟩
          go_wp2_with fail
          exact bodyPost_ret (by simp [results, Try.results20, go_sem]; rfl) rfl ⟨by rw [HE.out]; rfl, by first | rfl | trivial⟩
      · rw [decide_eq_false hO] at HO
        have HE := Lib.hid (EN.out 0 4 (by rw [GR.out, if_pos (by omega)]; exact ⟨rfl, fun h => (by cases h), fun _ => rfl⟩))
        clear GR hf hf1 hf0 EN hO
        go_enter Try.func20, Try.ntmps20
        go_wp2_with fail
        refine (HS.out _).mono ?_
        rintro e w' ⟨rfl, rfl⟩
        go_wp2_with fail
        refine (HB.out _).mono ?_
        rintro e w' ⟨rfl, rfl⟩
        go_wp2_with fail
        refine (HO.out _).mono ?_
        rintro e w' ⟨rfl, rfl⟩
        go_wp2_with fail
        exact bodyPost_ret (by simp [results, Try.results20, go_sem]; rfl) rfl ⟨by rw [HE.out]; rfl, by first | rfl | trivial⟩
    · -- bytes behind it
      have hx24 : 24 ≤ x ∧ x ≤ 27 ∧ 1 ≤ b ∧ b ≤ 4 ∧ (b = 1 ↔ x = 24) ∧ 2 ^ (x - 24) = szL b := by
        rcases hbs with ⟨rfl, rfl⟩ | ⟨rfl, rfl⟩ | ⟨rfl, rfl⟩ | ⟨rfl, rfl⟩ <;> decide
      obtain ⟨x24, x27, b1, b4, bx, hK⟩ := hx24
      have k31 : ((x : Int) == 31) = false := neI (by omega)
      have k5 : ((b : Int) == 5) = false := neI (by omega)
      have HL := Lib.hid (fun W => slength_any b (by omega) W)
      have G2 : Hid (R = if M = 7 ∧ x = 24 ∧ 1 < m ∧ f 1 < 32 then (0, 0, 0, 1, 4) else if m < szL b + 1 then (0, 0, 0, m, 3) else (M, x, be (fun i => f (1 + i)) (szL b), szL b + 1, 0)) := Lib.hid (by rw [GR.out, if_neg (by omega), if_neg (by omega), if_neg (by omega), hK])
      obtain ⟨K, hKK⟩ : ∃ K, szL b = K := ⟨_, rfl⟩
      rw [hKK] at G2 HL
      have hK8 : K ≤ 8 := by
        rw [← hKK, ← hK]
        rcases hbs with ⟨rfl, _⟩ | ⟨rfl, _⟩ | ⟨rfl, _⟩ | ⟨rfl, _⟩ <;> decide
      clear GR hKK hK hbs
      have rest : ¬ (M = 7 ∧ x = 24 ∧ 1 < m ∧ f 1 < 32) → (((m : Int) ≤ (K : Int) ∧ Z = (m, 3)) ∨ (¬ (m : Int) ≤ (K : Int) ∧ Z = (0, 0))) := fun h => by
        by_cases hK1 : m < K + 1
        · exact .inl ⟨by omega, EN.out m 3 (by rw [G2.out, if_neg h, if_pos hK1]; exact ⟨rfl, fun h => (by cases h), fun _ => rfl⟩)⟩
        · exact .inr ⟨by omega, EN.out 0 0 (by rw [G2.out, if_neg h, if_neg hK1]; exact ⟨rfl, fun _ => rfl, fun h => absurd rfl h⟩)⟩
      by_cases d1 : M = 7
      · subst d1
        by_cases d2 : b = 1
        · subst d2
          obtain rfl : x = 24 := bx.1 rfl
          by_cases d3 : (1 : Int) < (m : Int)
          · have q1 := HC.out 1 (by omega)
            have hf1' := hf1 (by omega)
            obtain ⟨x1, hx1⟩ : ∃ x, f 1 = x := ⟨_, rfl⟩
            rw [hx1] at q1 hf1' rest G2
            by_cases d4 : (x1 : Int) < 32
            · have HE := Lib.hid (EN.out 1 4 (by rw [G2.out, if_pos ⟨rfl, rfl, by omega, by omega⟩]; exact ⟨rfl, fun h => (by cases h), fun _ => rfl⟩))
              clear rest G2 hx1 hf hf1 EN bx
              go_enter Try.func20, Try.ntmps20
              go_wp2_with fail
              refine (HS.out _).mono ?_
              rintro e w' ⟨rfl, rfl⟩
              go_wp2_with fail
              refine (HB.out _).mono ?_
              rintro e w' ⟨rfl, rfl⟩
              go_wp2_with fail
              exact bodyPost_ret (by simp [results, Try.results20, go_sem]; rfl) rfl ⟨by rw [HE.out]; rfl, by first | rfl | trivial⟩
            · have hr := rest (by omega)
              clear rest G2 hx1 hf hf1 EN bx
              go_enter Try.func20, Try.ntmps20
              rcases hr with ⟨hr, hZ⟩ | ⟨hr, hZ⟩
              all_goals
                have HE := Lib.hid hZ
                clear hZ
                go_wp2_with fail
                refine (HS.out _).mono ?_
                rintro e w' ⟨rfl, rfl⟩
                go_wp2_with fail
                refine (HB.out _).mono ?_
                rintro e w' ⟨rfl, rfl⟩
                go_wp2_with fail
                refine (HL.out _).mono ?_
                rintro e w' ⟨rfl, rfl⟩
                go_wp2_with fail
                exact bodyPost_ret (by simp [results, Try.results20, go_sem]; rfl) rfl ⟨by rw [HE.out]; rfl, by first | rfl | trivial⟩
          · have hr := rest (by omega)
            clear rest G2 hf hf1 EN bx
            go_enter Try.func20, Try.ntmps20
            rcases hr with ⟨hr, hZ⟩ | ⟨hr, hZ⟩
            all_goals
              have HE := Lib.hid hZ
              clear hZ
              go_wp2_with fail
              refine (HS.out _).mono ?_
              rintro e w' ⟨rfl, rfl⟩
              go_wp2_with fail
              refine (HB.out _).mono ?_
              rintro e w' ⟨rfl, rfl⟩
              go_wp2_with fail
              refine (HL.out _).mono ?_
              rintro e w' ⟨rfl, rfl⟩
              go_wp2_with fail
              exact bodyPost_ret (by simp [results, Try.results20, go_sem]; rfl) rfl ⟨by rw [HE.out]; rfl, by first | rfl | trivial⟩
        · have kb : ((b : Int) == 1) = false := neI (by omega)
          have hr := rest (by omega)
          clear rest G2 hf hf1 EN bx d2
          go_enter Try.func20, Try.ntmps20
          rcases hr with ⟨hr, hZ⟩ | ⟨hr, hZ⟩
          all_goals
            have HE := Lib.hid hZ
            clear hZ
            go_wp2_with fail
            refine (HS.out _).mono ?_
            rintro e w' ⟨rfl, rfl⟩
            go_wp2_with fail
            refine (HB.out _).mono ?_
            rintro e w' ⟨rfl, rfl⟩
            go_wp2_with fail
            refine (HL.out _).mono ?_
            rintro e w' ⟨rfl, rfl⟩
            go_wp2_with fail
            exact bodyPost_ret (by simp [results, Try.results20, go_sem]; rfl) rfl ⟨by rw [HE.out]; rfl, by first | rfl | trivial⟩
      · have k7 : ((M : Int) == 7) = false := neI (by omega)
        have hr := rest (by omega)
        clear rest G2 hf hf1 EN bx d1
        go_enter Try.func20, Try.ntmps20
        rcases hr with ⟨hr, hZ⟩ | ⟨hr, hZ⟩
        all_goals
          have HE := Lib.hid hZ
          clear hZ
          go_wp2_with fail
          refine (HS.out _).mono ?_
          rintro e w' ⟨rfl, rfl⟩
          go_wp2_with fail
          refine (HB.out _).mono ?_
          rintro e w' ⟨rfl, rfl⟩
          go_wp2_with fail
          refine (HL.out _).mono ?_
          rintro e w' ⟨rfl, rfl⟩
          go_wp2_with fail
          exact bodyPost_ret (by simp [results, Try.results20, go_sem]; rfl) rfl ⟨by rw [HE.out]; rfl, by first | rfl | trivial⟩
    · -- none
      have HE := Lib.hid (EN.out 0 4 (by rw [GR.out, if_pos (by omega)]; exact ⟨rfl, fun h => (by cases h), fun _ => rfl⟩))
      clear GR hf hf1 hf0 EN
      go_enter Try.func20, Try.ntmps20
      go_wp2_with fail
      refine (HS.out _).mono ?_
      rintro e w' ⟨rfl, rfl⟩
      go_wp2_with fail
      refine (HB.out _).mono ?_
      rintro e w' ⟨rfl, rfl⟩
      go_wp2_with fail
      exact bodyPost_ret (by simp [results, Try.results20, go_sem]; rfl) rfl ⟨by rw [HE.out]; rfl, by first | rfl | trivial⟩
end Go.Proofs.Ytmmaapmmjdjgaaa.nn
namespace Go.Proofs.Ytmmaapmmjdjgaaa.nn
open Go.RowKit

theorem gtV_eq {R : Nat × Nat × Nat × Nat × Nat} {a b c d e : Nat} (h : R = (a, b, c, d, e)) : Ending.returned (.tuple #[.int .i64 (a : Int), .int .i64 (b : Int), .int .u64 (c : Int), .int .i64 (d : Int), .int .i64 (e : Int)]) = .returned (gtV R) := by
  subst h
  rfl
set_option maxRecDepth 100000 in
set_option maxHeartbeats 2000000 in
theorem get_no (A : Option Addr) (m c : Nat) (f : Nat → Nat) (w : World) (hA : Rd w .u8 A m f) (hf : ∀ i, i < m → f i < 256) (hm : m ≤ 4611686018427387904)
    (p e : Nat) (he : e ≠ 0) (_ : e < 5) (_ : p ≤ m) (hR : gtR f m = (0, 0, 0, p, e)) :
    Calls Try.prog 13 #[.slice A m c] w fun e w' => e = .returned (gtV (gtR f m)) ∧ Below w.heap.size w w' := by
  have HK := Lib.hid (scheck_any A m c f w hA hf hm)
  have HB0 := Lib.hid (Below.refl w.heap.size w)
  have HE := Lib.hid (gtV_eq hR)
  have hck : ckR f m = (p, e) := by unfold ckR; rw [hR]; exact if_neg he
  rw [hck] at HK
  have HKK : Hid (Calls Try.prog 20 #[.slice A m c] w fun r w' => r = .returned (.tuple #[.int .i64 (p : Int), .int .i64 (e : Int)]) ∧ w = w') := HK
  have ke : ((e : Int) == 0) = false := neI (by omega)
  obtain ⟨R, hRR⟩ : ∃ R, gtR f m = R := ⟨_, rfl⟩
  rw [hRR] at HE ⊢
  obtain ⟨E, hE⟩ : ∃ E, Ending.returned (gtV R) = E := ⟨_, rfl⟩
  rw [hE] at HE ⊢
  clear hRR hE hck hR hf hA HK he
  go_enter Try.func13, Try.ntmps13
  go_wp2_with fail
  refine HKK.out.mono ?_
  rintro r w' ⟨rfl, rfl⟩
  go_wp2_with fail
  exact bodyPost_ret (by simp [results, Try.results13, go_sem]) rfl ⟨HE.out, HB0.out⟩
set_option maxRecDepth 100000 in
set_option maxHeartbeats 4000000 in
theorem get_yes (bb off : Nat) (m c : Nat) (w : World) (M x x0 b n K : Nat) (E : Ending) (A' : Option Addr) (hA' : (if c = 1 then some (⟨bb, off, none⟩ : Addr) else some ⟨bb, off + 1, none⟩) = A')
    (HKK : Hid (Calls Try.prog 20 #[.slice (some ⟨bb, off, none⟩) m c] w fun e w' => e = .returned (.tuple #[.int .i64 0, .int .i64 0]) ∧ w = w'))
    (q0 : w.cell? ⟨bb, off, none⟩ = some (.int .u8 (x0 : Int))) (h0 : 0 < m) (hmc : m ≤ c) (_ : x0 < 256)
    (HS : Hid (∀ W, Calls Try.prog 21 #[.int .u8 (x0 : Int)] W fun e w' => e = .returned (.tuple #[.int .i64 (M : Int), .int .i64 (x : Int)]) ∧ W = w'))
    (HB : Hid (∀ W, Calls Try.prog 22 #[.int .i64 (x : Int)] W fun e w' => e = .returned (.int .i64 (b : Int)) ∧ W = w'))
    (HL : Hid (∀ W, Calls Try.prog 23 #[.int .i64 (b : Int)] W fun e w' => e = .returned (.int .i64 (K : Int)) ∧ W = w'))
    (HN : Hid (∀ c' : Nat, Calls Try.prog 24 #[.int .i64 (x : Int), .slice A' K c'] w fun e w' => e = .returned (.int .u64 (n : Int)) ∧ w = w'))
    (hK8 : K ≤ 8) (hKm : K + 1 ≤ m)
    (HE : Hid (Ending.returned (.tuple #[.int .i64 (M : Int), .int .i64 (x : Int), .int .u64 (n : Int), .int .i64 ((K + 1 : Nat) : Int), .int .i64 0]) = E)) :
    Calls Try.prog 13 #[.slice (some ⟨bb, off, none⟩) m c] w fun e w' => e = E ∧ Below w.heap.size w w' := by
  have HB0 := Lib.hid (Below.refl w.heap.size w)
  obtain ⟨L, hL⟩ : ∃ L, K + 1 = L := ⟨_, rfl⟩
  have eK : (1 : Int) + (K : Int) = (L : Int) := by omega
  have eK2 : L - 1 = K := by omega
  rw [hL] at HE
  have i1 : (L : Int) ≤ (c : Int) := by omega
  have i2 : (1 : Int) ≤ (L : Int) := by omega
  have i3 : L ≤ c := by omega
  have i4 : 1 ≤ L := by omega
  have hs : ∀ W, (sizeOf (Try.prog.elem 23)).run Try.prog W = .ok 1 W := fun W => by kernel_rfl
  have hsl : ∀ W, (Instr.slice 23 (.slice (some ⟨bb, off, none⟩) m c) (some (.int .i64 1)) (some (.int .i64 (L : Int))) none).run Try.prog W = .ok (.slice A' K (c - 1)) W := fun W => by
    rw [run_slice_lh (w := W) (ht := by kernel_rfl) (h0 := by decide) (h1 := i2) (h2 := i1), hs]
    show Result.ok (sliced _ (1 : Int).toNat (L : Int).toNat c 1) W = _
    rw [show (1 : Int).toNat = 1 from rfl, Int.toNat_natCast, ← hA', ← eK2]
    unfold sliced
    by_cases h : c = 1
    · rw [if_pos h, if_pos h]
    · rw [if_neg h, if_neg h]; rfl
  clear hs hA' i3 i4 eK2
  go_enter Try.func13, Try.ntmps13
  go_wp2_with fail
  refine HKK.out.mono ?_
  rintro e w' ⟨rfl, rfl⟩
  go_wp2_with fail
  refine (HS.out _).mono ?_
  rintro e w' ⟨rfl, rfl⟩
  go_wp2_with fail
  refine (HB.out _).mono ?_
  rintro e w' ⟨rfl, rfl⟩
  go_wp2_with fail
  refine (HL.out _).mono ?_
  rintro e w' ⟨rfl, rfl⟩
  go_wp2_with fail
  refine (HN.out _).mono ?_
  rintro e w' ⟨rfl, rfl⟩
  go_wp2_with fail
  exact bodyPost_ret (by simp [results, Try.results13, go_sem]) rfl ⟨HE.out, HB0.out⟩
set_option maxRecDepth 100000 in
theorem get_any (A : Option Addr) (m c : Nat) (f : Nat → Nat) (w : World) (hA : Rd w .u8 A m f) (hf : ∀ i, i < m → f i < 256) (hm : m ≤ 4611686018427387904) (hmc : m ≤ c) :
    Calls Try.prog 13 #[.slice A m c] w (GtAns f m w) := by
  have HK := Lib.hid (scheck_any A m c f w hA hf hm)
  obtain ⟨M, x, K, hM, hx, hK, hcs⟩ := gt_cases f m
  unfold GtAns
  have hx31 : x ≤ 31 := by omega
  have no := get_no A m c f w hA hf hm
  have yes : ∀ b n K : Nat, 0 < m → szI x = b → b ≤ 4 → szL b = K → K ≤ 8 → K + 1 ≤ m → gtR f m = (M, x, n, K + 1, 0) → (if x = 31 then 0 else if K = 0 then x else be (fun i => f (1 + i)) K) = n → Calls Try.prog 13 #[.slice A m c] w fun e w' => e = .returned (gtV (gtR f m)) ∧ Below w.heap.size w w' := fun b n K h0 hb b4 hK' hK8 hKm hR hn => by
    obtain ⟨bb, off, rfl, hbl, hcell⟩ := hA h0
    have q0 := hcell 0 h0
    have hf0 := hf 0 h0
    rw [Nat.add_zero] at q0
    have hck : ckR f m = (0, 0) := by unfold ckR; rw [hR]; rfl
    rw [hck] at HK
    refine get_yes bb off m c w M x (f 0) b n K _ _ rfl HK q0 h0 hmc hf0 (Lib.hid fun W => by rw [← hM, ← hx]; exact ssplit_any (f 0) hf0 W) (Lib.hid fun W => by rw [← hb]; exact sbehind_any x hx31 W) (Lib.hid fun W => by rw [← hK']; exact slength_any b (by omega) W) (Lib.hid fun c' => ?_) hK8 hKm (Lib.hid (gtV_eq hR))
    rw [← hn]
    refine snumber_any x hx31 _ K c' (fun i => f (1 + i)) w (fun hk => ?_) (fun i hi => hf _ (by omega)) hK8
    rw [if_neg (by omega)]
    exact ⟨bb, off + 1, rfl, hbl, fun i hi => by rw [Nat.add_assoc off 1 i]; exact hcell (1 + i) (by omega)⟩
  rcases hcs with h1 | h1 | h1 | h1 | h1 | h1 | h1
  · exact no 0 3 (by decide) (by decide) (Nat.zero_le _) h1.2
  · exact no 0 4 (by decide) (by decide) (Nat.zero_le _) h1.2.2
  · exact yes 0 x 0 h1.1 (by have := szI_cases hx31; omega) (by decide) rfl (by decide) h1.1 h1.2.2 (by rw [if_neg (by omega), if_pos rfl])
  · exact yes 0 0 0 h1.1 (by have := szI_cases hx31; omega) (by decide) rfl (by decide) h1.1 (by rw [h1.2.1]; exact h1.2.2) (by rw [if_pos h1.2.1])
  · exact no 1 4 (by decide) (by decide) (by omega) h1.2.2.2.2
  · exact no m 3 (by decide) (by decide) (Nat.le_refl _) h1.2.2.2
  · have h2 := two_k h1.2.1
    rw [hK] at h2
    have h3 := szI_cases hx31
    exact yes (szI x) _ K (by omega) rfl (by omega) (by
      have h4 : (szI x = 1 ∧ K = 1) ∨ (szI x = 2 ∧ K = 2) ∨ (szI x = 3 ∧ K = 4) ∨ (szI x = 4 ∧ K = 8) := by omega
      rcases h4 with ⟨e, rfl⟩ | ⟨e, rfl⟩ | ⟨e, rfl⟩ | ⟨e, rfl⟩ <;> rw [e] <;> rfl) (by omega) h1.1 h1.2.2.2 (by rw [if_neg (by omega), if_neg (by omega)])
end Go.Proofs.Ytmmaapmmjdjgaaa.nn
namespace Go.Proofs.Ytmmaapmmjdjgaaa.nn
open Go.RowKit

/-- the text of n bytes f -/
def pc (f : Nat → Nat) (n : Nat) : ByteArray := strOfNums ((List.range n).map fun i => (f i : Int))
/-- a text made of a slice of bytes, nil or not -/
theorem conv_row (A : Option Addr) (n c : Nat) (f : Nat → Nat) (w : World) (h : Rd w .u8 A n f) :
    (convert 23 9 (.slice A n c)).run Try.prog w = .ok (.string (pc f n)) w := by
  by_cases h0 : 0 < n
  · obtain ⟨b, off, rfl, _, hc⟩ := h h0
    exact run_convert_bytes_arg w 23 5 Try.underlying23 Try.underlying5 b off n c _ (by simp) (fun i hi => by
      rw [hc i hi]
      simp [hi]) 9 Try.underlying9
  · obtain rfl : n = 0 := by omega
    have e : pc f 0 = ByteArray.empty := rfl
    rw [e]
    cases A with
    | none => exact run_convert_bytes_nil w 23 5 Try.underlying23 Try.underlying5 0 c 9 Try.underlying9
    | some a =>
      rw [run_convert_bytes_string w 23 9 5 (some a) 0 c Try.underlying23 Try.underlying5 Try.underlying9]
      exact run_bytesToString w a 0 c [] (run_loadCells_list (P := Try.prog) w a [] (fun j v hv => by simp at hv))
end Go.Proofs.Ytmmaapmmjdjgaaa.nn
namespace Go.Proofs.Ytmmaapmmjdjgaaa.nn
open Go.RowKit

/-- how many bytes Wide answers, and its error -/
def hdL (M : Int) (n : Nat) (k : Int) : Nat := if hdOk M n k then k.toNat + 1 else 0
def hdE (M : Int) (n : Nat) (k : Int) : Nat := if hdOk M n k then 0 else 1
theorem HdAns.one {M : Int} {n : Nat} {k : Int} {w w' : World} {e : Ending} (h : HdAns M n k w e w') : ∃ A c, e = .returned (.tuple #[.slice A (hdL M n k) c, .int .i64 (hdE M n k : Int)]) ∧ Rd w' .u8 A (hdL M n k) (hdB M.toNat n k.toNat) ∧ hdL M n k ≤ c ∧ c ≤ maxLen ∧ Below w.heap.size w w' := by
  rcases h with ⟨⟨h, A, c, rfl, h2, h3, h4⟩ | ⟨h, rfl⟩, hb⟩
  · refine ⟨A, c, ?_⟩
    unfold hdL hdE
    rw [h]
    exact ⟨rfl, h2, h3, h4, hb⟩
  · refine ⟨none, 0, ?_⟩
    unfold hdL hdE
    rw [h]
    exact ⟨rfl, Rd.none_, Nat.le_refl _, by unfold maxLen; omega, hb⟩
theorem hd_five : hdOk 0 5 (hdS 5) = true := by decide
set_option maxRecDepth 100000 in
theorem awake10 (w : World) : Calls Try.prog 12 #[] w fun e w' => e = .returned (.bool true) ∧ Below w.heap.size w w' := by
  have HC := Lib.hid (put_any 0 5 w (by decide) (by decide) (by decide))
  go_enter Try.func12, Try.ntmps12
  go_wp2_with fail
  refine HC.out.mono ?_
  rintro e w' ⟨⟨_, A, c, rfl, hr, _⟩ | ⟨h, _⟩, hb⟩
  · obtain ⟨b, off, rfl, _, hc⟩ := hr (by decide)
    have q0 := hc 0 (by decide)
    rw [show hdB (0 : Int).toNat 5 ((hdS 5 : Nat) : Int).toNat 0 = 5 by decide, Nat.add_zero] at q0
    have e1 : ((hdS 5 : Nat) : Int).toNat + 1 = 1 := by decide
    rw [e1]
    have HB := Lib.hid hb
    clear hb hc hr e1
    go_wp2_with fail
    go_ret
    exact ⟨rfl, HB.out⟩
  · rw [hd_five] at h
    cases h
set_option maxRecDepth 100000 in
set_option maxHeartbeats 1000000 in
theorem hputs_any (M : Int) (hM1 : -9223372036854775808 ≤ M) (hM2 : M ≤ 9223372036854775807) (n : Nat) (hn : n < 18446744073709551616) (k : Int) (hk1 : -9223372036854775808 ≤ k) (hk2 : k ≤ 9223372036854775807) (w : World) :
    Calls Try.prog 3 #[.int .i64 M, .int .u64 (n : Int), .int .i64 k] w fun e w' => e = .returned (.bool true) ∧ Below w.heap.size w w' := by
  have H1 := Lib.hid (fun W => put_any M n W hn hM1 hM2)
  have H2 := Lib.hid (fun W => hput_any M n W hn hM1 hM2)
  have H3 := Lib.hid (fun W => wide_any M n k W hn hM1 hM2 hk1 hk2)
  have H4 := Lib.hid (fun W => hwide_any M n k W hn hM1 hM2 hk1 hk2)
  have HA := Lib.hid (fun W => awake10 W)
  clear hn hM1 hM2 hk1 hk2
  go_enter Try.func3, Try.ntmps3
  go_wp2_with fail
  refine (H1.out _).mono ?_
  rintro e w1 h
  obtain ⟨A1, c1, rfl, r1, _, _, b1⟩ := h.one
  have HH1 := Lib.hid (And.intro r1 b1)
  clear h r1 b1
  go_wp2_with fail
  refine (H2.out _).mono ?_
  rintro e w2 h
  obtain ⟨A2, c2, rfl, r2, _, _, b2⟩ := h.one
  have HH2 := Lib.hid (And.intro (HH1.out.1.below b2) (And.intro r2 (HH1.out.2.trans (b2.mono HH1.out.2.size))))
  clear h r2 b2 HH1
  go_wp2_with fail
  refine (H3.out _).mono ?_
  rintro e w3 h
  obtain ⟨A3, c3, rfl, r3, _, _, b3⟩ := h.one
  have HH3 := Lib.hid (And.intro (HH2.out.1.below b3) (And.intro (HH2.out.2.1.below b3) (And.intro r3 (HH2.out.2.2.trans (b3.mono HH2.out.2.2.size)))))
  clear h r3 b3 HH2
  go_wp2_with fail
  refine (H4.out _).mono ?_
  rintro e w4 h
  obtain ⟨A4, c4, rfl, r4, _, _, b4⟩ := h.one
  have k1 := conv_row A1 _ c1 _ w4 (HH3.out.1.below b4)
  have k2 := conv_row A2 _ c2 _ w4 (HH3.out.2.1.below b4)
  have k3 := conv_row A3 _ c3 _ w4 (HH3.out.2.2.1.below b4)
  have k4 := conv_row A4 _ c4 _ w4 r4
  have B4 := Lib.hid (HH3.out.2.2.2.trans (b4.mono HH3.out.2.2.2.size))
  clear h r4 b4 HH3
  obtain ⟨T1, hT1⟩ : ∃ T, pc (hdB M.toNat n ((hdS n : Nat) : Int).toNat) (hdL M n (hdS n)) = T := ⟨_, rfl⟩
  obtain ⟨T2, hT2⟩ : ∃ T, pc (hdB M.toNat n k.toNat) (hdL M n k) = T := ⟨_, rfl⟩
  rw [hT1] at k1 k2
  rw [hT2] at k3 k4
  clear hT1 hT2
  go_wp2_with fail
  refine (HA.out _).mono ?_
  rintro e w5 ⟨rfl, b5⟩
  have B5 := Lib.hid (B4.out.trans (b5.mono B4.out.size))
  clear b5
  go_wp2_with fail
  go_ret
  exact ⟨rfl, B5.out⟩
theorem hdOk_fewer {M : Int} {n k : Nat} (h : k < hdS n) : hdOk M n (k : Int) = false := by
  unfold hdOk
  rw [decide_eq_false (by omega), Bool.and_false]
set_option maxRecDepth 100000 in
set_option maxHeartbeats 1000000 in
theorem hleast_any (M : Int) (hM1 : -9223372036854775808 ≤ M) (hM2 : M ≤ 9223372036854775807) (n : Nat) (hn : n < 18446744073709551616) (w : World) :
    Calls Try.prog 6 #[.int .i64 M, .int .u64 (n : Int)] w fun e w' => e = .returned (.bool true) ∧ Below w.heap.size w w' := by
  have H1 := Lib.hid (fun W => put_any M n W hn hM1 hM2)
  have hs8 : hdS n ≤ 8 := by have := hdS_cases n; omega
  have H3 := Lib.hid (fun W (k : Nat) (hk : k ≤ 8) => wide_any M n (k : Int) W hn hM1 hM2 (by omega) (by omega))
  have HA := Lib.hid (fun W => awake10 W)
  have HK := Lib.hid (fun k h => hdOk_fewer (M := M) (n := n) (k := k) h)
  unfold HdAns at H1 H3
  obtain ⟨q, hq⟩ : ∃ q, hdS n = q := ⟨_, rfl⟩
  rw [hq] at H1 HK hs8
  clear hn hM1 hM2 hq
  go_enter Try.func6, Try.ntmps6
  go_wp2_with fail
  refine (H1.out _).mono ?_
  rintro e w1 ⟨⟨h1, A1, c1, rfl, r1, _, _⟩ | ⟨h1, rfl⟩, b1⟩
  · have HH1 := Lib.hid (And.intro h1 (And.intro r1 b1))
    have e1 : ((q : Nat) : Int).toNat + 1 = q + 1 := by omega
    rw [e1]
    have e2 : ((q + 1 : Nat) : Int) - 1 = (q : Int) := by omega
    have H3q := Lib.hid (fun W => H3.out W q hs8)
    clear h1 r1 b1 e1
    go_wp2_with fail
    refine (H3q.out _).mono ?_
    rintro e w2 ⟨⟨h2, A2, c2, rfl, r2, _, _⟩ | ⟨h2, rfl⟩, b2⟩
    · have k1 := conv_row A1 _ c1 _ w2 (HH1.out.2.1.below b2)
      have k2 := conv_row A2 _ c2 _ w2 r2
      have B2 := Lib.hid (HH1.out.2.2.trans (b2.mono HH1.out.2.2.size))
      rw [Int.toNat_natCast] at k1 k2 ⊢
      obtain ⟨T, hT⟩ : ∃ T, pc (hdB M.toNat n q) (q + 1) = T := ⟨_, rfl⟩
      rw [hT] at k1 k2
      clear hT h2 r2 b2 HH1
      go_wp2_with fail
      clear k1 k2
      go_loopw [9] (fun s9 wr => ∃ k : Nat, k ≤ q ∧ s9 = .int .i64 (k : Int) ∧ Hid (Below w.heap.size w wr)) (fun s9 _ => q - (intOf s9).toNat)
      case atStart => exact ⟨0, Nat.zero_le _, rfl, B2⟩
      case round =>
        obtain ⟨k, hk, rfl, HB⟩ := hrel
        by_cases hlt : k < q
        · have H3k := Lib.hid (fun W => H3.out W k (by omega))
          go_wp2_with fail
          refine (H3k.out _).mono ?_
          rintro e w3 ⟨⟨h3, _⟩ | ⟨_, rfl⟩, b3⟩
          · rw [HK.out k hlt] at h3
            cases h3
          · have B3 := Lib.hid (HB.out.trans (b3.mono HB.out.size))
            clear b3
            go_wp2_with fail
            go_roundw
            case rel => exact ⟨k + 1, hlt, by go_num, B3⟩
            case measure => simp [intOf]; omega
        · obtain rfl : k = q := by omega
          go_wp2_with fail
          refine (HA.out _).mono ?_
          rintro e w5 ⟨rfl, b5⟩
          have B5 := Lib.hid (HB.out.trans (b5.mono HB.out.size))
          clear b5
          go_wp2_with fail
          exact bodyPost_ret (by simp [results, Try.results6, go_sem]) rfl ⟨rfl, B5.out⟩
    · rw [HH1.out.1] at h2
      cases h2
  · have B1 := Lib.hid b1
    clear b1 h1
    go_wp2_with fail
    refine (HA.out _).mono ?_
    rintro e w5 ⟨rfl, b5⟩
    have B5 := Lib.hid (B1.out.trans (b5.mono B1.out.size))
    clear b5
    go_wp2_with fail
    exact bodyPost_ret (by simp [results, Try.results6, go_sem]) rfl ⟨rfl, B5.out⟩
set_option maxRecDepth 100000 in
set_option maxHeartbeats 1000000 in
theorem hgets_any (A : Option Addr) (m c : Nat) (f : Nat → Nat) (hf : ∀ i, i < m → f i < 256) (hm : m ≤ 140737488351232) (_ : m ≤ c) (_ : (A = none ∧ m = 0 ∧ c = 0) ∨ ∃ bb off, A = some ⟨bb, off, none⟩) (w : World) (hA : Rd w .u8 A m f) :
    Calls Try.prog 4 #[.slice A m c] w fun e w' => e = .returned (.bool true) ∧ Below w.heap.size w w' := by
  obtain ⟨i0, hi, hz0, hz1, hz2⟩ := info_parts info_byte10
  have HR := Lib.hid hA
  have H1 := Lib.hid (fun W A c (h : Rd W .u8 A m f) (hc : m ≤ c) => get_any A m c f W h hf (by omega) hc)
  have H2 := Lib.hid (fun W A c (h : Rd W .u8 A m f) => hget_any A m c f W h hf (by omega))
  have HA := Lib.hid (fun W => awake10 W)
  unfold GtAns gtV at H1 H2
  obtain ⟨⟨r1, r2, r3, r4, r5⟩, hr⟩ : ∃ r, gtR f m = r := ⟨_, rfl⟩
  rw [hr] at H1 H2
  clear hA hf hr
  go_enter Try.func4, Try.ntmps4
  go_wp2_with (at_builtin; refine wpList_app rfl (.tmp 14) (.tmp 15) _ rfl w.heap.size 5 i0 _ 1 Try.underlying23 hi hz0 hz1 hz2 rfl .u8 _ 0 f rfl (World.ownsRow_lit w #[] 0 (Nat.le_refl _) (by simp [maxLen]) rfl) A m c f rfl (HR.out.alloc _) (by unfold maxLen; omega) (by omega) (by simp) ?_; intro v3 w3 hown3 hb3)
  rw [show jn f 0 f = f from jn_zero f f, show 0 + m = m from Nat.zero_add m] at hown3
  obtain ⟨A4, c4, rfl, k1, k2, hr4⟩ := Rd.of_own hown3
  have B3 := Lib.hid (((Below.refl w.heap.size w).alloc (Nat.le_refl _) _).trans hb3)
  have H1' := Lib.hid (H1.out w3 A4 c4 hr4 k1)
  clear hown3 hb3 hr4 k1 k2
  go_wp2_with fail
  refine H1'.out.mono ?_
  rintro e w4 ⟨rfl, b4⟩
  have B4 := Lib.hid (B3.out.trans (b4.mono B3.out.size))
  have H2' := Lib.hid (H2.out w4 A c (HR.out.below B4.out))
  clear b4
  go_wp2_with fail
  refine H2'.out.mono ?_
  rintro e w5 ⟨rfl, b5⟩
  have B5 := Lib.hid (B4.out.trans (b5.mono B4.out.size))
  clear b5
  go_wp2_with fail
  refine (HA.out _).mono ?_
  rintro e w6 ⟨rfl, b6⟩
  have B6 := Lib.hid (B5.out.trans (b6.mono B5.out.size))
  clear b6
  go_wp2_with fail
  go_ret
  exact ⟨rfl, B6.out⟩
end Go.Proofs.Ytmmaapmmjdjgaaa.nn
namespace Go.Proofs.Ytmmaapmmjdjgaaa.nn
open Go.ChangeShapes Go.WideShapes Go.ChangeAt Go.RowKit

theorem Try.own : ownKnob Try.prog.godebug = none := by kernel_rfl
theorem Try.laidOut : laidOutB Try.prog = true := by kernel_rfl
theorem wf_i64 {n : Int} (h : (Lit.int .i64 n).wf = true) : -9223372036854775808 ≤ n ∧ n ≤ 9223372036854775807 := by
  have h1 : IntKind.i64.min = -9223372036854775808 := rfl
  have h2 : IntKind.i64.max = 9223372036854775807 := rfl
  simp only [Lit.wf, Bool.and_eq_true, decide_eq_true_eq] at h
  omega
theorem wf_u8 {n : Int} (h : (Lit.int .u8 n).wf = true) : 0 ≤ n ∧ n < ((256 : Nat) : Int) := by
  have h1 : IntKind.u8.min = 0 := rfl
  have h2 : IntKind.u8.max = 255 := rfl
  simp only [Lit.wf, Bool.and_eq_true, decide_eq_true_eq] at h
  omega
theorem wf_u64 {n : Int} (h : (Lit.int .u64 n).wf = true) : 0 ≤ n ∧ n < ((18446744073709551616 : Nat) : Int) := by
  have h1 : IntKind.u64.min = 0 := rfl
  have h2 : IntKind.u64.max = 18446744073709551615 := rfl
  simp only [Lit.wf, Bool.and_eq_true, decide_eq_true_eq] at h
  omega
end Go.Proofs.Ytmmaapmmjdjgaaa.nn
namespace Go.Proofs.Ytmmaapmmjdjgaaa.nn
open Go.ChangeShapes Go.WideShapes Go.ChangeAt Go.RowKit

theorem Try.cells8 : Try.prog.cellsOf 5 = 1 := by kernel_rfl
theorem Try.bytes8 : Try.prog.bytesOf 5 = 1 := by kernel_rfl
set_option maxRecDepth 100000 in
/-- a slice that may be: its address stands at a block's own cells -/
theorem slice_spot {W : World} {base : Nat} {t e : TypeId} {a : Addr} {n c : Nat} (ht : Try.prog.underlying t = some (.slice e)) (h : Value.okWide Try.prog W .any base t (.slice (some a) n c)) : a.spot = none := by
  simp only [Value.okWide, ht, Cell.okWide, Cell.ok, World.has] at h
  exact h.2.2.2.1
theorem getD_mem8 {zs : List Int} {i : Nat} (h : i < zs.length) : zs.getD i 0 ∈ zs := by
  have : zs.getD i 0 = zs[i] := by simp [List.getD, h]
  rw [this]
  exact List.getElem_mem h
theorem addr_add8 (b off i : Nat) : (⟨b, off, none⟩ : Addr).add i = ⟨b, off + i, none⟩ := by unfold Addr.add; split <;> simp_all
/-- what a reading of a slice holds: so many bytes, so many with the spare ones -/
def Held8 {H : Type} (d : DataW H) (n c : Nat) : Prop := (n = 0 ∧ c = 0) ∨ ∃ e s, d = .slice e s ∧ e.length = n ∧ e.length + s.length = c
section
variable {H : Type} {enc : TypeId × Value → H} {W : World}
set_option maxRecDepth 100000 in
/-- an argument of type []uint8 -/
theorem open_bytes {base : Nat} {v : Value} {d : DataW H} {p : List MemPlace} (hok : Value.okWide Try.prog W .any base 23 v) (h : DataW.Trod enc Try.prog W 0 (fun _ => true) true 23 v d p) (hlt : ∀ x ∈ p, x.block < W.heap.size) :
    ∃ A n c f, v = .slice A n c ∧ Rd W .u8 A n f ∧ (∀ i, i < n → f i < 256) ∧ n ≤ c ∧ ((A = none ∧ n = 0 ∧ c = 0) ∨ ∃ bb off, A = some ⟨bb, off, none⟩) ∧ Held8 d n c := by
  obtain ⟨a0, len, cap, rfl⟩ := okWide_slice Try.underlying23 hok
  obtain ⟨fuel, hf⟩ := h
  rcases open_ints Try.underlying23 Try.underlying5 Try.cells8 hf with ⟨hcs, hx⟩ | ⟨a, len', cap', zs, hcs, _, hl, hm, hz, hx, hcell, hwz⟩
  · simp [Value.cells] at hcs
    obtain ⟨rfl, rfl, rfl⟩ := hcs
    exact ⟨none, 0, 0, fun _ => 0, rfl, Rd.none_, fun _ h => absurd h (by omega), Nat.le_refl _, .inl ⟨rfl, rfl, rfl⟩, .inl ⟨rfl, rfl⟩⟩
  · simp [Value.cells] at hcs
    obtain ⟨rfl, rfl, rfl⟩ := hcs
    simp only [Prod.mk.injEq] at hx
    obtain ⟨rfl, rfl⟩ := hx
    simp only [if_true] at hz
    obtain ⟨b, off, spot⟩ := a
    obtain rfl : spot = none := slice_spot Try.underlying23 hok
    refine ⟨some ⟨b, off, none⟩, len, cap, fun i => (zs.getD i 0).toNat, rfl, fun h0 => ⟨b, off, rfl, hlt (.cell b off) (MemPlace.mem_row.2 ⟨0, by omega, by simp⟩), fun i hi => ?_⟩, fun i hi => ?_, hl, .inr ⟨b, off, rfl⟩,
      .inr ⟨_, _, rfl, by simp only [lits, List.length_map, List.length_take]; omega, by simp only [lits, List.length_map, List.length_take, List.length_drop]; omega⟩⟩
    · have h2 := hcell i (by omega)
      rw [addr_add8] at h2
      have h3 := (wf_u8 (hwz _ (getD_mem8 (by omega : i < zs.length)))).1
      rw [h2]
      congr 2
      show zs.getD i 0 = ((zs.getD i 0).toNat : Int)
      omega
    · have h3 := wf_u8 (hwz _ (getD_mem8 (by omega : i < zs.length)))
      show (zs.getD i 0).toNat < 256
      omega
/-- the reach bounds it -/
theorem held_reach {ts : List TypeId} {ds : List (DataW H)} {j n c : Nat} {d : DataW H} (hsz : (DataW.weightsEach Try.prog ts ds).all (· ≤ reachBytes) = true) (ht : ts[j]? = some 23) (hd : ds[j]? = some d) (h : Held8 d n c) : c ≤ 140737488351232 := by
  rcases h with ⟨_, h⟩ | ⟨e, s, rfl, _, h⟩
  · omega
  · have := sized_slice hsz ht hd Try.underlying23
    rw [Try.bytes8] at this
    unfold reachBytes at this
    omega
end
end Go.Proofs.Ytmmaapmmjdjgaaa.nn
