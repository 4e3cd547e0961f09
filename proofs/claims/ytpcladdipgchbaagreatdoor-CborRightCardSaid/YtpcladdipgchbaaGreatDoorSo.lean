/- Joined texts, what is wanted of them: CbA, CbW, CbX, CbY, CbF. -/
import Derived.Lib.Builder
import Derived.Lib.Hide
import Derived.Shelf.RegionOpen
import Derived.Deep.RegionLaw
import Derived.Test.YtpcladdipgchbaaGreatDoorProg
import Derived.WalkKit
import Derived.WalkSpells
import Derived.Deep.QuietTactic
import Derived.BigQuiet
import Derived.Deep.RegionHeld3
import Derived.Laws.BitsAllLaws
import Derived.Test.YtpcladdipgchbaaGreatDoorShelf
import Derived.Deep.RegionWith
import Derived.IntWalk
import Derived.Deep.CutBlock
import Derived.StillTailTactics
import Derived.Test.YtpcladdipgchbaaGreatDoorSa
import Derived.Test.YtpcladdipgchbaaGreatDoorSd
import Derived.Test.YtpcladdipgchbaaGreatDoorSg
namespace Go.Proofs.YtpcladdipgchbaaGreatDoor.nn

/-- so many bytes of a function, as a list -/
def lsF (f : Nat → Nat) (n : Nat) : List UInt8 := (List.range n).map fun i => UInt8.ofNat (f i)
theorem lsF_len (f : Nat → Nat) (n : Nat) : (lsF f n).length = n := by simp [lsF]
/-- a head with the fewest bytes -/
def hdP (M n : Nat) : List UInt8 := lsF (hdB M n (hdS n)) (hdS n + 1)
/-- a float's first byte and bits, k bytes -/
def flP (x n k : Nat) : List UInt8 := UInt8.ofNat x :: lsF (fun i => n / 256 ^ (k - 1 - i) % 256) k
/-- bytes or a text, with its length -/
def pcP (M : Nat) (s : ByteArray) : List UInt8 := hdP M s.size ++ s.data.toList
/-- the first byte of what is open -/
def opP (M : Nat) : UInt8 := UInt8.ofNat (M * 32 + 31)
def txP (o : Bool) (M : Nat) (s : ByteArray) : List UInt8 := if o then opP M :: ((if s.size = 0 then [] else pcP M s) ++ [255]) else pcP M s
def hdO (o : Bool) (M n : Nat) : List UInt8 := if o then [opP M] else hdP M n
def enO (o : Bool) : List UInt8 := if o then [255] else []
/-- 1 of what is below 0 -/
def ng (g : Bool) : Nat := if g then 1 else 0
/-- an item, those within it given -/
def itH (o : Bool) (k : Int) (g : Bool) (n : Nat) (s : ByteArray) (c : Nat) (L : List UInt8) : List UInt8 :=
  if k = 0 then hdP 7 22 else if k = 2 then hdP 7 23 else if k = 1 then hdP 7 (20 + n) else if k = 3 then hdP 7 n else if k = 4 then hdP (ng g) n
  else if k = 6 then flP 249 n 2 else if k = 7 then flP 250 n 4 else if k = 8 then flP 251 n 8 else if k = 5 then hdP 6 (2 + ng g) ++ txP o 2 s
  else if k = 9 then txP o 2 s else if k = 10 then txP o 3 s else if k = 11 then hdO o 4 c ++ (L ++ enO o) else if k = 12 then hdO o 5 (c / 2) ++ (L ++ enO o) else hdP 6 n ++ L
mutual
def itB (o : Bool) : VT → List UInt8 | .mk k g n s l => itH o k g n s l.length (itL o l)
def itL (o : Bool) : List VT → List UInt8 | [] => [] | t :: r => itB o t ++ itL o r
end
theorem itB_mk (o : Bool) (t : VT) : itB o t = itH o t.k t.g t.n t.s t.l.length (itL o t.l) := by cases t; rfl
theorem itL_app (o : Bool) (a b : List VT) : itL o (a ++ b) = itL o a ++ itL o b := by
  induction a with
  | nil => rfl
  | cons t r ih => simp only [List.cons_append, itL, ih, List.append_assoc]
theorem itL_take_succ {o : Bool} {l : List VT} {i : Nat} (h : i < l.length) : itL o (l.take (i + 1)) = itL o (l.take i) ++ itB o l[i] := by
  rw [List.take_succ_eq_append_getElem h, itL_app]
  simp [itL]
mutual
/-- is a KExt within -/
def ext : VT → Bool | .mk k _ _ _ l => decide (k = 14) || extL l
def extL : List VT → Bool | [] => false | t :: r => ext t || extL r
end
theorem ext_mk (t : VT) : ext t = (decide (t.k = 14) || extL t.l) := by cases t; rfl
theorem extL_app (a b : List VT) : extL (a ++ b) = (extL a || extL b) := by
  induction a with
  | nil => simp [extL]
  | cons t r ih => simp only [List.cons_append, extL, ih, Bool.or_assoc]
theorem extL_take_succ {l : List VT} {i : Nat} (h : i < l.length) : extL (l.take (i + 1)) = (extL (l.take i) || ext l[i]) := by
  rw [List.take_succ_eq_append_getElem h, extL_app]
  simp [extL]
theorem hdS_le (n : Nat) : hdS n ≤ 8 := by have := hdS_cases n; omega
theorem hdP_len (M n : Nat) : (hdP M n).length = hdS n + 1 := lsF_len _ _
theorem hdP_le (M n : Nat) : (hdP M n).length ≤ 9 := by rw [hdP_len]; have := hdS_le n; omega
theorem pcP_le (M : Nat) (s : ByteArray) : (pcP M s).length ≤ s.size + 9 := by
  unfold pcP
  have := hdP_le M s.size
  rw [List.length_append]
  have : s.data.toList.length = s.size := Array.length_toList
  omega
theorem txP_le (o : Bool) (M : Nat) (s : ByteArray) : (txP o M s).length ≤ s.size + 11 := by
  have := pcP_le M s
  unfold txP
  split
  · split
    · simp
    · simp only [List.length_cons, List.length_append, List.length_nil]; omega
  · omega
theorem hdO_le (o : Bool) (M n : Nat) : (hdO o M n).length ≤ 9 := by
  have := hdP_le M n
  unfold hdO
  split
  · simp
  · omega
theorem enO_le (o : Bool) : (enO o).length ≤ 1 := by
  unfold enO
  split <;> simp
theorem flP_len (x n k : Nat) : (flP x n k).length = k + 1 := by unfold flP; rw [List.length_cons, lsF_len]
theorem itH_le (o : Bool) (k : Int) (g : Bool) (n : Nat) (s : ByteArray) (c : Nat) (L : List UInt8) : (itH o k g n s c L).length ≤ s.size + 20 + L.length := by
  have h1 := fun M n => hdP_le M n
  have h2 := fun M => txP_le o M s
  have h3 := fun M n => hdO_le o M n
  have h4 := enO_le o
  have e0 := h1 7 22; have e1 := h1 7 23; have e2 := h1 7 (20 + n); have e3 := h1 7 n; have e4 := h1 (ng g) n; have e5 := h1 6 (2 + ng g); have e6 := h2 2; have e7 := h2 3; have e8 := h3 4 c; have e9 := h3 5 (c / 2); have e10 := h1 6 n
  have f2 := flP_len 249 n 2; have f4 := flP_len 250 n 4; have f8 := flP_len 251 n 8
  unfold itH
  by_cases k0 : k = 0
  · rw [if_pos k0]; omega
  rw [if_neg k0]
  by_cases k1 : k = 2
  · rw [if_pos k1]; omega
  rw [if_neg k1]
  by_cases k2 : k = 1
  · rw [if_pos k2]; omega
  rw [if_neg k2]
  by_cases k3 : k = 3
  · rw [if_pos k3]; omega
  rw [if_neg k3]
  by_cases k4 : k = 4
  · rw [if_pos k4]; omega
  rw [if_neg k4]
  by_cases k6 : k = 6
  · rw [if_pos k6]; omega
  rw [if_neg k6]
  by_cases k7 : k = 7
  · rw [if_pos k7]; omega
  rw [if_neg k7]
  by_cases k8 : k = 8
  · rw [if_pos k8]; omega
  rw [if_neg k8]
  by_cases k5 : k = 5
  · rw [if_pos k5, List.length_append]; omega
  rw [if_neg k5]
  by_cases k9 : k = 9
  · rw [if_pos k9]; omega
  rw [if_neg k9]
  by_cases k10 : k = 10
  · rw [if_pos k10]; omega
  rw [if_neg k10]
  by_cases k11 : k = 11
  · rw [if_pos k11, List.length_append, List.length_append]; omega
  rw [if_neg k11]
  by_cases k12 : k = 12
  · rw [if_pos k12, List.length_append, List.length_append]; omega
  rw [if_neg k12, List.length_append]
  omega
mutual
theorem itB_le (o : Bool) : ∀ t : VT, (itB o t).length ≤ 20 * blk t
  | .mk k g n s l => by
    have h1 := itH_le o k g n s l.length (itL o l)
    have h2 := itL_le o l
    simp only [itB, blk]
    omega
theorem itL_le (o : Bool) : ∀ l : List VT, (itL o l).length ≤ 20 * blkL l
  | [] => by simp [itL]
  | t :: r => by
    have h1 := itB_le o t
    have h2 := itL_le o r
    simp only [itL, blkL, List.length_append]
    omega
end
end Go.Proofs.YtpcladdipgchbaaGreatDoor.nn
namespace Go.Proofs.YtpcladdipgchbaaGreatDoor.nn
open Go.RowKit

/-- all blocks but b and rows of bytes are as they were -/
def Kw (b : Nat) (w w' : World) : Prop := ∀ k cs T, k ≠ b → T ≠ 5 → w.heap[k]? = some (.cells cs T (0, 0)) → w'.heap[k]? = some (.cells cs T (0, 0))
theorem Kw.refl (b : Nat) (w : World) : Kw b w w := fun _ _ _ _ _ h => h
theorem Kw.trans {b : Nat} {w w' w2 : World} (h : Kw b w w') (k : Kw b w' w2) : Kw b w w2 := fun i cs T h1 h2 h3 => k i cs T h1 h2 (h i cs T h1 h2 h3)
theorem Kw.set {b : Nat} {w w' : World} (h : Kw b w w') (j : Nat) (v : Value) : Kw b w (w'.setCell ⟨b, j, none⟩ v) := fun i cs T h1 h2 h3 => (Below.heap_setCell _ _ _ _ (fun e => h1 (by simp [e]))).trans (h i cs T h1 h2 h3)
theorem Kw.of_below {b : Nat} {w w' : World} (h : Below w.heap.size w w') : Kw b w w' := fun i _ _ _ _ h3 => (h.block i (lt_of_block h3)).trans h3
theorem Kw.grown {b : Nat} {w w' w2 : World} {v : Value} {B n : Nat} {xs : List Value} (h : Kw b w w') (hg : w'.grownBy w2 v.ownBlock) (hown : w'.ownsRow B 5 1 v n xs) : Kw b w w2 := fun i cs T h1 h2 h3 => by
  have h4 := h i cs T h1 h2 h3
  exact (hg.block i (lt_of_block h4) (fun e => Lib.ownBlock_ne hown h4 h2 e.symm)).trans h4
theorem Kw.alloc {b : Nat} {w w' : World} (h : Kw b w w') (o : Obj) : Kw b w (w'.alloc o) := h.trans (.of_below ((Below.refl _ _).alloc (Nat.le_refl _) o))
theorem Kw.drew {b : Nat} {w w' : World} (h : Kw b w w') : Kw b w w'.drew := h
/-- the block of a writer, before its slice is stored -/
def Wbk (B b : Nat) (v0 v : Value) (l : List UInt8) (o : Bool) (w : World) : Prop := B ≤ b ∧ w.heap[b]? = some (.cells #[v0, .bool o] 58 (0, 0)) ∧ w.ownsRow B 5 1 v l.length (Lib.byteCells l)
/-- the writer in block b has written l -/
def Wr (B b : Nat) (l : List UInt8) (o : Bool) (w : World) : Prop := ∃ v, Wbk B b v v l o w
section
variable {B b : Nat} {v0 v : Value} {l : List UInt8} {o : Bool} {w w' : World}
theorem Wbk.c0 (h : Wbk B b v0 v l o w) : w.cell? ⟨b, 0, none⟩ = some v0 := cell_of_row _ _ 0 _ _ _ h.2.1
theorem Wbk.c1 (h : Wbk B b v0 v l o w) : w.cell? ⟨b, 1, none⟩ = some (.bool o) := cell_of_row _ _ 1 _ _ _ h.2.1
theorem Wbk.f0 (h : Wbk B b v0 v l o w) : w.frozen? ⟨b, 0, none⟩ = false := by simp [World.frozen?, h.2.1]
theorem Wbk.lt (h : Wbk B b v0 v l o w) : b < w.heap.size := lt_of_block h.2.1
theorem Wbk.ne (h : Wbk B b v0 v l o w) : v.ownBlock ≠ some b := Lib.ownBlock_ne h.2.2 h.2.1 (by decide)
theorem Wbk.put (h : Wbk B b v0 v l o w) : Wr B b l o (w.setCell ⟨b, 0, none⟩ v) := by
  have hne := h.ne
  obtain ⟨hB, hb, hown⟩ := h
  refine ⟨v, hB, ?_, ?_⟩
  · simp [World.setCell, Array.getElem?_modify, hb]
  · exact hown.kept (row := some b) ⟨rfl, rfl, rfl, by simp [World.setCell], fun k _ hk => Below.heap_setCell _ _ _ _ (fun e => hk (by simp [e]))⟩ (Or.inr hne)
theorem Wbk.below (h : Wbk B b v0 v l o w) (hb : Below w.heap.size w w') : Wbk B b v0 v l o w' := ⟨h.1, (hb.block b h.lt).trans h.2.1, own_below h.2.2 hb⟩
theorem Wr.below (h : Wr B b l o w) (hb : Below w.heap.size w w') : Wr B b l o w' := by
  obtain ⟨v, h⟩ := h
  exact ⟨v, h.below hb⟩
theorem Wr.lt (h : Wr B b l o w) : b < w.heap.size := by
  obtain ⟨v, h⟩ := h
  exact h.lt
end
theorem infoW8 : (Tryz.prog.info? 5).map (fun i => (i.zero, i.size, i.bytes)) = some (some (.int .u8 0), 1, 1) := by kernel_rfl
-- an append of bytes that can be read
set_option maxRecDepth 100000 in
theorem run_appW (B b : Nat) (v : Value) (l M : List UInt8) (o : Bool) (w : World) (ty : TypeId) (h : Wbk B b v v l o w) (A : Option Addr) (m c : Nat) (hm : m = M.length) (hr : Rd w .u8 A m (gL M)) (hle : l.length + M.length ≤ 140737488355328) (hbase : B ≤ w.heap.size) :
    ∃ v' w', (Builtin.append_ #[28, 28] ty #[v, .slice A m c]).run Tryz.prog w = .ok v' w' ∧ Wbk B b v v' (l ++ M) o w' ∧ Below B w w' ∧ Kw b w w' := by
  obtain ⟨i0, hi, hz0, hz1, hz2⟩ := info_parts infoW8
  obtain ⟨hB, hb, hown⟩ := h
  have hne : v.ownBlock ≠ some b := Lib.ownBlock_ne hown hb (by decide)
  subst hm
  rcases A with _ | ad
  · have h0 : M = [] := by
      rcases M with _ | ⟨x, M⟩
      · rfl
      · obtain ⟨b, off, e, _⟩ := hr (by simp)
        cases e
    subst h0
    refine ⟨v, w, ?_, ⟨hB, hb, by rw [List.append_nil]; exact hown⟩, Below.refl _ _, Kw.refl _ _⟩
    rcases hown.2 with ⟨rfl, e0⟩ | ⟨g, cap, cur, rfl, _, _, hnc, _⟩
    · rw [List.length_eq_zero_iff] at e0
      subst e0
      simp [Builtin.append_, run_underlying Tryz.underlying28, sizeOf, typeInfo, hi, Builtin.lenOf, Builtin.firstCells]
    · simp [Builtin.append_, run_underlying Tryz.underlying28, sizeOf, typeInfo, hi, Builtin.lenOf, Builtin.firstCells, hnc, storeCells]
  · have hcells : ∀ j u, (vl .u8 (gL M) M.length)[j]? = some u → w.cell? (ad.add j) = some u := by
      intro j u hu
      have hj : j < M.length := by
        have := (List.getElem?_eq_some_iff.1 hu).1
        rwa [vl_length] at this
      obtain ⟨b, off, e1, _, hc⟩ := hr (by omega)
      injection e1 with e1
      subst e1
      rw [vl_at .u8 (gL M) hj] at hu
      injection hu with hu
      subst hu
      have hadd : (⟨b, off, none⟩ : Addr).add j = ⟨b, off + j, none⟩ := by unfold Addr.add; split <;> simp_all
      rw [hadd]
      exact hc j hj
    obtain ⟨v', w', hrun, h2, h3, _⟩ := run_append_own_at (P := Tryz.prog) w B 28 ty 5 i0 (.int .u8 0) 1 1 Tryz.underlying28 hi hz0 hz1 hz2 rfl (by omega) v l.length _ hown ad M.length c (vl .u8 (gL M) M.length) (by rw [vl_length, Nat.mul_one]) hcells (vl_one .u8 (gL M) M.length) (by unfold maxLen; omega) (by omega) hbase
    rw [← bc_vl, ← Lib.byteCells_append] at h2
    refine ⟨v', w', hrun, ⟨hB, (h3.block b (lt_of_block hb) (fun e => hne e.symm)).trans hb, by rw [List.length_append]; exact h2⟩, (Below.refl B w).grown h3 hbase (fun k hk => (hown.lt k hk).1), (Kw.refl b w).grown h3 hown⟩
section
variable {w : World}
theorem wp_appW {oo : Oper} {a : Act} {R : Act → World → Prop} {Q : Exit → Act → World → Prop} (s x : Operand)
    (ho : oo.op = .call { callee := .builtin .append, args := #[s, x], argTypes := #[28, 28] })
    (B b : Nat) (v : Value) (l M : List UInt8) (o : Bool) (hs : a.eval s = v) (h : Wbk B b v v l o w) (A : Option Addr) (m c : Nat) (hm : m = M.length) (hx : a.eval x = .slice A m c) (hr : Rd w .u8 A m (gL M)) (hle : l.length + M.length ≤ 140737488355328) (hbase : B ≤ w.heap.size)
    (k : ∀ v' w', Wbk B b v v' (l ++ M) o w' → Below B w w' → Kw b w w' → R (a.put oo.dst v') w') : oo.wp Tryz.prog a w R Q := by
  obtain ⟨v', w', hrun, h2, h3, h4⟩ := run_appW B b v l M o w oo.type h A m c hm hr hle hbase
  unfold Oper.wp execOp
  simp only [ho, resolve, invoke, builtin, Sem.run_bind, Sem.run_pure, Result.andThen_ok, List.map_toArray, List.map_cons, List.map_nil, hs, hx, hrun]
  exact k v' w' h2 h3 h4
theorem wpList_appW {ops : Array Oper} {rest : List Oper} {oo : Oper} {a : Act} {Q : Exit → Act → World → Prop} (hgd : oo.guard = none) (s x : Operand)
    (ho : oo.op = .call { callee := .builtin .append, args := #[s, x], argTypes := #[28, 28] })
    (B b : Nat) (v : Value) (l M : List UInt8) (o : Bool) (hs : a.eval s = v) (h : Wbk B b v v l o w) (A : Option Addr) (m c : Nat) (hm : m = M.length) (hx : a.eval x = .slice A m c) (hr : Rd w .u8 A m (gL M)) (hle : l.length + M.length ≤ 140737488355328) (hbase : B ≤ w.heap.size)
    (k : ∀ v' w', Wbk B b v v' (l ++ M) o w' → Below B w w' → Kw b w w' → wpList Tryz.prog ops Q rest (a.put oo.dst v') w') : wpList Tryz.prog ops Q (oo :: rest) a w :=
  wpList_plain hgd fun _ hK => wp_appW s x ho B b v l M o hs h A m c hm hx hr hle hbase fun v' w' h2 h3 h4 => hK _ _ (k v' w' h2 h3 h4)
theorem step_appW {ops : Array Oper} {oo : Oper} {a : Act} {R : Act → World → Prop} {Q : Exit → Act → World → Prop} {E : Prop} (hgd : oo.guard = none) (s x : Operand)
    (ho : oo.op = .call { callee := .builtin .append, args := #[s, x], argTypes := #[28, 28] })
    (B b : Nat) (v : Value) (l M : List UInt8) (o : Bool) (hs : a.eval s = v) (h : Wbk B b v v l o w) (A : Option Addr) (m c : Nat) (hm : m = M.length) (hx : a.eval x = .slice A m c) (hr : Rd w .u8 A m (gL M)) (hle : l.length + M.length ≤ 140737488355328) (hbase : B ≤ w.heap.size)
    (k : ∀ v' w', Wbk B b v v' (l ++ M) o w' → Below B w w' → Kw b w w' → R (a.put oo.dst v') w') :
    if Region.wanted oo (yielded ops a.tmps) = true then Oper.wp Tryz.prog oo a w R Q else E := by
  have hw : Region.wanted oo (yielded ops a.tmps) = true := by simp [Region.wanted, hgd]
  rw [if_pos hw]
  exact wp_appW s x ho B b v l M o hs h A m c hm hx hr hle hbase k
/-- an append of a text -/
theorem wpList_appWS {ops : Array Oper} {rest : List Oper} {oo : Oper} {a : Act} {Q : Exit → Act → World → Prop} (hgd : oo.guard = none) (s x : Operand)
    (ho : oo.op = .call { callee := .builtin .append, args := #[s, x], argTypes := #[28, 9] })
    (B b : Nat) (v : Value) (l : List UInt8) (o : Bool) (T : ByteArray) (hs : a.eval s = v) (h : Wbk B b v v l o w) (hx : a.eval x = .string T) (hle : l.length + T.size ≤ 140737488355328) (hbase : B ≤ w.heap.size)
    (k : ∀ v' w', Wbk B b v v' (l ++ T.data.toList) o w' → Below B w w' → Kw b w w' → wpList Tryz.prog ops Q rest (a.put oo.dst v') w') : wpList Tryz.prog ops Q (oo :: rest) a w := by
  obtain ⟨i0, hi, hz0, hz1, hz2⟩ := info_parts infoW8
  have hne := h.ne
  obtain ⟨hB, hb, hown⟩ := h
  refine Lib.wpList_append_own_string w hgd s x 28 9 ho B 5 i0 Tryz.underlying28 Tryz.underlying9 hi hz0 hz1 hz2 v l.length _ hs hown T hx (by unfold maxLen; omega) hle hbase fun v' w' h1 h2 _ => k v' w' ⟨hB, (h2.block b (lt_of_block hb) (fun e => hne e.symm)).trans hb, ?_⟩ ((Below.refl B w).grown h2 hbase (fun k hk => (hown.lt k hk).1)) ((Kw.refl b w).grown h2 hown)
  rw [Lib.byteCells_append, ← Lib.strCells_eq, List.length_append, Array.length_toList]
  exact h1
end
end Go.Proofs.YtpcladdipgchbaaGreatDoor.nn
namespace Go.Proofs.YtpcladdipgchbaaGreatDoor.nn
open Go.RowKit

theorem u8_of {d : Nat} (h : d < 256) : (UInt8.ofNat d).toNat = d := by
  rw [UInt8.toNat_ofNat']
  exact Nat.mod_eq_of_lt h
theorem gL_lsF {f : Nat → Nat} {n i : Nat} (hi : i < n) (h : f i < 256) : gL (lsF f n) i = f i := by
  rw [gL_at (by rw [lsF_len]; exact hi)]
  unfold lsF
  simp only [List.getElem_map, List.getElem_range]
  exact u8_of h
theorem hdB_lt {M n k : Nat} (hM : M ≤ 7) (hn : n < 24 ∨ k ≠ 0) (i : Nat) : hdB M n k i < 256 := by
  unfold hdB
  split
  · split
    · omega
    · have := hdI_cases k; omega
  · exact Nat.mod_lt _ (by decide)
theorem rd_b1 (w : World) {d : Nat} (h : d < 256) (e : TypeId) : Rd (w.alloc (.cells #[.int .u8 (d : Int)] e)) .u8 (some ⟨w.heap.size, 0, none⟩) 1 (gL [UInt8.ofNat d]) :=
  (rd_one w .u8 d e).congr fun i hi => by
    obtain rfl : i = 0 := by omega
    exact (u8_of h).symm
theorem Wbk.form {B b : Nat} {v0 v : Value} {l : List UInt8} {o : Bool} {w : World} (h : Wbk B b v0 v l o w) : ∃ A n c, v = .slice A n c := by
  rcases h.2.2.2 with ⟨rfl, _⟩ | ⟨g, cap, cur, hv, _⟩
  · exact ⟨_, _, _, rfl⟩
  · exact ⟨_, _, cap, hv⟩
/-- what a call of the writer's answers -/
def WrAns (B b : Nat) (l : List UInt8) (o : Bool) (w : World) (e : Ending) (w' : World) : Prop := e = .returned (.tuple #[]) ∧ Wr B b l o w' ∧ Below B w w' ∧ Kw b w w'
set_option maxRecDepth 100000 in
set_option maxHeartbeats 1000000 in
theorem wfirst_any (B b : Nat) (l : List UInt8) (o : Bool) (M x : Nat) (w : World) (h : Wr B b l o w) (hM : M ≤ 7) (hx : x < 32) (hle : l.length + 1 ≤ 140737488355328) (hBw : B ≤ w.heap.size) :
    Calls Tryz.prog 102 #[.pointer (some ⟨b, 0, none⟩), .int .i64 (M : Int), .int .i64 (x : Int)] w (WrAns B b (l ++ [UInt8.ofNat (M * 32 + x)]) o w) := by
  obtain ⟨v, hb⟩ := h
  have c0 := hb.c0
  have HB := Lib.hid hb
  have hi := int_first hM hx
  have hb8 : IntKind.u8.wrap ((M * 32 + x : Nat) : Int) = ((M * 32 + x : Nat) : Int) := by rw [IntKind.wrap_u8]; omega
  obtain ⟨d, hd⟩ : ∃ d, M * 32 + x = d := ⟨_, rfl⟩
  have hd256 : d < 256 := by omega
  rw [hd] at hi hb8 ⊢
  have HR := Lib.hid (rd_b1 w hd256 5)
  have HA := Lib.hid (hb.below ((Below.refl _ _).alloc (Nat.le_refl _) (.cells #[.int .u8 (d : Int)] 5)))
  have HBL := Lib.hid ((Below.refl B w).alloc hBw (.cells #[.int .u8 (d : Int)] 5))
  have HKW := Lib.hid ((Kw.refl b w).alloc (.cells #[.int .u8 (d : Int)] 5))
  have hsz : B ≤ (w.alloc (.cells #[.int .u8 (d : Int)] 5)).heap.size := by simp; omega
  have hw : wrap64 ((M : Int) * 32) = (M : Int) * 32 := by unfold wrap64; omega
  have hm : (d : Int) % 256 = (d : Int) := by omega
  clear hd hb
  go_enter Tryz.func102, Tryz.ntmps102
  go_wp2_with (at_builtin; refine wpList_appW rfl _ _ rfl B b v l [UInt8.ofNat d] o rfl HA.out (some ⟨w.heap.size, 0, none⟩) 1 1 rfl rfl HR.out hle hsz ?_; intro v' w2 h2 hb2 hk2; have d0 := h2.c0; have f0 := h2.f0; have HB2 := Lib.hid h2; have HL2 := Lib.hid hb2; have HK2 := Lib.hid hk2; obtain ⟨A2, n2, c2, rfl⟩ := h2.form; clear h2 hb2 hk2 c0)
  go_end0
  exact ⟨rfl, HB2.out.put, (HBL.out.trans HL2.out).setCell (p := ⟨b, 0, none⟩) HB.out.1 _, (HKW.out.trans HK2.out).set 0 _⟩
set_option maxRecDepth 100000 in
set_option maxHeartbeats 1000000 in
theorem whead_any (B b : Nat) (l : List UInt8) (o : Bool) (M n : Nat) (w : World) (h : Wr B b l o w) (hM : M ≤ 7) (hok : hdOk M n (hdS n) = true) (hn : n < 18446744073709551616) (hle : l.length + 9 ≤ 140737488355328) (hBw : B ≤ w.heap.size) :
    Calls Tryz.prog 58 #[.pointer (some ⟨b, 0, none⟩), .int .i64 (M : Int), .int .u64 (n : Int)] w (WrAns B b (l ++ hdP M n) o w) := by
  have hp := hdput_any (M : Int) n w hn (by omega) (by omega)
  have HP : Hid (Calls Tryz.prog 54 #[.int .i64 (M : Int), .int .u64 (n : Int)] w fun e w' => ∃ A c, e = .returned (.tuple #[.slice A (hdP M n).length c, .int .i64 0]) ∧ Rd w' .u8 A (hdP M n).length (gL (hdP M n)) ∧ Below w.heap.size w w') := Lib.hid (hp.mono fun e w' h => by
    obtain ⟨h1, hb⟩ := h
    rcases h1 with ⟨_, A, c, he, hr, _⟩ | ⟨h1, _⟩
    · rw [Int.toNat_natCast, Int.toNat_natCast] at hr
      rw [Int.toNat_natCast, ← hdP_len M n] at he
      refine ⟨A, c, he, ?_, hb⟩
      rw [hdP_len]
      refine hr.congr fun i hi => (gL_lsF hi (hdB_lt hM ?_ i)).symm
      have := hdS_cases n
      omega
    · rw [hok] at h1; cases h1)
  have hl9 := hdP_le M n
  obtain ⟨P, hP⟩ : ∃ P, hdP M n = P := ⟨_, rfl⟩
  rw [hP] at HP hl9 ⊢
  have HW := Lib.hid (And.intro h hBw)
  clear hp hP hok hM h hn hBw
  go_enter Tryz.func58, Tryz.ntmps58
  go_wp2_with fail
  refine HP.out.mono ?_
  rintro e w1 ⟨A, c, rfl, hr, hb1⟩
  obtain ⟨v, hv⟩ := HW.out.1.below hb1
  have c0 := hv.c0
  have HV := Lib.hid hv
  have HR := Lib.hid hr
  have HL := Lib.hid (And.intro (hb1.mono HW.out.2) (And.intro (Kw.of_below (b := b) hb1) (Nat.le_trans HW.out.2 hb1.size)))
  have hln : l.length + P.length ≤ 140737488355328 := by omega
  clear hv hr hb1
  go_wp2_with (at_builtin; refine wpList_appW rfl _ _ rfl B b v l P o rfl HV.out A P.length c rfl rfl HR.out hln HL.out.2.2 ?_; intro v' w2 h2 hb2 hk2; have d0 := h2.c0; have f0 := h2.f0; have HB2 := Lib.hid h2; have HL2 := Lib.hid hb2; have HK2 := Lib.hid hk2; obtain ⟨A2, n2, c2, rfl⟩ := h2.form; clear h2 hb2 hk2 c0)
  go_end0
  exact ⟨rfl, HB2.out.put, (HL.out.1.trans HL2.out).setCell (p := ⟨b, 0, none⟩) HV.out.1 _, (HL.out.2.1.trans HK2.out).set 0 _⟩
end Go.Proofs.YtpcladdipgchbaaGreatDoor.nn
namespace Go.Proofs.YtpcladdipgchbaaGreatDoor.nn
open Go.RowKit

theorem hd_ok6 {M : Nat} (n : Nat) (hM : M ≤ 6) : hdOk (M : Int) n (hdS n) = true := by
  unfold hdOk
  have h1 : hdX (M : Int) n (hdS n) = false := by
    unfold hdX
    exact decide_eq_false (by omega)
  have h2 := hdS_cases n
  have h3 := hdI_cases (hdS n : Int)
  rw [h1]
  simp only [Bool.not_false, Bool.true_and, decide_eq_true_eq]
  omega
theorem hd_ok7 {n : Nat} (h : n ≤ 23 ∨ (32 ≤ n ∧ n ≤ 255)) : hdOk ((7 : Nat) : Int) n (hdS n) = true := by
  unfold hdOk
  have h2 := hdS_cases n
  have h1 : hdX ((7 : Nat) : Int) n (hdS n) = false := by
    unfold hdX
    exact decide_eq_false (by omega)
  have h3 := hdI_cases (hdS n : Int)
  rw [h1]
  simp only [Bool.not_false, Bool.true_and, decide_eq_true_eq]
  omega
theorem ba_len (s : ByteArray) : s.data.toList.length = s.size := Array.length_toList
set_option maxRecDepth 100000 in
set_option maxHeartbeats 1000000 in
theorem wpiece_any (B b : Nat) (l : List UInt8) (o : Bool) (M : Nat) (s : ByteArray) (w : World) (h : Wr B b l o w) (hM : M ≤ 6) (hle : l.length + s.size + 9 ≤ 140737488355328) (hBw : B ≤ w.heap.size) :
    Calls Tryz.prog 103 #[.pointer (some ⟨b, 0, none⟩), .int .i64 (M : Int), .string s] w (WrAns B b (l ++ pcP M s) o w) := by
  have H1 := Lib.hid (whead_any B b l o M s.size w h (by omega) (hd_ok6 s.size hM) (by omega) (by omega) hBw)
  have hl9 := hdP_le M s.size
  have hwr : IntKind.u64.wrap (s.size : Int) = (s.size : Int) := by rw [IntKind.wrap_u64]; omega
  have hp : pcP M s = hdP M s.size ++ s.data.toList := rfl
  obtain ⟨P, hP⟩ : ∃ P, hdP M s.size = P := ⟨_, rfl⟩
  rw [hP] at H1 hl9 hp
  rw [hp]
  have hln : (l ++ P).length + s.size ≤ 140737488355328 := by rw [List.length_append]; omega
  clear hp hP h hM
  go_enter Tryz.func103, Tryz.ntmps103
  go_wp2_with fail
  refine H1.out.mono ?_
  rintro e w1 ⟨rfl, ⟨v, hv⟩, hb1, hk1⟩
  have c0 := hv.c0
  have HV := Lib.hid hv
  have HL := Lib.hid (And.intro hb1 (And.intro hk1 (Nat.le_trans hBw hb1.size)))
  clear hv hb1 hk1
  go_wp2_with (at_builtin; refine wpList_appWS rfl _ _ rfl B b v (l ++ P) o s rfl HV.out rfl hln HL.out.2.2 ?_; intro v' w2 h2 hb2 hk2; have d0 := h2.c0; have f0 := h2.f0; have HB2 := Lib.hid h2; have HL2 := Lib.hid hb2; have HK2 := Lib.hid hk2; obtain ⟨A2, n2, c2, rfl⟩ := h2.form; clear h2 hb2 hk2 c0)
  go_end0
  exact ⟨rfl, by rw [← List.append_assoc]; exact HB2.out.put, (HL.out.1.trans HL2.out).setCell (p := ⟨b, 0, none⟩) HV.out.1 _, (HL.out.2.1.trans HK2.out).set 0 _⟩
set_option maxRecDepth 100000 in
set_option maxHeartbeats 2000000 in
theorem wstretch_any (B b : Nat) (l : List UInt8) (o : Bool) (M : Nat) (s : ByteArray) (w : World) (h : Wr B b l o w) (hM : M ≤ 6) (hle : l.length + s.size + 11 ≤ 140737488355328) (hBw : B ≤ w.heap.size) :
    Calls Tryz.prog 61 #[.pointer (some ⟨b, 0, none⟩), .int .i64 (M : Int), .string s] w (WrAns B b (l ++ txP o M s) o w) := by
  have c1 := h.choose_spec.c1
  cases o with
  | false =>
    have H1 := Lib.hid (wpiece_any B b l false M s w h hM (by omega) hBw)
    have hp : txP false M s = pcP M s := rfl
    rw [hp]
    clear hp h hM hle
    go_enter Tryz.func61, Tryz.ntmps61
    go_wp2_with fail
    refine H1.out.mono ?_
    rintro e w1 ⟨rfl, h1⟩
    have HH := Lib.hid h1
    clear h1
    go_wp2_with fail
    go_end0
    exact ⟨rfl, HH.out⟩
  | true =>
    have H1 := Lib.hid (wfirst_any B b l true M 31 w h (by omega) (by decide) (by omega) hBw)
    have H2 : Hid (∀ W, Wr B b (l ++ [opP M]) true W → B ≤ W.heap.size → Calls Tryz.prog 103 #[.pointer (some ⟨b, 0, none⟩), .int .i64 (M : Int), .string s] W (WrAns B b (l ++ [opP M] ++ pcP M s) true W)) := Lib.hid fun W hW hB => wpiece_any B b _ true M s W hW hM (by simp; omega) hB
    have hp9 := pcP_le M s
    have hs0 : s.toList.isEmpty = decide (s.size = 0) := by
      rw [ByteArray.toList_eq, ← ba_len s]
      cases s.data.toList <;> simp
    have hT : txP true M s = opP M :: ((if s.size = 0 then [] else pcP M s) ++ [255]) := rfl
    obtain ⟨P, hP⟩ : ∃ P, pcP M s = P := ⟨_, rfl⟩
    rw [hP] at H2 hp9 hT
    have E0 : Hid (s.size = 0 → l ++ txP true M s = l ++ [opP M] ++ [255]) := Lib.hid fun h => by rw [hT, if_pos h, List.nil_append, List.append_cons]
    have E1 : Hid (¬ s.size = 0 → l ++ txP true M s = l ++ [opP M] ++ P ++ [255]) := Lib.hid fun h => by rw [hT, if_neg h, List.append_cons l (opP M), ← List.append_assoc]
    obtain ⟨T, hTT⟩ : ∃ T, l ++ txP true M s = T := ⟨_, rfl⟩
    rw [hTT] at E0 E1 ⊢
    clear hTT
    have ho : UInt8.ofNat (M * 32 + 31) = opP M := rfl
    rw [ho] at H1
    -- the end: one byte more
    have HE : Hid (∀ W : World, Rd (W.alloc (.cells #[.int .u8 255] 5)) .u8 (some ⟨W.heap.size, 0, none⟩) 1 (gL [255])) := Lib.hid fun W => rd_b1 W (d := 255) (by decide) _
    clear hP ho h hM hT
    go_enter Tryz.func61, Tryz.ntmps61
    go_wp2_with fail
    refine H1.out.mono ?_
    rintro e w1 ⟨rfl, h1, hb1, hk1⟩
    have HL := Lib.hid (And.intro h1 (And.intro hb1 (And.intro hk1 (Nat.le_trans hBw hb1.size))))
    clear h1 hb1 hk1
    by_cases hz : s.size = 0
    · have g1 : s.toList.isEmpty = true := by rw [hs0]; exact decide_eq_true hz
      have E2 := Lib.hid (E0.out hz)
      clear E0 E1 hs0
      obtain ⟨v, hv⟩ := HL.out.1
      have c0 := hv.c0
      have HA := Lib.hid (hv.below ((Below.refl _ _).alloc (Nat.le_refl _) (.cells #[.int .u8 255] 5)))
      have hB := Lib.hid hv.1
      have hsz : B ≤ (w1.alloc (.cells #[.int .u8 255] 5)).heap.size := by have := HL.out.2.2.2; simp; omega
      have HB2 := Lib.hid (HL.out.2.1.alloc HL.out.2.2.2 (.cells #[.int .u8 255] 5))
      have HK2 := Lib.hid (HL.out.2.2.1.alloc (.cells #[.int .u8 255] 5))
      have hln : (l ++ [opP M]).length + 1 ≤ 140737488355328 := by simp; omega
      clear hv hz
      go_wp2_with (at_builtin; refine wpList_appW rfl _ _ rfl B b v (l ++ [opP M]) [255] true rfl HA.out (some ⟨w1.heap.size, 0, none⟩) 1 1 rfl rfl (HE.out _) hln hsz ?_; intro v' w2 h2 hb2 hk2; have d0 := h2.c0; have f0 := h2.f0; have HB3 := Lib.hid h2; have HL3 := Lib.hid hb2; have HK3 := Lib.hid hk2; obtain ⟨A2, n2, c2, rfl⟩ := h2.form; clear h2 hb2 hk2 c0)
      go_end0
      exact ⟨rfl, by rw [E2.out]; exact HB3.out.put, (HB2.out.trans HL3.out).setCell (p := ⟨b, 0, none⟩) hB.out _, (HK2.out.trans HK3.out).set 0 _⟩
    · have g1 : s.toList.isEmpty = false := by rw [hs0]; exact decide_eq_false hz
      have E2 := Lib.hid (E1.out hz)
      clear E0 E1 hs0
      go_wp2_with fail
      refine (H2.out _ HL.out.1 HL.out.2.2.2).mono ?_
      rintro e w2 ⟨rfl, ⟨v, hv⟩, hb2, hk2⟩
      have c0 := hv.c0
      have HA := Lib.hid (hv.below ((Below.refl _ _).alloc (Nat.le_refl _) (.cells #[.int .u8 255] 5)))
      have hB := Lib.hid hv.1
      have hsz : B ≤ (w2.alloc (.cells #[.int .u8 255] 5)).heap.size := by have := HL.out.2.2.2; have := hb2.size; simp; omega
      have HB2 := Lib.hid ((HL.out.2.1.trans hb2).alloc (Nat.le_trans HL.out.2.2.2 hb2.size) (.cells #[.int .u8 255] 5))
      have HK2 := Lib.hid ((HL.out.2.2.1.trans hk2).alloc (.cells #[.int .u8 255] 5))
      have hln : (l ++ [opP M] ++ P).length + 1 ≤ 140737488355328 := by simp; omega
      clear hv hz hb2 hk2
      go_wp2_with (at_builtin; refine wpList_appW rfl _ _ rfl B b v (l ++ [opP M] ++ P) [255] true rfl HA.out (some ⟨w2.heap.size, 0, none⟩) 1 1 rfl rfl (HE.out _) hln hsz ?_; intro v' w3 h3 hb3 hk3; have d0 := h3.c0; have f0 := h3.f0; have HB3 := Lib.hid h3; have HL3 := Lib.hid hb3; have HK3 := Lib.hid hk3; obtain ⟨A2, n2, c2, rfl⟩ := h3.form; clear h3 hb3 hk3 c0)
      go_end0
      exact ⟨rfl, by rw [E2.out]; exact HB3.out.put, (HB2.out.trans HL3.out).setCell (p := ⟨b, 0, none⟩) hB.out _, (HK2.out.trans HK3.out).set 0 _⟩
end Go.Proofs.YtpcladdipgchbaaGreatDoor.nn
namespace Go.Proofs.YtpcladdipgchbaaGreatDoor.nn
open Go.RowKit

theorem lsF_succ (f : Nat → Nat) (n : Nat) : lsF f (n + 1) = lsF f n ++ [UInt8.ofNat (f n)] := by simp [lsF, List.range_succ]
set_option maxRecDepth 100000 in
set_option maxHeartbeats 8000000 in
theorem wfloat_any (B b : Nat) (l : List UInt8) (o : Bool) (x n q : Nat) (w : World) (h : Wr B b l o w) (hx : x < 32) (_ : n < 18446744073709551616) (hq0 : 0 < q) (hq : q ≤ 8) (hle : l.length + 9 ≤ 140737488355328) (hBw : B ≤ w.heap.size) :
    Calls Tryz.prog 60 #[.pointer (some ⟨b, 0, none⟩), .int .i64 (x : Int), .int .u64 (n : Int), .int .i64 (q : Int)] w (WrAns B b (l ++ flP (224 + x) n q) o w) := by
  have H1 := Lib.hid (wfirst_any B b l o 7 x w h (by decide) hx (by omega) hBw)
  have hT : l ++ flP (224 + x) n q = (l ++ [UInt8.ofNat (7 * 32 + x)]) ++ lsF (fun i => n / 256 ^ (q - 1 - i) % 256) q := by unfold flP; rw [List.append_cons]
  obtain ⟨T, hTT⟩ : ∃ T, l ++ flP (224 + x) n q = T := ⟨_, rfl⟩
  rw [hTT] at hT ⊢
  obtain ⟨l1, hl1⟩ : ∃ l1, l ++ [UInt8.ofNat (7 * 32 + x)] = l1 := ⟨_, rfl⟩
  have hll : l1.length = l.length + 1 := by rw [← hl1]; simp
  rw [hl1] at H1 hT
  have HT := Lib.hid hT
  clear hT hTT hl1 h
  go_enter Tryz.func60, Tryz.ntmps60
  go_wp2_with fail
  refine H1.out.mono ?_
  rintro e w1 ⟨rfl, h1, hb1, hk1⟩
  have HL := Lib.hid (And.intro h1 (And.intro hb1 (And.intro hk1 (Nat.le_trans hBw hb1.size))))
  clear h1 hb1 hk1
  go_wp2_with fail
  go_loopw [8] (fun s8 wr => ∃ j : Nat, j ≤ q ∧ s8 = .int .i64 ((q : Int) - 1 - (j : Int)) ∧ Hid (Wr B b (l1 ++ lsF (fun i => n / 256 ^ (q - 1 - i) % 256) j) o wr ∧ Below B w wr ∧ Kw b w wr ∧ B ≤ wr.heap.size)) (fun s8 _ => ((intOf s8) + 1).toNat)
  case atStart => exact ⟨0, Nat.zero_le _, congrArg (Value.int .i64) (by omega), Lib.hid ⟨by rw [show lsF (fun i => n / 256 ^ (q - 1 - i) % 256) 0 = [] from rfl, List.append_nil]; exact HL.out.1, HL.out.2⟩⟩
  case round =>
    obtain ⟨j, hj, rfl, hO⟩ := hrel
    by_cases hlt : j < q
    · obtain ⟨i, hii⟩ : ∃ i : Nat, (q : Int) - 1 - (j : Int) = (i : Int) := ⟨q - 1 - j, by omega⟩
      rw [hii]
      have h8 : i = 0 ∨ i = 1 ∨ i = 2 ∨ i = 3 ∨ i = 4 ∨ i = 5 ∨ i = 6 ∨ i = 7 := by omega
      obtain ⟨d, hd⟩ : ∃ d, n / 256 ^ i % 256 = d := ⟨_, rfl⟩
      have hd256 : d < 256 := by rw [← hd]; exact Nat.mod_lt _ (by decide)
      have HDJ : Hid (lsF (fun i => n / 256 ^ (q - 1 - i) % 256) (j + 1) = lsF (fun i => n / 256 ^ (q - 1 - i) % 256) j ++ [UInt8.ofNat d]) := Lib.hid (by rw [lsF_succ, show q - 1 - j = i by omega, hd])
      have U1 : Hid (∀ N : Nat, N = 256 ^ i → IntKind.u8.wrap ((n : Int) / (N : Int)) = (d : Int)) := Lib.hid (fun N hN => by
        rw [IntKind.wrap_u8, ← hd, hN]
        simp)
      obtain ⟨v, hv⟩ := hO.out.1
      obtain ⟨P, hP⟩ : ∃ P, l1 ++ lsF (fun i => n / 256 ^ (q - 1 - i) % 256) j = P := ⟨_, rfl⟩
      have hPl : P.length = l.length + 1 + j := by rw [← hP, List.length_append, lsF_len, hll]
      rw [hP] at hv
      have HP := Lib.hid hP
      have c0 := hv.c0
      have HV := Lib.hid hv
      have HR : Hid (∀ W : World, Rd (W.alloc (.cells #[.int .u8 (d : Int)] 5)) .u8 (some ⟨W.heap.size, 0, none⟩) 1 (gL [UInt8.ofNat d])) := Lib.hid fun W => rd_b1 W hd256 _
      have HA : Hid (Wbk B b v v P o (wr.drew.alloc (.cells #[.int .u8 (d : Int)] 5))) := Lib.hid (hv.below ((Below.drew (Below.refl _ _)).alloc (Nat.le_refl _) _))
      have HB2 : Hid (Below B w (wr.drew.alloc (.cells #[.int .u8 (d : Int)] 5)) ∧ Kw b w (wr.drew.alloc (.cells #[.int .u8 (d : Int)] 5))) := Lib.hid ⟨(hO.out.2.1.trans (Below.drew (Below.refl _ _))).alloc hO.out.2.2.2 _, (hO.out.2.2.1.trans (Kw.drew (Kw.refl _ _))).alloc _⟩
      have hsz : B ≤ (wr.drew.alloc (.cells #[.int .u8 (d : Int)] 5)).heap.size := by have := hO.out.2.2.2; simp; omega
      have hln : P.length + 1 ≤ 140737488355328 := by omega
      have c1 : (wr.alloc (.cells #[.int .u8 (d : Int)] 5)).cell? ⟨b, 0, none⟩ = some v := HA.out.c0
      clear hd hv hP hPl
      have k0 : IntKind.i64.wrap 0 = 0 := by decide
      have k1 : IntKind.i64.wrap 8 = 8 := by decide
      have k2 : IntKind.i64.wrap 16 = 16 := by decide
      have k3 : IntKind.i64.wrap 24 = 24 := by decide
      have k4 : IntKind.i64.wrap 32 = 32 := by decide
      have k5 : IntKind.i64.wrap 40 = 40 := by decide
      have k6 : IntKind.i64.wrap 48 = 48 := by decide
      have k7 : IntKind.i64.wrap 56 = 56 := by decide
      rcases h8 with rfl | rfl | rfl | rfl | rfl | rfl | rfl | rfl
      all_goals
        first
          | (have u2 : IntKind.u8.wrap (n : Int) = (d : Int) := by have := U1.out 1 (by decide); rw [show ((1 : Nat) : Int) = 1 from rfl, Int.ediv_one] at this; exact this)
          | (have u2 : IntKind.u8.wrap ((n : Int) / 256) = (d : Int) := U1.out 256 (by decide))
          | (have u2 : IntKind.u8.wrap ((n : Int) / 65536) = (d : Int) := U1.out 65536 (by decide))
          | (have u2 : IntKind.u8.wrap ((n : Int) / 16777216) = (d : Int) := U1.out 16777216 (by decide))
          | (have u2 : IntKind.u8.wrap ((n : Int) / 4294967296) = (d : Int) := U1.out 4294967296 (by decide))
          | (have u2 : IntKind.u8.wrap ((n : Int) / 1099511627776) = (d : Int) := U1.out 1099511627776 (by decide))
          | (have u2 : IntKind.u8.wrap ((n : Int) / 281474976710656) = (d : Int) := U1.out 281474976710656 (by decide))
          | (have u2 : IntKind.u8.wrap ((n : Int) / 72057594037927936) = (d : Int) := U1.out 72057594037927936 (by decide))
        clear U1
        go_upto_region 4 with fail
        go_region_law (refine step_appW rfl (.tmp 22) (.tmp 28) rfl B b v P [UInt8.ofNat d] o rfl HA.out _ 1 1 rfl rfl (HR.out _) hln hsz ?_; intro v2 w2 h2 hb2 hk2; have d0 := h2.c0; have f0 := h2.f0; obtain ⟨A2, n2, c2, rfl⟩ := h2.form)
        all_goals
          have HN := Lib.hid (And.intro h2.put (And.intro ((HB2.out.1.trans hb2).setCell (p := ⟨b, 0, none⟩) HV.out.1 (.slice A2 n2 c2)) (And.intro ((HB2.out.2.trans hk2).set 0 (.slice A2 n2 c2)) (Nat.le_trans hsz hb2.size))))
          clear h2 hb2 hk2 d0 f0 c0 c1
          go_wp2_with fail
          go_roundw
          case rel => exact ⟨j + 1, by omega, congrArg (Value.int .i64) (by omega), Lib.hid ⟨by rw [HDJ.out, ← List.append_assoc, HP.out]; exact HN.out.1, HN.out.2.1, HN.out.2.2.1, by simpa using HN.out.2.2.2⟩⟩
          case measure => simp [intOf]
    · obtain rfl : j = q := by omega
      have hneg : ((j : Int) - 1 - (j : Int)) = -1 := by omega
      rw [hneg]
      clear hneg
      go_wp2_with fail
      go_end0
      exact ⟨rfl, by rw [HT.out]; exact hO.out.1, hO.out.2.1, hO.out.2.2.1⟩
set_option maxRecDepth 100000 in
theorem wsign_any (t : VT) (C : Value) (w : World) : Calls Tryz.prog 59 #[vv t C] w fun e w' => e = .returned (.int .i64 (ng t.g : Int)) ∧ Below w.heap.size w w' := by
  have hb := Lib.hid ((Below.refl w.heap.size w).alloc (Nat.le_refl _) (.cells #[.int .i64 t.k, .bool t.g, .int .u64 (t.n : Int), .string t.s, C] 25))
  unfold vv
  obtain ⟨g, hg⟩ : ∃ g, t.g = g := ⟨_, rfl⟩
  rw [hg] at hb ⊢
  clear hg
  cases g
  all_goals
    go_enter Tryz.func59, Tryz.ntmps59
    go_wp2_with fail
    go_ret
    exact ⟨rfl, hb.out⟩
end Go.Proofs.YtpcladdipgchbaaGreatDoor.nn
