/- Joined texts, what is wanted of them: Num, Mem, Append, Bt, Bytes, List, Tree, RefLeaf, Write, AddRel, Long, Add, Awake, RefSum, RefCmp, BitsNum, NatBytes, RefBytes, CbA, Utf, RefNeed, Behind, Take, TakeAll, RefWithin, Check, RefOne, RefOne2, RefCount. -/
import Derived.Below
import Derived.Laws.OwnMore
import Derived.Deep.AppendLies
import Derived.Deep.Draws
import Derived.Maps.AppendAt
import Derived.RegionTactic
import Derived.OwnWalk
import Derived.Deep.RegionLaw
import Derived.WalkKit
import Derived.Test.YtgadpmddbkimfaaProg
import Derived.Laws.BytesArg
import Derived.Lib.UnsafeStr
import Derived.Lib.AppendStr
import Derived.Lib.Hide
import Derived.Lib.MinMax
import Derived.Deep.QuietTactic
import Derived.BigQuiet
import Derived.IntWalk
import Derived.Laws.Rows
import Derived.WalkSpells
import Derived.Deep.RegionHeld3
import Derived.Laws.BitsAllLaws
import Derived.Test.YtgadpmddbkimfaaShelf
import Derived.Deep.RegionWith
import Derived.Lib.BitFns
import Derived.Deep.CutBlock
import Derived.Deep.DeepCutAuto
import Derived.KernelRfl
import Derived.Deep.WholeRow
import Derived.Great.Walk
import Derived.StillTailTactics
import Derived.Lib.Builder
import Derived.Shelf.RegionOpen
import Derived.Laws.AppendOwn
import Derived.RangeFuncNested
import Derived.RangeFuncBound
import Derived.RangeFuncCalls
import Derived.RangeFuncLeaves
import Derived.Shelf.Abstract
import Derived.OwnWalkIn
import Derived.TacticsInMore
import Derived.RowKit
import Derived.Test.YtgadpmddbkimfaaRows
import Derived.ProofKit
import Derived.SizedLaws
import Derived.ChangeMaps5
import Derived.Deep.Slices
import Derived.Deep.Fields
namespace Go.Proofs.Ytgadpmddbkimfaa.nn

/-- the value of n limbs of f at base B, the lowest first -/
def sm (B : Nat) (f : Nat → Nat) : Nat → Nat
  | 0 => 0
  | n + 1 => sm B f n + f n * B ^ n

/-- all limbs below B -/
def Lt (B : Nat) (f : Nat → Nat) (n : Nat) : Prop := ∀ i, i < n → f i < B

/-- trimmed: no zero limb at the end -/
def Trm (f : Nat → Nat) (n : Nat) : Prop := n = 0 ∨ f (n - 1) ≠ 0

/-- f with x at place k -/
def upd (f : Nat → Nat) (k x : Nat) : Nat → Nat := fun i => if i = k then x else f i

theorem upd_at (f : Nat → Nat) (k x : Nat) : upd f k x k = x := by simp [upd]
theorem upd_ne (f : Nat → Nat) {k x i : Nat} (h : i ≠ k) : upd f k x i = f i := by simp [upd, h]

theorem sm_congr (B : Nat) {f g : Nat → Nat} {n : Nat} (h : ∀ i, i < n → f i = g i) : sm B f n = sm B g n := by
  induction n with
  | zero => rfl
  | succ n ih => rw [sm, sm, ih (fun i hi => h i (by omega)), h n (by omega)]

theorem Lt.mono {B : Nat} {f : Nat → Nat} {n m : Nat} (h : Lt B f n) (hm : m ≤ n) : Lt B f m := fun i hi => h i (by omega)

theorem Lt.upd {B : Nat} {f : Nat → Nat} {n k x : Nat} (h : Lt B f n) (hx : x < B) : Lt B (upd f k x) n := fun i hi => by
  by_cases e : i = k
  · subst e; rw [upd_at]; exact hx
  · rw [upd_ne f e]; exact h i hi

theorem sm_upd_out (B : Nat) (f : Nat → Nat) {n k : Nat} (x : Nat) (h : n ≤ k) : sm B (upd f k x) n = sm B f n :=
  sm_congr B fun i hi => upd_ne f (by omega)

theorem sm_snoc (B : Nat) (f : Nat → Nat) (n x : Nat) : sm B (upd f n x) (n + 1) = sm B f n + x * B ^ n := by
  rw [sm, sm_upd_out B f x (Nat.le_refl n), upd_at]

/-- the value from place k on -/
theorem sm_split (B : Nat) (f : Nat → Nat) (k m : Nat) : sm B f (k + m) = sm B f k + sm B (fun i => f (k + i)) m * B ^ k := by
  induction m with
  | zero => simp [sm]
  | succ m ih =>
    rw [← Nat.add_assoc, sm, ih, sm, Nat.add_mul, Nat.pow_add, Nat.mul_assoc, Nat.mul_comm (B ^ m) (B ^ k)]
    omega

end Go.Proofs.Ytgadpmddbkimfaa.nn
namespace Go.Proofs.Ytgadpmddbkimfaa.nn
open Go.RowKit

/-- the slice at address A reads as n integers f 0 .. f (n - 1) of kind k, in a block that is there -/
def Rd (w : World) (k : IntKind) (A : Option Addr) (n : Nat) (f : Nat → Nat) : Prop :=
  0 < n → ∃ b off, A = some ⟨b, off, none⟩ ∧ b < w.heap.size ∧ ∀ i, i < n → w.cell? ⟨b, off + i, none⟩ = some (.int k (f i : Int))

section
variable {w w' : World} {k : IntKind} {A : Option Addr} {n m : Nat} {f g : Nat → Nat}

theorem Rd.keep (h : Rd w k A n f) (hs : w.heap.size ≤ w'.heap.size) (hk : ∀ b o, b < w.heap.size → w'.cell? ⟨b, o, none⟩ = w.cell? ⟨b, o, none⟩) : Rd w' k A n f := fun hn => by
  obtain ⟨b, off, e, hb, hc⟩ := h hn
  exact ⟨b, off, e, by omega, fun i hi => (hk b _ hb).trans (hc i hi)⟩
theorem Rd.below (h : Rd w k A n f) (hb : Below w.heap.size w w') : Rd w' k A n f :=
  h.keep hb.size fun b o hlt => hb.cell (p := ⟨b, o, none⟩) hlt
theorem Rd.drew (h : Rd w k A n f) : Rd w.drew k A n f := h
theorem Rd.drewN (h : Rd w k A n f) (j : Nat) : Rd (w.drewN j) k A n f := h
theorem Rd.alloc (h : Rd w k A n f) (o : Obj) : Rd (w.alloc o) k A n f :=
  h.keep (by simp) fun _ _ hlt => World.cell?_alloc_lt w o _ hlt
theorem Rd.mono (h : Rd w k A n f) (hm : m ≤ n) : Rd w k A m f := fun h0 => by
  obtain ⟨b, off, e, hb, hc⟩ := h (by omega)
  exact ⟨b, off, e, hb, fun i hi => hc i (by omega)⟩
theorem Rd.congr (h : Rd w k A n f) (e : ∀ i, i < n → f i = g i) : Rd w k A n g := fun h0 => by
  obtain ⟨b, off, ea, hb, hc⟩ := h h0
  exact ⟨b, off, ea, hb, fun i hi => by rw [← e i hi]; exact hc i hi⟩
theorem Rd.lt {b o : Nat} (h : Rd w k A n f) (e : A = some ⟨b, o, none⟩) (h0 : 0 < n) : b < w.heap.size := by
  obtain ⟨b', o', e', hb, _⟩ := h h0
  rw [e] at e'
  injection e' with e'
  injection e' with e'
  omega
theorem Rd.none_ : Rd w k A 0 f := fun h => absurd h (by omega)

/-- the limbs as a list of values -/
def vl (k : IntKind) (f : Nat → Nat) (n : Nat) : List Value := (List.range n).map fun i => .int k (f i : Int)

theorem vl_length (k : IntKind) (f : Nat → Nat) (n : Nat) : (vl k f n).length = n := by simp [vl]
theorem vl_at (k : IntKind) (f : Nat → Nat) {n i : Nat} (h : i < n) : (vl k f n)[i]? = some (.int k (f i : Int)) := by simp [vl, h]
theorem vl_congr (k : IntKind) {n : Nat} (e : ∀ i, i < n → f i = g i) : vl k f n = vl k g n :=
  List.map_congr_left fun i hi => by rw [e i (List.mem_range.1 hi)]
theorem vl_one (k : IntKind) (f : Nat → Nat) (n : Nat) : ∀ u ∈ vl k f n, u.oneCell' = true := by
  intro u hu
  obtain ⟨i, _, rfl⟩ := List.mem_map.1 hu
  rfl
theorem vl_append (k : IntKind) (f g : Nat → Nat) (n m : Nat) : vl k f n ++ vl k g m = vl k (fun i => if i < n then f i else g (i - n)) (n + m) := by
  induction m with
  | zero =>
    simp only [vl, List.range_zero, List.map_nil, List.append_nil, Nat.add_zero]
    exact List.map_congr_left fun i hi => by rw [if_pos (List.mem_range.1 hi)]
  | succ m ih =>
    have e1 : vl k g (m + 1) = vl k g m ++ [.int k (g m : Int)] := by simp [vl, List.range_succ]
    have e2 : vl k (fun i => if i < n then f i else g (i - n)) (n + (m + 1)) = vl k (fun i => if i < n then f i else g (i - n)) (n + m) ++ [.int k (g m : Int)] := by
      simp only [vl, ← Nat.add_assoc, List.range_succ, List.map_append, List.map_cons, List.map_nil]
      rw [if_neg (by omega), Nat.add_sub_cancel_left]
    rw [e1, e2, ← ih, List.append_assoc]

/-- what the call owns reads as its limbs -/
theorem Rd.of_own {base : Nat} {e : TypeId} {v : Value} (h : w.ownsRow base e 1 v n (vl k f n)) : ∃ A c, v = .slice A n c ∧ n ≤ c ∧ c ≤ maxLen ∧ Rd w k A n f := by
  have hh := h
  rcases h.2 with ⟨rfl, rfl⟩ | ⟨b, cap, cur, rfl, _, hb, hc, hm, _⟩
  · exact ⟨none, 0, rfl, Nat.le_refl _, by simp [maxLen], Rd.none_⟩
  · refine ⟨_, cap, rfl, hc, hm, fun _ => ⟨b, 0, rfl, (Array.getElem?_eq_some_iff.1 hb).1, fun i hi => ?_⟩⟩
    rw [Nat.zero_add, hh.cellAt i (by omega)]
    exact vl_at k f hi

end

end Go.Proofs.Ytgadpmddbkimfaa.nn
namespace Go.Proofs.Ytgadpmddbkimfaa.nn
open Go.RowKit

/-- n limbs of f, then h's -/
def jn (f : Nat → Nat) (n : Nat) (h : Nat → Nat) : Nat → Nat := fun i => if i < n then f i else h (i - n)
theorem jn_lo (f h : Nat → Nat) {n i : Nat} (hi : i < n) : jn f n h i = f i := by simp [jn, hi]
theorem jn_hi (f h : Nat → Nat) (n i : Nat) : jn f n h (n + i) = h i := by
  rw [jn, if_neg (by omega), Nat.add_sub_cancel_left]
theorem sm_jn (B : Nat) (f h : Nat → Nat) (n m : Nat) : sm B (jn f n h) (n + m) = sm B f n + sm B h m * B ^ n := by
  rw [sm_split, sm_congr B (f := jn f n h) (g := f) (fun i hi => jn_lo f h hi), sm_congr B (f := fun i => jn f n h (n + i)) (g := h) (fun i _ => jn_hi f h n i)]
theorem Lt.jn {B : Nat} {f h : Nat → Nat} {n m : Nat} (lf : Lt B f n) (lh : Lt B h m) : Lt B (nn.jn f n h) (n + m) := fun i hi => by
  by_cases e : i < n
  · rw [jn_lo f h e]; exact lf i e
  · have := jn_hi f h n (i - n)
    rw [show n + (i - n) = i from by omega] at this
    rw [this]; exact lh _ (by omega)

/-- a new block of one cell -/
theorem rd_one (w : World) (K : IntKind) (x : Nat) (e : TypeId) : Rd (w.alloc (.cells #[.int K (x : Int)] e)) K (some ⟨w.heap.size, 0, none⟩) 1 (fun _ => x) := fun _ =>
  ⟨w.heap.size, 0, rfl, by simp, fun i hi => by
    obtain rfl : i = 0 := by omega
    rw [World.cell?_alloc_at _ _ _ _ rfl]; rfl⟩

section
variable {P : Program} {w : World}

theorem run_app (base : Nat) (t ty e : TypeId) (i : TypeInfo) (z : Value) (bytes : Nat) (ht : P.underlying t = some (.slice e)) (hi : P.info? e = some i) (hz : i.zero = some z)
    (hsize : i.size = 1) (hby : i.bytes = bytes) (hzs : z.cells.size = 1)
    (K : IntKind) (v : Value) (n : Nat) (f : Nat → Nat) (hown : w.ownsRow base e 1 v n (vl K f n))
    (A : Option Addr) (m c : Nat) (h : Nat → Nat) (hr : Rd w K A m h) (h63 : n + m ≤ maxLen) (hbytes : (n + m) * bytes ≤ 140737488355328) (hbase : base ≤ w.heap.size) :
    ∃ v' w', (Builtin.append_ #[t, t] ty #[v, .slice A m c]).run P w = .ok v' w' ∧ w'.ownsRow base e 1 v' (n + m) (vl K (jn f n h) (n + m)) ∧ Below base w w' := by
  have hb0 : ∀ w' : World, w.grownBy w' v.ownBlock → Below base w w' := fun w' hg => (Below.refl base w).grown hg hbase (fun k hk => (hown.lt k hk).1)
  rcases A with _ | ad
  · have hm : m = 0 := by
      rcases Nat.eq_zero_or_pos m with h0 | h0
      · exact h0
      · obtain ⟨b, off, e, _⟩ := hr h0
        cases e
    subst hm
    have e1 : vl K (jn f n h) (n + 0) = vl K f n := vl_congr K fun i hi => jn_lo f h hi
    refine ⟨v, w, ?_, by rw [e1]; exact hown, Below.refl _ _⟩
    rcases hown.2 with ⟨rfl, rfl⟩ | ⟨g, cap, cur, rfl, _, _, hnc, _⟩
    · simp [Builtin.append_, run_underlying ht, sizeOf, typeInfo, hi, Builtin.lenOf, Builtin.firstCells]
    · simp [Builtin.append_, run_underlying ht, sizeOf, typeInfo, hi, Builtin.lenOf, Builtin.firstCells, hnc, storeCells]
  · have hcells : ∀ j u, (vl K h m)[j]? = some u → w.cell? (ad.add j) = some u := by
      intro j u hu
      have hj : j < m := by
        have := (List.getElem?_eq_some_iff.1 hu).1
        rwa [vl_length] at this
      obtain ⟨b, off, e1, _, hc⟩ := hr (by omega)
      injection e1 with e1
      subst e1
      rw [vl_at K h hj] at hu
      injection hu with hu
      subst hu
      have hadd : (⟨b, off, none⟩ : Addr).add j = ⟨b, off + j, none⟩ := by unfold Addr.add; split <;> simp_all
      rw [hadd]
      exact hc j hj
    obtain ⟨v', w', hrun, h2, h3, _⟩ := run_append_own_at (P := P) w base t ty e i z 1 bytes ht hi hz hsize hby hzs (by omega) v n _ hown ad m c (vl K h m) (by rw [vl_length, Nat.mul_one]) hcells (vl_one K h m) h63 hbytes hbase
    exact ⟨v', w', hrun, by rw [vl_append] at h2; exact h2, hb0 w' h3⟩

theorem wp_app {o : Oper} {a : Act} {R : Act → World → Prop} {Q : Exit → Act → World → Prop} (s x : Operand) (t : TypeId)
    (ho : o.op = .call { callee := .builtin .append, args := #[s, x], argTypes := #[t, t] })
    (base : Nat) (e : TypeId) (i : TypeInfo) (z : Value) (bytes : Nat) (ht : P.underlying t = some (.slice e)) (hi : P.info? e = some i) (hz : i.zero = some z)
    (hsize : i.size = 1) (hby : i.bytes = bytes) (hzs : z.cells.size = 1)
    (K : IntKind) (v : Value) (n : Nat) (f : Nat → Nat) (hs : a.eval s = v) (hown : w.ownsRow base e 1 v n (vl K f n))
    (A : Option Addr) (m c : Nat) (h : Nat → Nat) (hx : a.eval x = .slice A m c) (hr : Rd w K A m h) (h63 : n + m ≤ maxLen) (hbytes : (n + m) * bytes ≤ 140737488355328) (hbase : base ≤ w.heap.size)
    (k : ∀ v' w', w'.ownsRow base e 1 v' (n + m) (vl K (jn f n h) (n + m)) → Below base w w' → R (a.put o.dst v') w') : o.wp P a w R Q := by
  obtain ⟨v', w', hrun, h2, h3⟩ := run_app (P := P) base t o.type e i z bytes ht hi hz hsize hby hzs K v n f hown A m c h hr h63 hbytes hbase
  unfold Oper.wp execOp
  simp only [ho, resolve, invoke, builtin, Sem.run_bind, Sem.run_pure, Result.andThen_ok, List.map_toArray, List.map_cons, List.map_nil, hs, hx, hrun]
  exact k v' w' h2 h3

theorem wpList_app {ops : Array Oper} {rest : List Oper} {o : Oper} {a : Act} {Q : Exit → Act → World → Prop} (hgd : o.guard = none) (s x : Operand) (t : TypeId)
    (ho : o.op = .call { callee := .builtin .append, args := #[s, x], argTypes := #[t, t] })
    (base : Nat) (e : TypeId) (i : TypeInfo) (z : Value) (bytes : Nat) (ht : P.underlying t = some (.slice e)) (hi : P.info? e = some i) (hz : i.zero = some z)
    (hsize : i.size = 1) (hby : i.bytes = bytes) (hzs : z.cells.size = 1)
    (K : IntKind) (v : Value) (n : Nat) (f : Nat → Nat) (hs : a.eval s = v) (hown : w.ownsRow base e 1 v n (vl K f n))
    (A : Option Addr) (m c : Nat) (h : Nat → Nat) (hx : a.eval x = .slice A m c) (hr : Rd w K A m h) (h63 : n + m ≤ maxLen) (hbytes : (n + m) * bytes ≤ 140737488355328) (hbase : base ≤ w.heap.size)
    (k : ∀ v' w', w'.ownsRow base e 1 v' (n + m) (vl K (jn f n h) (n + m)) → Below base w w' → wpList P ops Q rest (a.put o.dst v') w') : wpList P ops Q (o :: rest) a w :=
  wpList_plain hgd fun _ hK => wp_app s x t ho base e i z bytes ht hi hz hsize hby hzs K v n f hs hown A m c h hx hr h63 hbytes hbase fun v' w' h2 h3 => hK _ _ (k v' w' h2 h3)

end
end Go.Proofs.Ytgadpmddbkimfaa.nn
namespace Go.Proofs.Ytgadpmddbkimfaa.nn

/-- byte i of a text -/
def bt (s : ByteArray) (i : Nat) : Nat := if h : i < s.size then s[i].toNat else 0
theorem bt_at {s : ByteArray} {i : Nat} (h : i < s.size) : bt s i = s[i].toNat := dif_pos h
theorem bt_lt (s : ByteArray) (i : Nat) : bt s i < 256 := by
  unfold bt
  split
  · exact s[i].toNat_lt
  · omega
end Go.Proofs.Ytgadpmddbkimfaa.nn
namespace Go.Proofs.Ytgadpmddbkimfaa.nn
open Go.RowKit

/-- the text of n bytes f -/
def pc (f : Nat → Nat) (n : Nat) : ByteArray := strOfNums ((List.range n).map fun i => (f i : Int))
/-- a text made of a slice of bytes, nil or not -/
theorem conv_row (A : Option Addr) (n c : Nat) (f : Nat → Nat) (w : World) (h : Rd w .u8 A n f) :
    (convert 26 9 (.slice A n c)).run Try.prog w = .ok (.string (pc f n)) w := by
  by_cases h0 : 0 < n
  · obtain ⟨b, off, rfl, _, hc⟩ := h h0
    exact run_convert_bytes_arg w 26 5 Try.underlying26 Try.underlying5 b off n c _ (by simp) (fun i hi => by
      rw [hc i hi]
      simp [hi]) 9 Try.underlying9
  · obtain rfl : n = 0 := by omega
    have e : pc f 0 = ByteArray.empty := rfl
    rw [e]
    cases A with
    | none => exact run_convert_bytes_nil w 26 5 Try.underlying26 Try.underlying5 0 c 9 Try.underlying9
    | some a =>
      rw [run_convert_bytes_string w 26 9 5 (some a) 0 c Try.underlying26 Try.underlying5 Try.underlying9]
      exact run_bytesToString w a 0 c [] (run_loadCells_list (P := Try.prog) w a [] (fun j v hv => by simp at hv))
end Go.Proofs.Ytgadpmddbkimfaa.nn
namespace Go.Proofs.Ytgadpmddbkimfaa.nn
open Go.RowKit

def gL (L : List UInt8) : Nat → Nat := fun i => (L.getD i 0).toNat
section
variable {i : Nat} {L M : List UInt8}
theorem gL_left (h : i < L.length) : gL (L ++ M) i = gL L i := by
  unfold gL
  simp [List.getD, List.getElem?_append_left h]
theorem gL_right : gL (L ++ M) (L.length + i) = gL M i := by
  unfold gL
  simp [List.getD, List.getElem?_append_right]
theorem gL_at (h : i < L.length) : gL L i = (L[i]).toNat := by unfold gL; rw [List.getD_eq_getElem?_getD, List.getElem?_eq_getElem h]; rfl
theorem bc_vl (L : List UInt8) : Lib.byteCells L = vl .u8 (gL L) L.length := by
  apply List.ext_getElem?
  intro i
  by_cases h : i < L.length
  · rw [vl_at .u8 _ h, gL_at h]
    unfold Lib.byteCells
    rw [List.getElem?_map, List.getElem?_eq_getElem h]
    rfl
  · rw [List.getElem?_eq_none (by rw [Lib.byteCells_length]; omega), List.getElem?_eq_none (by rw [vl_length]; omega)]
theorem jn_list (L M : List UInt8) : ∀ i, i < L.length + M.length → jn (gL L) L.length (gL M) i = gL (L ++ M) i := fun i hi => by
  by_cases h : i < L.length
  · rw [jn_lo _ _ h, gL_left h]
  · obtain ⟨j, rfl⟩ : ∃ j, i = L.length + j := ⟨i - L.length, by omega⟩
    rw [jn_hi, gL_right]
theorem pc_list (L : List UInt8) : pc (gL L) L.length = ⟨L.toArray⟩ := by
  unfold pc strOfNums
  congr 2
  apply List.ext_getElem
  · simp
  · intro j h1 h2
    simp only [List.getElem_map, List.getElem_range]
    rw [gL_at h2]
    show UInt8.ofNat (L[j]).toNat = _
    exact UInt8.ofNat_toNat
/-- what the call owns reads as its bytes -/
theorem rd_list {w : World} {base : Nat} {e : TypeId} {v : Value} {n : Nat} (hn : n = L.length) (h : w.ownsRow base e 1 v n (Lib.byteCells L)) : ∃ A c, v = .slice A n c ∧ n ≤ c ∧ c ≤ maxLen ∧ Rd w .u8 A n (gL L) := by
  subst hn
  rw [bc_vl] at h
  exact Rd.of_own h
/-- what the call owns it owns behind a call that only makes memory -/
theorem own_below {w w' : World} {base : Nat} {e : TypeId} {size n : Nat} {v : Value} {xs : List Value} (h : w.ownsRow base e size v n xs) (hb : Below w.heap.size w w') : w'.ownsRow base e size v n xs :=
  h.kept (row := none) ⟨hb.os, hb.tape, hb.output, hb.size, fun k hk _ => hb.block k hk⟩ (by
    cases hv : v.ownBlock with
    | none => exact .inl rfl
    | some k => exact .inr (by simp))
end

section
variable {P : Program} {w : World}
theorem wpList_appB {ops : Array Oper} {rest : List Oper} {o : Oper} {a : Act} {Q : Exit → Act → World → Prop} (hgd : o.guard = none) (s x : Operand) (t : TypeId)
    (ho : o.op = .call { callee := .builtin .append, args := #[s, x], argTypes := #[t, t] })
    (base : Nat) (e : TypeId) (i : TypeInfo) (z : Value) (ht : P.underlying t = some (.slice e)) (hi : P.info? e = some i) (hz : i.zero = some z)
    (hsize : i.size = 1) (hby : i.bytes = 1) (hzs : z.cells.size = 1)
    (v : Value) (n : Nat) (L : List UInt8) (hn : n = L.length) (hs : a.eval s = v) (hown : w.ownsRow base e 1 v n (Lib.byteCells L))
    (A : Option Addr) (m c : Nat) (M : List UInt8) (hm : m = M.length) (hx : a.eval x = .slice A m c) (hr : Rd w .u8 A m (gL M)) (hle : n + m ≤ 140737488355328) (hbase : base ≤ w.heap.size)
    (k : ∀ v' w', w'.ownsRow base e 1 v' (n + m) (Lib.byteCells (L ++ M)) → Below base w w' → wpList P ops Q rest (a.put o.dst v') w') : wpList P ops Q (o :: rest) a w := by
  subst hn hm
  rw [bc_vl] at hown
  refine wpList_app hgd s x t ho base e i z 1 ht hi hz hsize hby hzs .u8 v L.length (gL L) hs hown A M.length c (gL M) hx hr (by unfold maxLen; omega) (by omega) hbase fun v' w' h1 h2 => k v' w' ?_ h2
  rw [bc_vl, vl_congr .u8 (fun i hi => (jn_list L M i (by rw [List.length_append] at hi; exact hi)).symm), List.length_append]
  exact h1
theorem wpList_appS {ops : Array Oper} {rest : List Oper} {o : Oper} {a : Act} {Q : Exit → Act → World → Prop} (hgd : o.guard = none) (s x : Operand) (t u : TypeId)
    (ho : o.op = .call { callee := .builtin .append, args := #[s, x], argTypes := #[t, u] })
    (base : Nat) (e : TypeId) (i : TypeInfo) (ht : P.underlying t = some (.slice e)) (hu : P.underlying u = some .string) (hi : P.info? e = some i) (hz : i.zero = some (.int .u8 0))
    (hsize : i.size = 1) (hby : i.bytes = 1)
    (v : Value) (n : Nat) (L : List UInt8) (hs : a.eval s = v) (hown : w.ownsRow base e 1 v n (Lib.byteCells L)) (T : ByteArray) (hx : a.eval x = .string T)
    (hle : n + T.size ≤ 140737488355328) (hbase : base ≤ w.heap.size)
    (k : ∀ v' w', w'.ownsRow base e 1 v' (n + T.size) (Lib.byteCells (L ++ T.data.toList)) → Below base w w' → wpList P ops Q rest (a.put o.dst v') w') : wpList P ops Q (o :: rest) a w := by
  refine Lib.wpList_append_own_string w hgd s x t u ho base e i ht hu hi hz hsize hby v n _ hs hown T hx (by unfold maxLen; omega) hle hbase fun v' w' h1 h2 _ => k v' w' ?_ ((Below.refl base w).grown h2 hbase (fun k hk => (hown.lt k hk).1))
  rw [Lib.byteCells_append, ← Lib.strCells_eq]
  exact h1
end
end Go.Proofs.Ytgadpmddbkimfaa.nn
namespace Go.Proofs.Ytgadpmddbkimfaa.nn
open Go.RowKit

/-- a tree of values -/
inductive VT where
  | mk (k : Int) (g : Bool) (n : Nat) (s : ByteArray) (l : List VT)
def VT.k : VT → Int | .mk k _ _ _ _ => k
def VT.g : VT → Bool | .mk _ g _ _ _ => g
def VT.n : VT → Nat | .mk _ _ n _ _ => n
def VT.s : VT → ByteArray | .mk _ _ _ s _ => s
def VT.l : VT → List VT | .mk _ _ _ _ l => l

mutual
/-- values and letters -/
def blk : VT → Nat | .mk _ _ _ s l => s.size + blkL l + 5
def blkL : List VT → Nat | [] => 1 | t :: r => blk t + blkL r
end
theorem blk_mk (t : VT) : blk t = t.s.size + blkL t.l + 5 := by cases t; rfl
mutual
/-- numbers within their kinds -/
def wfT : VT → Prop | .mk k _ n _ l => -9223372036854775808 ≤ k ∧ k ≤ 9223372036854775807 ∧ n < 18446744073709551616 ∧ wfL l
def wfL : List VT → Prop | [] => True | t :: r => wfT t ∧ wfL r
end
theorem wfT_mk (t : VT) : wfT t ↔ -9223372036854775808 ≤ t.k ∧ t.k ≤ 9223372036854775807 ∧ t.n < 18446744073709551616 ∧ wfL t.l := by cases t; rfl
mutual
/-- how many values -/
def cnt : VT → Nat | .mk _ _ _ _ l => cntL l + 1
def cntL : List VT → Nat | [] => 0 | t :: r => cnt t + cntL r
end
theorem cnt_mk (t : VT) : cnt t = cntL t.l + 1 := by cases t; rfl
theorem cntL_app (a b : List VT) : cntL (a ++ b) = cntL a + cntL b := by
  induction a with
  | nil => simp [cntL]
  | cons t r ih => simp only [List.cons_append, cntL, ih]; omega
theorem cntL_take_succ {l : List VT} {i : Nat} (h : i < l.length) : cntL (l.take (i + 1)) = cntL (l.take i) + cnt l[i] := by
  rw [List.take_succ_eq_append_getElem h, cntL_app]
  simp [cntL]
theorem cnt_at {l : List VT} {i : Nat} (h : i < l.length) : cnt l[i] ≤ cntL l := by
  have h1 := cntL_take_succ h
  have h2 := cntL_app (l.take (i + 1)) (l.drop (i + 1))
  rw [List.take_append_drop] at h2
  omega
theorem cntL_take_le (l : List VT) (i : Nat) : cntL (l.take i) ≤ cntL l := by
  have h2 := cntL_app (l.take i) (l.drop i)
  rw [List.take_append_drop] at h2
  omega
mutual
theorem cnt_blk : ∀ t : VT, cnt t ≤ blk t
  | .mk _ _ _ s l => by have := cntL_blkL l; simp only [cnt, blk]; omega
theorem cntL_blkL : ∀ l : List VT, cntL l ≤ blkL l
  | [] => by simp [cntL]
  | t :: r => by have h1 := cnt_blk t; have h2 := cntL_blkL r; simp only [cntL, blkL]; omega
end
theorem len_cntL (l : List VT) : l.length ≤ cntL l := by
  induction l with
  | nil => simp [cntL]
  | cons t r ih => have := cnt_mk t; simp only [List.length_cons, cntL]; omega

/-- the five cells of a value, from a place on; C: the slice of those within it -/
structure Row (w : World) (b o : Nat) (t : VT) (C : Value) : Prop where
  k : w.cell? ⟨b, o, none⟩ = some (.int .i64 t.k)
  g : w.cell? ⟨b, o + 1, none⟩ = some (.bool t.g)
  n : w.cell? ⟨b, o + 2, none⟩ = some (.int .u64 (t.n : Int))
  s : w.cell? ⟨b, o + 3, none⟩ = some (.string t.s)
  l : w.cell? ⟨b, o + 4, none⟩ = some C
/-- a slice holds a list of trees -/
inductive Lst (w : World) : Value → List VT → Prop where
  | nil_ {A : Option Addr} {c : Nat} : Lst w (.slice A 0 c) []
  | at_ {b off m c : Nat} {C : Nat → Value} {l : List VT} (hl : l.length = m) (hc : m ≤ c) (hb : b < w.heap.size) (hr : ∀ i (h : i < l.length), Row w b (off + i * 5) l[i] (C i)) (hk : ∀ i (h : i < l.length), Lst w (C i) l[i].l) : Lst w (.slice (some ⟨b, off, none⟩) m c) l
/-- a value that is handed over -/
def vv (t : VT) (C : Value) : Value := .agg #[.int .i64 t.k, .bool t.g, .int .u64 (t.n : Int), .string t.s, C]

theorem Row.below {w w' : World} {B b o : Nat} {t : VT} {C : Value} (h : Row w b o t C) (hB : Below B w w') (hb : b < B) : Row w' b o t C :=
  ⟨(hB.cell (p := ⟨b, o, none⟩) hb).trans h.k, (hB.cell (p := ⟨b, o + 1, none⟩) hb).trans h.g, (hB.cell (p := ⟨b, o + 2, none⟩) hb).trans h.n, (hB.cell (p := ⟨b, o + 3, none⟩) hb).trans h.s, (hB.cell (p := ⟨b, o + 4, none⟩) hb).trans h.l⟩
theorem Lst.keep {w w' : World} {v : Value} {l : List VT} (h : Lst w v l) : ∀ {B : Nat}, Below B w w' → w.heap.size ≤ B → Lst w' v l := by
  induction h with
  | nil_ => intro B _ _; exact .nil_
  | at_ hl hc hb hr hk ih =>
    intro B hB hs
    exact .at_ hl hc (Nat.lt_of_lt_of_le hb hB.size) (fun i h => (hr i h).below hB (Nat.lt_of_lt_of_le hb hs)) (fun i h => ih i h hB hs)
/-- a slice of trees: its address, its length -/
theorem Lst.out {w : World} {v : Value} {l : List VT} (h : Lst w v l) : ∃ (A : Option Addr) (c : Nat), v = .slice A l.length c ∧ l.length ≤ c ∧ ((True ∧ l = [] ∧ True) ∨ ∃ (b off : Nat) (C : Nat → Value), A = some ⟨b, off, none⟩ ∧ b < w.heap.size ∧ (∀ i (h : i < l.length), Row w b (off + i * 5) l[i] (C i)) ∧ ∀ i (h : i < l.length), Lst w (C i) l[i].l) := by
  cases h with
  | nil_ => exact ⟨_, _, rfl, Nat.zero_le _, .inl ⟨trivial, rfl, trivial⟩⟩
  | at_ hl hc hb hr hk =>
    subst hl
    exact ⟨_, _, rfl, hc, .inr ⟨_, _, _, rfl, hb, hr, hk⟩⟩
/-- a world behind: what was there is there; a value that was handed over lies in the first new block -/
structure Box (w : World) (t : VT) (C : Value) (W : World) : Prop where
  b : Below w.heap.size w W
  z : w.heap.size < W.heap.size
  r : Row W w.heap.size 0 t C
theorem Box.new (w : World) (t : VT) (C : Value) (T : TypeId) : Box w t C (w.alloc (.cells #[.int .i64 t.k, .bool t.g, .int .u64 (t.n : Int), .string t.s, C] T)) :=
  ⟨(Below.refl _ _).alloc (Nat.le_refl _) _, by simp, ⟨by simp, by simp, by simp, by simp, by simp⟩⟩
theorem Box.on {w W W' : World} {t : VT} {C : Value} (h : Box w t C W) (hB : Below W.heap.size W W') : Box w t C W' :=
  ⟨h.b.trans (hB.mono (Nat.le_of_lt h.z)), Nat.lt_of_lt_of_le h.z hB.size, h.r.below hB h.z⟩
theorem Box.low {w W W' : World} {t : VT} {C : Value} (h : Box w t C W) (hB : Below (w.heap.size + 1) W W') : Box w t C W' :=
  ⟨h.b.trans (hB.mono (Nat.le_succ _)), Nat.lt_of_lt_of_le h.z hB.size, h.r.below hB (Nat.lt_succ_self _)⟩
theorem Box.drew {w W : World} {t : VT} {C : Value} (h : Box w t C W) : Box w t C W.drew := h.on (Below.drew (Below.refl _ _))
/-- likewise of two values that were handed over -/
structure Box2 (w : World) (t : VT) (C : Value) (u : VT) (D : Value) (W : World) : Prop where
  b : Below w.heap.size w W
  z : w.heap.size + 1 < W.heap.size
  r : Row W w.heap.size 0 t C
  r2 : Row W (w.heap.size + 1) 0 u D
theorem Box2.new (w : World) (t : VT) (C : Value) (u : VT) (D : Value) (T : TypeId) : Box2 w t C u D ((w.alloc (.cells #[.int .i64 t.k, .bool t.g, .int .u64 (t.n : Int), .string t.s, C] T)).alloc (.cells #[.int .i64 u.k, .bool u.g, .int .u64 (u.n : Int), .string u.s, D] T)) := by
  have h := Box.new w t C T
  have h2 := Box.new (w.alloc (.cells #[.int .i64 t.k, .bool t.g, .int .u64 (t.n : Int), .string t.s, C] T)) u D T
  have hz : (w.alloc (.cells #[.int .i64 t.k, .bool t.g, .int .u64 (t.n : Int), .string t.s, C] T)).heap.size = w.heap.size + 1 := by simp
  have h3 := h2.z
  have h4 := h2.r
  rw [hz] at h3 h4
  exact ⟨(h.on h2.b).b, h3, (h.on h2.b).r, h4⟩
theorem Box2.on {w W W' : World} {t u : VT} {C D : Value} (h : Box2 w t C u D W) (hB : Below W.heap.size W W') : Box2 w t C u D W' :=
  ⟨h.b.trans (hB.mono (by have := h.z; omega)), Nat.lt_of_lt_of_le h.z hB.size, h.r.below hB (by have := h.z; omega), h.r2.below hB h.z⟩
theorem Box2.drew {w W : World} {t u : VT} {C D : Value} (h : Box2 w t C u D W) : Box2 w t C u D W.drew := h.on (Below.drew (Below.refl _ _))
end Go.Proofs.Ytgadpmddbkimfaa.nn
namespace Go.Proofs.Ytgadpmddbkimfaa.nn
open Go.RowKit

/-- is a value of this kind one without others -/
def lf (k : Int) : Bool := decide (k ≠ 11 ∧ k ≠ 12 ∧ k ≠ 13)
mutual
/-- how deep -/
def dep : VT → Nat | .mk k _ _ _ l => if k = 5 then 1 else if lf k then 0 else depL l + 1
def depL : List VT → Nat | [] => 0 | t :: r => max (dep t) (depL r)
end
theorem dep_mk (t : VT) : dep t = if t.k = 5 then 1 else if lf t.k then 0 else depL t.l + 1 := by cases t; rfl
theorem depL_app (a b : List VT) : depL (a ++ b) = max (depL a) (depL b) := by
  induction a with
  | nil => simp [depL]
  | cons t r ih => simp only [List.cons_append, depL, ih]; omega
theorem depL_take_succ {l : List VT} {i : Nat} (h : i < l.length) : depL (l.take (i + 1)) = max (depL (l.take i)) (dep l[i]) := by
  rw [List.take_succ_eq_append_getElem h, depL_app]
  simp [depL]
theorem neInt {c k : Int} (h : c ≠ k) : (c == k) = false ∧ (c != k) = true := ⟨by simp [h], by simp [h]⟩
theorem depL_le (N : Nat) : ∀ l : List VT, cntL l ≤ N → depL l ≤ N := by
  induction N with
  | zero =>
    intro l h
    cases l with
    | nil => exact Nat.le_refl _
    | cons t r => have := cnt_mk t; simp only [cntL] at h; omega
  | succ N ih =>
    intro l
    induction l with
    | nil => intro _; exact Nat.zero_le _
    | cons t r ihr =>
      intro h
      have h1 := cnt_mk t
      simp only [cntL] at h
      have h2 := ihr (by omega)
      have h3 := dep_mk t
      have h4 := ih t.l (by omega)
      simp only [depL]
      have : dep t ≤ N + 1 := by
        rw [h3]
        split
        · omega
        · split
          · omega
          · omega
      omega
theorem dep_le (t : VT) : dep t ≤ cnt t := by
  have h1 := dep_mk t
  have h2 := cnt_mk t
  have h3 := depL_le _ t.l (Nat.le_refl _)
  rw [h1]
  split
  · omega
  · split <;> omega
set_option maxRecDepth 100000 in
theorem rleaf_any (t : VT) (C : Value) (w : World) : Calls Try.prog 46 #[vv t C] w fun e w' => e = .returned (.bool (lf t.k)) ∧ Below w.heap.size w w' := by
  have HB0 := Lib.hid (Box.new w t C 25)
  unfold lf vv
  obtain ⟨k, hk⟩ : ∃ k, t.k = k := ⟨_, rfl⟩
  rw [hk] at HB0 ⊢
  clear hk
  by_cases h1 : k = 11
  · subst h1
    go_enter Try.func46, Try.ntmps46
    go_wp2_with fail
    go_ret
    exact ⟨rfl, HB0.out.b⟩
  · by_cases h2 : k = 12
    · subst h2
      go_enter Try.func46, Try.ntmps46
      go_wp2_with fail
      go_ret
      exact ⟨rfl, HB0.out.b⟩
    · obtain ⟨q1, q1'⟩ := neInt h1
      obtain ⟨q2, q2'⟩ := neInt h2
      by_cases h3 : k = 13
      · subst h3
        go_enter Try.func46, Try.ntmps46
        go_wp2_with fail
        go_ret
        exact ⟨rfl, HB0.out.b⟩
      · obtain ⟨q3, q3'⟩ := neInt h3
        rw [decide_eq_true (And.intro h1 (And.intro h2 h3))]
        clear h1 h2 h3
        go_enter Try.func46, Try.ntmps46
        go_wp2_with fail
        go_ret
        exact ⟨rfl, HB0.out.b⟩
set_option maxRecDepth 100000 in
set_option maxHeartbeats 1000000 in
theorem rdepth_any (N : Nat) : ∀ (t : VT) (C : Value) (w : World), cnt t ≤ N → N ≤ 4611686018427387904 → Lst w C t.l →
    Calls Try.prog 32 #[vv t C] w fun e w' => e = .returned (.int .i64 (dep t : Int)) ∧ Below w.heap.size w w' := by
  induction N with
  | zero => intro t C w h _ _; have := cnt_mk t; omega
  | succ N ih =>
    intro t C w hN hM hC
    have hdm := dep_mk t
    have hkk := @rleaf_any t C
    by_cases h5 : t.k = 5
    · rw [if_pos h5] at hdm
      have HB0 := Lib.hid (Box.new w t C 25)
      have HT := Lib.hid hdm
      rw [hdm]
      unfold vv
      rw [h5] at HB0 ⊢
      clear hdm hkk h5
      go_enter Try.func32, Try.ntmps32
      go_wp2_with fail
      go_ret
      exact ⟨rfl, HB0.out.b⟩
    · rw [if_neg h5] at hdm
      obtain ⟨q5, _⟩ := neInt h5
      by_cases hlf : lf t.k = true
      · rw [if_pos hlf] at hdm
        rw [hlf] at hkk
        have HB0 := Lib.hid (Box.new w t C 25)
        have HK := Lib.hid hkk
        rw [hdm]
        unfold vv at HK ⊢
        clear hdm hkk h5 hlf ih
        go_enter Try.func32, Try.ntmps32
        go_wp2_with fail
        refine (HK.out _).mono ?_
        rintro e w2 ⟨rfl, hb2⟩
        have hk2 := Lib.hid (HB0.out.on hb2)
        clear hb2
        go_wp2_with fail
        go_ret
        exact ⟨rfl, hk2.out.b⟩
      · have hlf2 : lf t.k = false := by simpa using hlf
        rw [if_neg hlf] at hdm
        rw [hlf2] at hkk
        have HK := Lib.hid hkk
        have HC := Lib.hid hC
        obtain ⟨A, c, rfl, hlc, hA⟩ := hC.out
        have hcm := cnt_mk t
        obtain ⟨l, hl⟩ : ∃ l, t.l = l := ⟨_, rfl⟩
        rw [hl] at hlc hA hcm HC hdm HK ⊢
        have hll := len_cntL l
        have hdl := depL_le N l (by omega)
        have HB0 := Lib.hid (Box.new w t (.slice A l.length c) 25)
        have HT := Lib.hid hdm
        unfold vv at HK ⊢
        clear hkk hlf hlf2 hdm h5
        go_enter Try.func32, Try.ntmps32
        go_wp2_with fail
        refine (HK.out _).mono ?_
        rintro e w2 ⟨rfl, hb2⟩
        have hk2 := Lib.hid (HB0.out.on hb2)
        clear hb2 q5
        go_wp2_with fail
        go_loopw [3, 4] (fun s3 s4 wr => ∃ i m : Nat, i ≤ l.length ∧ m ≤ N ∧ s3 = .int .i64 (m : Int) ∧ s4 = .int .i64 (i : Int) ∧ Hid (m = depL (l.take i)) ∧ Hid (Box w t (.slice A l.length c) wr)) (fun _ s4 _ => l.length - (intOf s4).toNat)
        case atStart => exact ⟨0, 0, Nat.zero_le _, by omega, rfl, rfl, Lib.hid rfl, hk2⟩
        case round =>
          obtain ⟨i, m, hi, hmN, rfl, rfl, hm, hk⟩ := hrel
          have h4 : wr.cell? ⟨w.heap.size, 4, none⟩ = some (.slice A l.length c) := hk.out.r.l
          by_cases hlt : i < l.length
          · rcases hA with ⟨_, h0, _⟩ | ⟨b, off, D, rfl, hb, hrow, hkid⟩
            · rw [h0] at hlt; exact absurd hlt (by simp)
            · obtain ⟨t', ht'⟩ : ∃ t', l[i] = t' := ⟨_, rfl⟩
              obtain ⟨C', hC'⟩ : ∃ C', D i = C' := ⟨_, rfl⟩
              have hr := hrow i hlt
              have hkl := hkid i hlt
              rw [ht', hC'] at hr hkl
              have hr2 := hr.below hk.out.b hb
              have r0 := hr2.k
              have r1 := hr2.g
              have r2 := hr2.n
              have r3 := hr2.s
              have r4 := hr2.l
              have hcn := cnt_at hlt
              rw [ht'] at hcn
              have hsum := depL_take_succ hlt
              rw [ht', ← hm.out] at hsum
              have hle := depL_le N (l.take (i + 1)) (Nat.le_trans (cntL_take_le l (i + 1)) (by omega))
              rw [hsum] at hle
              have HI := Lib.hid (ih t' C' wr (by omega) (by omega) (hkl.keep hk.out.b (Nat.le_refl _)))
              obtain ⟨k, hk'⟩ : ∃ k, dep t' = k := ⟨_, rfl⟩
              rw [hk'] at HI hsum hle
              have emax : max (m : Int) (k : Int) = ((max m k : Nat) : Int) := by omega
              obtain ⟨x, hx⟩ : ∃ x, max m k = x := ⟨_, rfl⟩
              rw [hx] at emax hsum hle
              have hm2 : Hid (x = depL (l.take (i + 1))) := Lib.hid hsum.symm
              have hkb : k ≤ x := by omega
              unfold vv at HI
              clear hr hr2 hkl hrow hkid ht' hC' hcn hsum hk' ih hx
              go_wp2_with fail
              refine HI.out.mono ?_
              rintro e w3 ⟨rfl, hb2⟩
              have hk2 := Lib.hid (hk.out.on hb2)
              clear hb2 r0 r1 r2 r3 r4 h4
              go_wp2_with fail
              go_roundw
              case rel => exact ⟨i + 1, x, hlt, hle, by go_num, by go_num, hm2, hk2⟩
              case measure => simp [intOf]; omega
          · obtain rfl : i = l.length := by omega
            have hmt : (m : Int) + 1 = (dep t : Int) := by rw [HT.out, hm.out, List.take_length]; simp
            have HT := Lib.hid hmt
            clear hmt
            go_wp2_with fail
            go_ret
            exact ⟨by rw [HT.out]; rfl, hk.out.b⟩
end Go.Proofs.Ytgadpmddbkimfaa.nn
namespace Go.Proofs.Ytgadpmddbkimfaa.nn
open Go.RowKit

/-- block g is just the cells cur of element type e, none frozen -/
def Bk (w : World) (g : Nat) (e : TypeId) (cur : Array Value) : Prop := w.heap[g]? = some (.cells cur e (0, 0))

/-- from place off on stand the limbs f -/
def Ints (cur : Array Value) (k : IntKind) (off n : Nat) (f : Nat → Nat) : Prop := ∀ i, i < n → cur[off + i]? = some (.int k (f i : Int))

/-- in block g, between off and off + n alone, something was written -/
structure Wrote (w w' : World) (g : Nat) (e : TypeId) (cur cur' : Array Value) (off n : Nat) : Prop where
  blk : Bk w' g e cur'
  size : cur'.size = cur.size
  out : ∀ i, i < off ∨ off + n ≤ i → cur'[i]? = cur[i]?
  grown : w.grownBy w' (some g)
  hsize : w'.heap.size = w.heap.size

section
variable {w w' w'' : World} {g : Nat} {e : TypeId} {cur cur' cur'' : Array Value} {off n m i : Nat} {k : IntKind} {f : Nat → Nat}

theorem Bk.lt (h : Bk w g e cur) : g < w.heap.size := (Array.getElem?_eq_some_iff.1 h).1
theorem Bk.cell (h : Bk w g e cur) (i : Nat) : w.cell? ⟨g, i, none⟩ = cur[i]? := cell_of_row w g i cur e (0, 0) h
theorem Bk.frozen (h : Bk w g e cur) (i : Nat) : w.frozen? ⟨g, i, none⟩ = false := by
  unfold Bk at h
  simp [World.frozen?, h]
theorem Bk.set_ (h : Bk w g e cur) (i : Nat) (u : Value) : Bk (w.setCell ⟨g, i, none⟩ u) g e (cur.setIfInBounds i u) := by
  unfold Bk at h ⊢
  simp [World.setCell, Array.getElem?_modify, h]
theorem Bk.drewN (h : Bk w g e cur) (j : Nat) : Bk (w.drewN j) g e cur := h
theorem Bk.below {B : Nat} (h : Bk w g e cur) (hb : Below B w w') (hg : g < B) : Bk w' g e cur := (hb.block g hg).trans h
theorem Bk.grown {row : Option Nat} (h : Bk w g e cur) (hb : w.grownBy w' row) (hg : some g ≠ row) : Bk w' g e cur := (hb.block g h.lt hg).trans h

theorem Ints.mono (h : Ints cur k off n f) (hm : m ≤ n) : Ints cur k off m f := fun i hi => h i (by omega)
theorem Ints.congr {f' : Nat → Nat} (h : Ints cur k off n f) (e : ∀ i, i < n → f i = f' i) : Ints cur k off n f' := fun i hi => by rw [← e i hi]; exact h i hi
theorem Ints.lt (h : Ints cur k off n f) (hi : i < n) : off + i < cur.size := (Array.getElem?_eq_some_iff.1 (h i hi)).1
theorem Ints.set_ (h : Ints cur k off n f) (i x : Nat) (hi : i < n) : Ints (cur.setIfInBounds (off + i) (.int k (x : Int))) k off n (upd f i x) := fun j hj => by
  rw [Array.getElem?_setIfInBounds]
  by_cases e : j = i
  · subst e; rw [if_pos rfl, if_pos (h.lt hi), upd_at]
  · rw [if_neg (by omega), upd_ne f e]; exact h j hj
theorem Wrote.refl (h : Bk w g e cur) (off n : Nat) : Wrote w w g e cur cur off n :=
  ⟨h, rfl, fun _ _ => rfl, ⟨rfl, rfl, rfl, Nat.le_refl _, fun _ _ _ => rfl⟩, rfl⟩
theorem Wrote.drewN (h : Wrote w w' g e cur cur' off n) (j : Nat) : Wrote w (w'.drewN j) g e cur cur' off n :=
  ⟨h.blk, h.size, h.out, ⟨h.grown.os, h.grown.tape, h.grown.output, h.grown.size, h.grown.block⟩, h.hsize⟩
theorem Wrote.set_ (h : Wrote w w' g e cur cur' off n) (i : Nat) (hi : i < n) (u : Value) : Wrote w (w'.setCell ⟨g, off + i, none⟩ u) g e cur (cur'.setIfInBounds (off + i) u) off n :=
  ⟨h.blk.set_ _ u, by rw [Array.size_setIfInBounds, h.size], fun j hj => by rw [Array.getElem?_setIfInBounds, if_neg (by omega)]; exact h.out j hj,
   ⟨h.grown.os, h.grown.tape, h.grown.output, by simpa [World.setCell] using h.grown.size, fun b hb hne => (Below.heap_setCell w' ⟨g, off + i, none⟩ u b (by rintro rfl; exact hne rfl)).trans (h.grown.block b hb hne)⟩,
   by simpa [World.setCell] using h.hsize⟩
theorem Wrote.trans (h : Wrote w w' g e cur cur' off n) (h' : Wrote w' w'' g e cur' cur'' off n) : Wrote w w'' g e cur cur'' off n :=
  ⟨h'.blk, h'.size.trans h.size, fun i hi => (h'.out i hi).trans (h.out i hi),
   ⟨h'.grown.os.trans h.grown.os, h'.grown.tape.trans h.grown.tape, h'.grown.output.trans h.grown.output, Nat.le_trans h.grown.size h'.grown.size,
    fun b hb hne => (h'.grown.block b (by have := h.hsize; omega) hne).trans (h.grown.block b hb hne)⟩, h'.hsize.trans h.hsize⟩
/-- a stretch within a stretch -/
theorem Wrote.wide (h : Wrote w w' g e cur cur' off n) {off' n' : Nat} (h1 : off' ≤ off) (h2 : off + n ≤ off' + n') : Wrote w w' g e cur cur' off' n' :=
  ⟨h.blk, h.size, fun i hi => h.out i (by omega), h.grown, h.hsize⟩
end

end Go.Proofs.Ytgadpmddbkimfaa.nn
namespace Go.Proofs.Ytgadpmddbkimfaa.nn
open Go.RowKit

/-- what holds when the first i limbs are added (m of h's), with the carry k -/
def AddRel (K : IntKind) (Bs : Nat) (w wr : World) (g : Nat) (e : TypeId) (cur : Array Value) (off n : Nat) (f h f' : Nat → Nat) (cur' : Array Value) (k i m : Nat) : Prop :=
  Wrote w wr g e cur cur' off n ∧ Ints cur' K off n f' ∧ Lt Bs f' n ∧ (∀ j, i ≤ j → j < n → f' j = f j) ∧
    sm Bs f' i + k * Bs ^ i = sm Bs f i + sm Bs h m

section
variable {K : IntKind} {Bs : Nat} {w wr : World} {g : Nat} {e : TypeId} {cur : Array Value} {off n : Nat} {f h f' : Nat → Nat} {cur' : Array Value} {k i m : Nat}

theorem carry_eq {a b c v k' Bs P : Nat} (hk : a + b + c = v + k' * Bs) : a * P + b * P + c * P = v * P + k' * (P * Bs) := by
  have e2 := congrArg (· * P) hk
  simp only [Nat.add_mul] at e2
  rw [Nat.mul_comm P Bs, ← Nat.mul_assoc]
  exact e2

theorem AddRel.step (H : AddRel K Bs w wr g e cur off n f h f' cur' k i i) (hi : i < n) (k' v : Nat) (hk : f' i + h i + k = v + k' * Bs) (hv : v < Bs) {z : Int} (hz : z = (v : Int)) :
    AddRel K Bs w (wr.setCell ⟨g, off + i, none⟩ (.int K z)) g e cur off n f h (upd f' i v) (cur'.setIfInBounds (off + i) (.int K (v : Int))) k' (i + 1) (i + 1) := by
  obtain ⟨h1, h2, h3, h4, h5⟩ := H
  rw [hz]
  refine ⟨h1.set_ i hi _, h2.set_ i _ hi, h3.upd hv, fun j ha hb => ?_, ?_⟩
  · rw [upd_ne f' (by omega)]; exact h4 j (by omega) hb
  · rw [sm_snoc, sm, sm, ← h4 i (Nat.le_refl _) hi, Nat.pow_succ]
    have := carry_eq (P := Bs ^ i) hk
    omega

/-- one more limb, of the greater number alone -/
theorem AddRel.more (H : AddRel K Bs w wr g e cur off n f h f' cur' k i m) (hi : i < n) (k' v : Nat) (hk : f' i + k = v + k' * Bs) (hv : v < Bs) {z : Int} (hz : z = (v : Int)) :
    AddRel K Bs w (wr.setCell ⟨g, off + i, none⟩ (.int K z)) g e cur off n f h (upd f' i v) (cur'.setIfInBounds (off + i) (.int K (v : Int))) k' (i + 1) m := by
  obtain ⟨h1, h2, h3, h4, h5⟩ := H
  rw [hz]
  refine ⟨h1.set_ i hi _, h2.set_ i _ hi, h3.upd hv, fun j ha hb => ?_, ?_⟩
  · rw [upd_ne f' (by omega)]; exact h4 j (by omega) hb
  · rw [sm_snoc, sm, ← h4 i (Nat.le_refl _) hi, Nat.pow_succ]
    have := carry_eq (a := f' i) (b := 0) (P := Bs ^ i) (by simpa using hk)
    omega

/-- the end: the limbs f' are the sum, but for the carry k -/
def AddEnd (K : IntKind) (Bs : Nat) (w w' : World) (g : Nat) (e : TypeId) (cur : Array Value) (off n : Nat) (f : Nat → Nat) (S k : Nat) : Prop :=
  ∃ (f' : Nat → Nat) (cur' : Array Value), Wrote w w' g e cur cur' off n ∧ Ints cur' K off n f' ∧ Lt Bs f' n ∧ sm Bs f' n + k * Bs ^ n = sm Bs f n + S

/-- where no carry is left the rest is as it was -/
theorem AddRel.done (H : AddRel K Bs w wr g e cur off n f h f' cur' k i m) (hi : i ≤ n) (he : i = n ∨ k = 0) : AddEnd K Bs w wr g e cur off n f (sm Bs h m) k := by
  obtain ⟨h1, h2, h3, h4, h5⟩ := H
  refine ⟨f', cur', h1, h2, h3, ?_⟩
  rcases he with rfl | rfl
  · exact h5
  · obtain ⟨j, rfl⟩ : ∃ j, n = i + j := ⟨n - i, by omega⟩
    rw [sm_split, sm_split Bs f, sm_congr Bs (f := fun t => f' (i + t)) (g := fun t => f (i + t)) (fun t ht => h4 (i + t) (by omega) (by omega))]
    simp only [Nat.zero_mul] at h5 ⊢
    omega
end
end Go.Proofs.Ytgadpmddbkimfaa.nn
namespace Go.Proofs.Ytgadpmddbkimfaa.nn
open Go.RowKit

/-- a slice of slices of 32-bit limbs -/
def Rds (w : World) (A : Option Addr) (n : Nat) (AA : Nat → Option Addr) (L C : Nat → Nat) (F : Nat → Nat → Nat) : Prop :=
  0 < n → ∃ b off, A = some ⟨b, off, none⟩ ∧ b < w.heap.size ∧ ∀ i, i < n → w.cell? ⟨b, off + i, none⟩ = some (.slice (AA i) (L i) (C i)) ∧ L i ≤ C i ∧ C i ≤ maxLen ∧ Rd w .u32 (AA i) (L i) (F i)

theorem Rds.keep {w w' : World} {A : Option Addr} {n : Nat} {AA : Nat → Option Addr} {L C : Nat → Nat} {F : Nat → Nat → Nat} (h : Rds w A n AA L C F)
    (hs : w.heap.size ≤ w'.heap.size) (hk : ∀ b o, b < w.heap.size → w'.cell? ⟨b, o, none⟩ = w.cell? ⟨b, o, none⟩) : Rds w' A n AA L C F := fun hn => by
  obtain ⟨b, off, e, hb, hc⟩ := h hn
  exact ⟨b, off, e, by omega, fun i hi => ⟨(hk b _ hb).trans (hc i hi).1, (hc i hi).2.1, (hc i hi).2.2.1, (hc i hi).2.2.2.keep hs hk⟩⟩
theorem Rds.below {w w' : World} {A : Option Addr} {n : Nat} {AA : Nat → Option Addr} {L C : Nat → Nat} {F : Nat → Nat → Nat} (h : Rds w A n AA L C F)
    (hb : Below w.heap.size w w') : Rds w' A n AA L C F :=
  h.keep hb.size fun b o hlt => hb.cell (p := ⟨b, o, none⟩) hlt

end Go.Proofs.Ytgadpmddbkimfaa.nn
namespace Go.Proofs.Ytgadpmddbkimfaa.nn
open Go.RowKit

/-- the slice at A of length n reads as the trimmed number R -/
structure Num (w : World) (A : Option Addr) (n c : Nat) (f : Nat → Nat) (R : Nat) : Prop where
  le : n ≤ c
  cap : c ≤ maxLen
  rd : Rd w .u32 A n f
  lt : Lt (2 ^ 32) f n
  trm : Trm f n
  val : sm (2 ^ 32) f n = R

/-- the sum of the first i parts -/
def tot (L : Nat → Nat) (F : Nat → Nat → Nat) : Nat → Nat
  | 0 => 0
  | i + 1 => tot L F i + sm (2 ^ 32) (F i) (L i)

/-- what holds at the head of Add's loop -/
def AddLoop (old base : Nat) (w0 wr : World) (s : Value) (i n : Nat) (f : Nat → Nat) (L : Nat → Nat) (F : Nat → Nat → Nat) : Prop :=
  ∃ (n' : Nat) (f' : Nat → Nat), wr.ownsRow base 34 1 s n' (vl .u32 f' n') ∧ Below old w0 wr ∧ base ≤ wr.heap.size ∧ Lt (2 ^ 32) f' n' ∧ sm (2 ^ 32) f' n' = sm (2 ^ 32) f n + tot L F i ∧ n' ≤ 4096 + i

theorem AddLoop.below {old base : Nat} {w0 wr : World} {s : Value} {i n : Nat} {f : Nat → Nat} {L : Nat → Nat} {F : Nat → Nat → Nat} (h : AddLoop old base w0 wr s i n f L F) : Below old w0 wr := by
  obtain ⟨_, _, _, h, _⟩ := h
  exact h

end Go.Proofs.Ytgadpmddbkimfaa.nn
namespace Go.Proofs.Ytgadpmddbkimfaa.nn
open Go.RowKit

theorem hsz (w : World) (o : Obj) : (w.alloc o).heap.size = w.heap.size + 1 := by simp
end Go.Proofs.Ytgadpmddbkimfaa.nn
namespace Go.Proofs.Ytgadpmddbkimfaa.nn
open Go.RowKit

/-- what holds at the head of sum's loop -/
def SumRel (base : Nat) (w0 wr : World) (s : Value) (i k : Nat) (F : Nat → Nat) (G : Nat → Nat) : Prop :=
  ∃ f' : Nat → Nat, wr.ownsRow base 34 1 s i (vl .u32 f' i) ∧ Below base w0 wr ∧ base ≤ wr.heap.size ∧ Lt (2 ^ 32) f' i ∧ k ≤ 1 ∧ sm (2 ^ 32) f' i + k * (2 ^ 32) ^ i = sm (2 ^ 32) F i + sm (2 ^ 32) G i

theorem pow_s (B i : Nat) : B ^ (i + 1) = B ^ i * B := Nat.pow_succ B i

theorem SumRel.step {base : Nat} {w0 wr w1 : World} {v : Value} {i k : Nat} {F G f' : Nat → Nat} (o : Obj) (hF : F i < 2 ^ 32) (hG : G i < 2 ^ 32)
    (h2 : Below base w0 wr) (h3 : base ≤ wr.heap.size) (h4 : Lt (2 ^ 32) f' i) (h5 : k ≤ 1) (h6 : sm (2 ^ 32) f' i + k * (2 ^ 32) ^ i = sm (2 ^ 32) F i + sm (2 ^ 32) G i)
    (ho : w1.ownsRow base 34 1 v (i + 1) (vl .u32 (jn f' i (fun _ => (k + F i + G i) % 4294967296)) (i + 1))) (hb : Below base (wr.alloc o) w1) :
    SumRel base w0 w1 v (i + 1) ((k + F i + G i) / 4294967296) F G := by
  have hb1 := (h2.alloc h3 o).trans hb
  have hs := hb.size
  rw [hsz] at hs
  refine ⟨_, ho, hb1, by omega, h4.jn (m := 1) (fun _ _ => Nat.mod_lt _ (by decide)), by omega, ?_⟩
  have e1 : sm (2 ^ 32) (fun _ => (k + F i + G i) % 4294967296) 1 = (k + F i + G i) % 4294967296 := by simp [sm]
  rw [sm_jn, e1]
  simp only [sm]
  rw [pow_s (2 ^ 32) i]
  have e := carry_eq (P := (2 ^ 32) ^ i) (Bs := 2 ^ 32) (a := F i) (b := G i) (c := k) (v := (k + F i + G i) % 4294967296) (k' := (k + F i + G i) / 4294967296) (by omega)
  omega

end Go.Proofs.Ytgadpmddbkimfaa.nn
namespace Go.Proofs.Ytgadpmddbkimfaa.nn
open Go.RowKit

theorem drew_below {B : Nat} {a w : World} (h : Below B a w) (j : Nat) : Below B a (w.drewN j) := ⟨h.os, h.tape, h.output, h.size, h.block⟩

end Go.Proofs.Ytgadpmddbkimfaa.nn
namespace Go.Proofs.Ytgadpmddbkimfaa.nn

/-- how many bits a number has -/
def bl (N : Nat) : Nat := if N = 0 then 0 else N.log2 + 1

theorem bl_lt (N : Nat) : N < 2 ^ bl N := by
  unfold bl
  split
  · omega
  · exact Nat.lt_log2_self
theorem bl_ge {N : Nat} (h : N ≠ 0) : 2 ^ (bl N - 1) ≤ N ∧ 0 < bl N := by
  unfold bl
  rw [if_neg h, Nat.add_sub_cancel]
  exact ⟨Nat.log2_self_le h, by omega⟩
end Go.Proofs.Ytgadpmddbkimfaa.nn
namespace Go.Proofs.Ytgadpmddbkimfaa.nn
open Go.RowKit

/-- the number of m bytes, the highest first -/
def be (b : Nat → Nat) : Nat → Nat
  | 0 => 0
  | k + 1 => be b k * 256 + b k
def BytRel (w wr : World) (g : Nat) (e : TypeId) (cur : Array Value) (m N i : Nat) : Prop :=
  ∃ (f' : Nat → Nat) (cur' : Array Value), Wrote w wr g e cur cur' 0 m ∧ Ints cur' .u8 0 m f' ∧ ∀ j, j < i → f' j = N / 256 ^ (m - 1 - j) % 256
theorem BytRel.step {w wr : World} {g : Nat} {e : TypeId} {cur : Array Value} {m N i : Nat} (h : BytRel w wr g e cur m N i) (hi : i < m) (v : Nat) (hv : v = N / 256 ^ (m - 1 - i) % 256) (z : Int) (hz : z = (v : Int)) : BytRel w (wr.setCell ⟨g, i, none⟩ (.int .u8 z)) g e cur m N (i + 1) := by
  subst hz
  obtain ⟨f', cur', h1, h2, h3⟩ := h
  have a := h1.set_ i hi (.int .u8 (v : Int))
  have b := h2.set_ i v hi
  rw [Nat.zero_add] at a b
  refine ⟨_, _, a, b, fun j hj => ?_⟩
  by_cases e : j = i
  · subst e; rw [upd_at]; exact hv
  · rw [upd_ne _ e]; exact h3 j (by omega)

end Go.Proofs.Ytgadpmddbkimfaa.nn
namespace Go.Proofs.Ytgadpmddbkimfaa.nn
open Go.RowKit

/-- how many bytes a number has -/
def nb (N : Nat) : Nat := (bl N + 7) / 8
theorem nb_zero : nb 0 = 0 := rfl
theorem nb_lt (N : Nat) : N < 256 ^ nb N := by
  refine Nat.lt_of_lt_of_le (bl_lt N) ?_
  rw [show (256 : Nat) = 2 ^ 8 from rfl, ← Nat.pow_mul]
  exact Nat.pow_le_pow_right (by decide) (by unfold nb; omega)
theorem nb_ge {N : Nat} (h : N ≠ 0) : 256 ^ (nb N - 1) ≤ N ∧ 0 < nb N := by
  obtain ⟨b1, b2⟩ := bl_ge h
  refine ⟨Nat.le_trans ?_ b1, by unfold nb; omega⟩
  rw [show (256 : Nat) = 2 ^ 8 from rfl, ← Nat.pow_mul]
  exact Nat.pow_le_pow_right (by decide) (by unfold nb; omega)
theorem nb_of {N j : Nat} (h1 : 256 ^ j ≤ N) (h2 : N < 256 ^ (j + 1)) : nb N = j + 1 := by
  have h3 : N ≠ 0 := by have := Nat.pow_pos (n := j) (by decide : 0 < 256); omega
  obtain ⟨h4, h5⟩ := nb_ge h3
  have h6 := nb_lt N
  rcases Nat.lt_trichotomy (nb N) (j + 1) with h | h | h
  · have : 256 ^ nb N ≤ 256 ^ j := Nat.pow_le_pow_right (by decide) (by omega)
    omega
  · exact h
  · have : 256 ^ (j + 1) ≤ 256 ^ (nb N - 1) := Nat.pow_le_pow_right (by decide) (by omega)
    omega
theorem nb_step {N0 N1 c : Nat} (h : N0 = N1 * 256 + c) (hc : c < 256) (hN : 0 < nb N1 ∨ c ≠ 0) : nb N0 = nb N1 + 1 := by
  by_cases h0 : N1 = 0
  · subst h0
    rw [nb_zero] at hN ⊢
    refine nb_of (j := 0) ?_ ?_
    · simp; omega
    · omega
  · obtain ⟨h1, h2⟩ := nb_ge h0
    have h3 := nb_lt N1
    obtain ⟨k, hk⟩ : ∃ k, nb N1 = k + 1 := ⟨nb N1 - 1, by omega⟩
    rw [hk] at h1 h3 ⊢
    rw [Nat.add_sub_cancel] at h1
    refine nb_of ?_ ?_
    · rw [Nat.pow_succ]; omega
    · rw [Nat.pow_succ]; omega

/-- the bytes of N stand in a row -/
def Byts (O : Nat → Nat) (N j : Nat) : Prop := j = nb N ∧ ∀ t, t < j → O t = N / 256 ^ (j - 1 - t) % 256
theorem Byts.step {O : Nat → Nat} {N0 N1 c j : Nat} (H : Byts O N1 j) (h : N0 = N1 * 256 + c) (hc : c < 256) (hN : 0 < j ∨ c ≠ 0) : Byts (jn O j (fun _ => c)) N0 (j + 1) := by
  obtain ⟨h1, h2⟩ := H
  refine ⟨by rw [h1, nb_step h hc (by rw [← h1]; exact hN)], fun t ht => ?_⟩
  by_cases e : t = j
  · subst e
    have := jn_hi O (fun _ => c) t 0
    rw [Nat.add_zero] at this
    rw [this, Nat.add_sub_cancel, Nat.sub_self, Nat.pow_zero, Nat.div_one, h]
    omega
  · rw [jn_lo O _ (by omega), h2 t (by omega), Nat.add_sub_cancel]
    obtain ⟨d, hd⟩ : ∃ d, j - t = d + 1 := ⟨j - t - 1, by omega⟩
    rw [hd, show j - 1 - t = d by omega, Nat.pow_succ, Nat.mul_comm (256 ^ d) 256, ← Nat.div_div_eq_div_mul, h, show (N1 * 256 + c) / 256 = N1 by omega]
end Go.Proofs.Ytgadpmddbkimfaa.nn
namespace Go.Proofs.Ytgadpmddbkimfaa.nn

/-- so many bytes of a function, as a list -/
def lsF (f : Nat → Nat) (n : Nat) : List UInt8 := (List.range n).map fun i => UInt8.ofNat (f i)
theorem lsF_len (f : Nat → Nat) (n : Nat) : (lsF f n).length = n := by simp [lsF]
end Go.Proofs.Ytgadpmddbkimfaa.nn
namespace Go.Proofs.Ytgadpmddbkimfaa.nn

/-- how many bytes a code point has that begins with x; 0: none does -/
def nd (x : Nat) : Nat := if x < 128 then 1 else if 194 ≤ x ∧ x ≤ 223 then 2 else if 224 ≤ x ∧ x ≤ 239 then 3 else if 240 ≤ x ∧ x ≤ 244 then 4 else 0
/-- the least and the greatest byte at place j of a code point that begins with x -/
def lt_ (x j : Nat) : Nat := if j = 1 then (if x = 224 then 160 else if x = 240 then 144 else 128) else 128
def mt_ (x j : Nat) : Nat := if j = 1 then (if x = 237 then 159 else if x = 244 then 143 else 191) else 191
def my (x j y : Nat) : Bool := decide (lt_ x j ≤ y ∧ y ≤ mt_ x j)

/-- what is due: so many bytes, the next one between low and high -/
structure Tl where
  c : Nat
  lo : Nat
  hi : Nat

def t0 : Tl := ⟨0, 0, 0⟩
def bh (x : Nat) : Tl := if nd x ≤ 1 then t0 else ⟨nd x - 1, lt_ x 1, mt_ x 1⟩
def ok (t : Tl) (x : Nat) : Bool := if t.c = 0 then decide (nd x ≠ 0) else decide (t.lo ≤ x ∧ x ≤ t.hi)
def nx (t : Tl) (x : Nat) : Tl := if t.c = 0 then bh x else if t.lo ≤ x ∧ x ≤ t.hi then ⟨t.c - 1, 128, 191⟩ else t

/-- the state behind i bytes from state t on, and whether all of them were taken -/
def go (f : Nat → Nat) (t : Tl) : Nat → Tl × Bool
  | 0 => (t, true)
  | i + 1 => if (go f t i).2 then (nx (go f t i).1 (f i), ok (go f t i).1 (f i)) else go f t i
def al (f : Nat → Nat) (t : Tl) (i : Nat) : Bool := (go f t i).2
def tk (f : Nat → Nat) (t : Tl) (i : Nat) : Tl := (go f t i).1
/-- how many of n bytes are taken -/
def sp (f : Nat → Nat) (t : Tl) : Nat → Nat
  | 0 => 0
  | n + 1 => if al f t (n + 1) then n + 1 else sp f t n

section
variable {f g : Nat → Nat} {t : Tl} {i j n m p : Nat}
theorem al_succ : al f t (i + 1) = (al f t i && ok (tk f t i) (f i)) := by
  unfold al tk
  rw [go]
  by_cases h : (go f t i).2 <;> simp [h]
theorem tk_succ (h : al f t i = true) : tk f t (i + 1) = nx (tk f t i) (f i) := by
  unfold al at h
  unfold tk
  rw [go, if_pos h]
theorem al_mono (h : al f t n = true) (hm : m ≤ n) : al f t m = true := by
  induction n with
  | zero => obtain rfl : m = 0 := by omega
            exact h
  | succ n ih =>
    rw [al_succ, Bool.and_eq_true] at h
    by_cases e : m = n + 1
    · subst e; rw [al_succ, h.1, h.2]; rfl
    · exact ih h.1 (by omega)
theorem dead (h : al f t m = false) (hm : m ≤ n) : al f t n = false := by
  cases hn : al f t n with
  | false => rfl
  | true => rw [al_mono hn hm] at h; cases h
theorem sp_le : sp f t n ≤ n := by
  induction n with
  | zero => simp [sp]
  | succ n ih => rw [sp]; split <;> omega
theorem sp_all (h : al f t n = true) : sp f t n = n := by
  cases n with
  | zero => rfl
  | succ n => rw [sp, if_pos h]
theorem sp_stop (h : al f t p = true) (h' : al f t (p + 1) = false) (hp : p ≤ n) : sp f t n = p := by
  induction n with
  | zero => obtain rfl : p = 0 := by omega
            rfl
  | succ n ih =>
    by_cases e : p = n + 1
    · subst e; rw [sp, if_pos h]
    · rw [sp, if_neg (by rw [dead h' (by omega)]; decide)]
      exact ih (by omega)
theorem sp_lt (h : al f t n = false) : sp f t n < n ∧ al f t (sp f t n + 1) = false := by
  induction n with
  | zero => cases h
  | succ n ih =>
    rw [sp, if_neg (by rw [h]; decide)]
    by_cases e : al f t n = true
    · rw [sp_all e]; exact ⟨by omega, h⟩
    · have := ih (by simpa using e)
      exact ⟨by omega, this.2⟩
end

/-- the states that are met -/
def Gd (t : Tl) : Prop := t.c = 0 ∨ (t.c = 1 ∧ t.lo = 128 ∧ t.hi = 191) ∨ (t.c = 2 ∧ (t.lo = 160 ∧ t.hi = 191 ∨ t.lo = 128 ∧ t.hi = 191 ∨ t.lo = 128 ∧ t.hi = 159)) ∨
  (t.c = 3 ∧ (t.lo = 144 ∧ t.hi = 191 ∨ t.lo = 128 ∧ t.hi = 191 ∨ t.lo = 128 ∧ t.hi = 143))
theorem gd_zero : Gd t0 := .inl rfl
theorem nd_cases (x : Nat) : (x < 128 ∧ nd x = 1) ∨ (194 ≤ x ∧ x ≤ 223 ∧ nd x = 2) ∨ (224 ≤ x ∧ x ≤ 239 ∧ nd x = 3) ∨ (240 ≤ x ∧ x ≤ 244 ∧ nd x = 4) ∨ ((128 ≤ x ∧ x < 194 ∨ 244 < x) ∧ nd x = 0) := by
  unfold nd
  repeat' split
  all_goals omega
theorem lt_cases (x : Nat) : (x = 224 ∧ lt_ x 1 = 160) ∨ (x = 240 ∧ lt_ x 1 = 144) ∨ (x ≠ 224 ∧ x ≠ 240 ∧ lt_ x 1 = 128) := by
  unfold lt_
  rw [if_pos rfl]
  repeat' split
  all_goals omega
theorem mt_cases (x : Nat) : (x = 237 ∧ mt_ x 1 = 159) ∨ (x = 244 ∧ mt_ x 1 = 143) ∨ (x ≠ 237 ∧ x ≠ 244 ∧ mt_ x 1 = 191) := by
  unfold mt_
  rw [if_pos rfl]
  repeat' split
  all_goals omega
theorem gd_bh (x : Nat) : Gd (bh x) := by
  have h1 := nd_cases x
  have h2 := lt_cases x
  have h3 := mt_cases x
  unfold bh
  split
  · exact gd_zero
  · unfold Gd
    dsimp only
    omega
theorem gd_nx {t : Tl} (h : Gd t) (x : Nat) : Gd (nx t x) := by
  unfold nx
  split
  · exact gd_bh x
  · split
    · unfold Gd at h ⊢
      dsimp only
      omega
    · exact h
theorem gd_go {f : Nat → Nat} {t : Tl} (h : Gd t) (i : Nat) : Gd (tk f t i) := by
  induction i with
  | zero => exact h
  | succ i ih =>
    unfold tk at ih ⊢
    rw [go]
    split
    · exact gd_nx ih _
    · exact ih
theorem gd_lt {t : Tl} (h : Gd t) : t.c < 4 := by unfold Gd at h; omega

/-- what Check answers -/
def ckA (f : Nat → Nat) (n : Nat) : Nat := sp f t0 n
def ckE (f : Nat → Nat) (n : Nat) : Nat := if al f t0 n then (if (tk f t0 n).c = 0 then 0 else 3) else 4

/-- all of i bytes may stand in a text of N bytes (N below 0: of however many) -/
def aw (f : Nat → Nat) (N : Int) : Nat → Bool
  | 0 => true
  | i + 1 => aw f N i && (al f t0 (i + 1) && decide (N < 0 ∨ ((tk f t0 (i + 1)).c : Int) + (i + 1) ≤ N))
def spw (f : Nat → Nat) (N : Int) : Nat → Nat
  | 0 => 0
  | n + 1 => if aw f N (n + 1) then n + 1 else spw f N n
/-- what is told of m bytes that stand in a text of N bytes -/
def wE (f : Nat → Nat) (N : Int) (m : Nat) : Nat := if aw f N m then (if (tk f t0 m).c ≠ 0 ∨ (m : Int) < N then 3 else 0) else 4

section
variable {f g : Nat → Nat} {N : Int} {i j k n m p : Nat}
theorem aw_mono (h : aw f N n = true) (hm : m ≤ n) : aw f N m = true := by
  induction n with
  | zero => obtain rfl : m = 0 := by omega
            exact h
  | succ n ih =>
    by_cases e : m = n + 1
    · subst e; exact h
    · rw [aw, Bool.and_eq_true] at h
      exact ih h.1 (by omega)
theorem aw_dead (h : aw f N m = false) (hm : m ≤ n) : aw f N n = false := by
  cases hn : aw f N n with
  | false => rfl
  | true => rw [aw_mono hn hm] at h; cases h
theorem spw_all (h : aw f N n = true) : spw f N n = n := by
  cases n with
  | zero => rfl
  | succ n => rw [spw, if_pos h]
theorem spw_stop (h : aw f N p = true) (h' : aw f N (p + 1) = false) (hp : p ≤ n) : spw f N n = p := by
  induction n with
  | zero => obtain rfl : p = 0 := by omega
            rfl
  | succ n ih =>
    by_cases e : p = n + 1
    · subst e; rw [spw, if_pos h]
    · rw [spw, if_neg (by rw [aw_dead h' (by omega)]; decide)]
      exact ih (by omega)
theorem aw_al (h : aw f N n = true) : al f t0 n = true := by
  cases n with
  | zero => rfl
  | succ n =>
    rw [aw, Bool.and_eq_true, Bool.and_eq_true] at h
    exact h.2.1
theorem aw_room (h : aw f N n = true) (h0 : 0 < n) : N < 0 ∨ ((tk f t0 n).c : Int) + n ≤ N := by
  obtain ⟨n, rfl⟩ : ∃ j, n = j + 1 := ⟨n - 1, by omega⟩
  rw [aw, Bool.and_eq_true, Bool.and_eq_true] at h
  have := of_decide_eq_true h.2.2
  omega
theorem aw_mk (h : aw f N n = true) (ha : al f t0 (n + 1) = true) (hr : N < 0 ∨ ((tk f t0 (n + 1)).c : Int) + (n + 1) ≤ N) : aw f N (n + 1) = true := by
  rw [aw, h, ha, Bool.true_and, Bool.true_and]
  exact decide_eq_true hr
theorem aw_neg (h : N < 0) : aw f N n = al f t0 n := by
  induction n with
  | zero => rfl
  | succ n ih =>
    rw [aw, ih, decide_eq_true (.inl h), Bool.and_true]
    cases e : al f t0 (n + 1) with
    | false => rw [Bool.and_false]
    | true => rw [al_mono e (Nat.le_succ n)]; rfl
theorem spw_neg (h : N < 0) : spw f N n = sp f t0 n := by
  induction n with
  | zero => rfl
  | succ n ih => rw [spw, sp, aw_neg h, ih]
theorem wE_neg (h : N < 0) : wE f N m = ckE f m := by
  unfold wE ckE
  rw [aw_neg h]
  by_cases hc : (tk f t0 m).c = 0
  · rw [if_pos hc, if_neg (show ¬ ((tk f t0 m).c ≠ 0 ∨ (m : Int) < N) by omega)]
  · rw [if_neg hc, if_pos (show ((tk f t0 m).c ≠ 0 ∨ (m : Int) < N) from .inl hc)]
/-- what is due never ends later than it did before -/
theorem due_step (h : al f t0 (i + 1) = true) (hc : (tk f t0 i).c ≠ 0) : (tk f t0 (i + 1)).c + (i + 1) = (tk f t0 i).c + i := by
  rw [al_succ, Bool.and_eq_true] at h
  rw [tk_succ h.1]
  have h2 := h.2
  unfold ok at h2
  unfold nx
  rw [if_neg hc] at h2 ⊢
  rw [if_pos (of_decide_eq_true h2)]
  show (tk f t0 i).c - 1 + (i + 1) = _
  omega

/-! one code point, byte by byte -/
/-- j of the k bytes of the code point that begins at i have come -/
def In (f : Nat → Nat) (i j k : Nat) : Prop := (tk f t0 (i + j)).c = k - j ∧ (j < k → (tk f t0 (i + j)).lo = lt_ (f i) j ∧ (tk f t0 (i + j)).hi = mt_ (f i) j)

theorem first_no (ha : al f t0 i = true) (hc : (tk f t0 i).c = 0) (h : nd (f i) = 0 ∨ 0 ≤ N ∧ N < (nd (f i) : Int) + i) : aw f N (i + 1) = false := by
  rw [aw]
  by_cases h0 : nd (f i) = 0
  · have : al f t0 (i + 1) = false := by
      rw [al_succ, ha]
      unfold ok
      rw [if_pos hc, h0]
      rfl
    rw [this]
    simp
  · have hr : ¬ (N < 0 ∨ ((tk f t0 (i + 1)).c : Int) + (i + 1) ≤ N) := by
      rw [tk_succ ha]
      unfold nx bh
      rw [if_pos hc]
      split
      · simp only [t0]; omega
      · dsimp only; omega
    rw [decide_eq_false hr]
    simp
theorem first_yes (hw : aw f N i = true) (hc : (tk f t0 i).c = 0) (h0 : nd (f i) ≠ 0) (h : N < 0 ∨ (nd (f i) : Int) + i ≤ N) : aw f N (i + 1) = true ∧ In f i 1 (nd (f i)) := by
  have ha := aw_al hw
  have ha1 : al f t0 (i + 1) = true := by
    rw [al_succ, ha]
    unfold ok
    rw [if_pos hc, decide_eq_true h0]
    rfl
  have ht : tk f t0 (i + 1) = bh (f i) := by
    rw [tk_succ ha]
    unfold nx
    rw [if_pos hc]
  have hd : (bh (f i)).c = nd (f i) - 1 ∧ (1 < nd (f i) → (bh (f i)).lo = lt_ (f i) 1 ∧ (bh (f i)).hi = mt_ (f i) 1) := by
    unfold bh
    split
    · exact ⟨by simp only [t0]; omega, fun h => by omega⟩
    · exact ⟨rfl, fun _ => ⟨rfl, rfl⟩⟩
  refine ⟨aw_mk hw ha1 ?_, ?_⟩
  · rw [ht, hd.1]; omega
  · unfold In
    rw [ht]
    exact hd
theorem next_no (ha : al f t0 (i + j) = true) (hi : In f i j k) (hj : j < k) (h : my (f i) j (f (i + j)) = false) : al f t0 (i + j + 1) = false := by
  obtain ⟨h1, h2⟩ := hi
  obtain ⟨h3, h4⟩ := h2 hj
  rw [al_succ, ha]
  unfold ok
  rw [if_neg (by omega), h3, h4]
  exact h
theorem next_yes (hw : aw f N (i + j) = true) (hi : In f i j k) (hj : j < k) (h1 : 1 ≤ j) (h : my (f i) j (f (i + j)) = true) : aw f N (i + j + 1) = true ∧ In f i (j + 1) k := by
  obtain ⟨e1, e2⟩ := hi
  obtain ⟨e3, e4⟩ := e2 hj
  have ha := aw_al hw
  have ha1 : al f t0 (i + j + 1) = true := by
    rw [al_succ, ha]
    unfold ok
    rw [if_neg (by omega), e3, e4]
    exact h
  refine ⟨aw_mk hw ha1 ?_, ?_⟩
  · have := due_step ha1 (by omega)
    have := aw_room hw (by omega)
    omega
  · unfold In
    rw [← Nat.add_assoc, tk_succ ha]
    unfold nx
    rw [if_neg (by omega), e3, e4, if_pos (of_decide_eq_true h), e1]
    refine ⟨by dsimp only; omega, fun _ => ⟨?_, ?_⟩⟩
    · unfold lt_; rw [if_neg (by omega)]
    · unfold mt_; rw [if_neg (by omega)]
theorem in_end (h : In f i k k) : (tk f t0 (i + k)).c = 0 := by rw [h.1]; omega
/-- the answers -/
theorem ans_no (hw : aw f N p = true) (h : aw f N (p + 1) = false) (hp : p < m) : spw f N m = p ∧ wE f N m = 4 :=
  ⟨spw_stop hw h (by omega), by unfold wE; rw [if_neg (by rw [aw_dead h (by omega)]; decide)]⟩
theorem ans_short (hw : aw f N m = true) (hi : (tk f t0 m).c ≠ 0) : spw f N m = m ∧ wE f N m = 3 :=
  ⟨spw_all hw, by unfold wE; rw [if_pos hw, if_pos (.inl hi)]⟩
theorem ans_less (hw : aw f N m = true) (hi : (m : Int) < N) : spw f N m = m ∧ wE f N m = 3 :=
  ⟨spw_all hw, by unfold wE; rw [if_pos hw, if_pos (.inr hi)]⟩
theorem ans_all (hw : aw f N m = true) (hi : (tk f t0 m).c = 0) (h : ¬ (m : Int) < N) : spw f N m = m ∧ wE f N m = 0 :=
  ⟨spw_all hw, by unfold wE; rw [if_pos hw, if_neg (by omega)]⟩
end
end Go.Proofs.Ytgadpmddbkimfaa.nn
namespace Go.Proofs.Ytgadpmddbkimfaa.nn
open Go.RowKit

set_option maxRecDepth 100000 in
theorem need_any (x : Nat) (w : World) (hx : x < 256) :
    Calls Try.prog 60 #[.int .u8 (x : Int)] w fun e w' => e = .returned (.int .i64 (nd x : Int)) ∧ w = w' := by
  rcases nd_cases x with ⟨h, e⟩ | ⟨h, h', e⟩ | ⟨h, h', e⟩ | ⟨h, h', e⟩ | ⟨h | h, e⟩
  all_goals
    rw [e]
    clear e
    go_enter Try.func60, Try.ntmps60
    go_wp2
    go_ret
    exact ⟨rfl, rfl⟩

theorem ret_yes {p : Prop} [Decidable p] (h : p) : Ending.returned (.bool (decide p)) = .returned (.bool true) := by rw [decide_eq_true h]
theorem ret_no {p : Prop} [Decidable p] (h : ¬ p) : Ending.returned (.bool (decide p)) = .returned (.bool false) := by rw [decide_eq_false h]
theorem my_mk {x j y L M : Nat} (hL : lt_ x j = L) (hM : mt_ x j = M) : my x j y = decide (L ≤ y ∧ y ≤ M) := by rw [← hL, ← hM]; rfl

set_option maxRecDepth 100000 in
set_option maxHeartbeats 1000000 in
theorem may_any (x j y : Nat) (w : World) (hx : x < 256) (hy : y < 256) (hj : j < 5) :
    Calls Try.prog 61 #[.int .u8 (x : Int), .int .i64 (j : Int), .int .u8 (y : Int)] w fun e w' => e = .returned (.bool (my x j y)) ∧ w = w' := by
  by_cases h1 : j = 1
  · subst h1
    have hl := lt_cases x
    have hm := mt_cases x
    by_cases a : x = 224 ∨ x = 237 ∨ x = 240 ∨ x = 244
    · clear hl hm
      rcases a with rfl | rfl | rfl | rfl
      · rw [my_mk (x := 224) (j := 1) (y := y) (L := 160) (M := 191) rfl rfl]
        by_cases b : 160 ≤ y
        · by_cases c : y ≤ 191
          · rw [decide_eq_true ⟨b, c⟩]
            go_enter Try.func61, Try.ntmps61
            go_wp2
            go_ret
            exact ⟨ret_yes (p := (y : Int) ≤ 191) (by omega), rfl⟩
          · rw [decide_eq_false (fun h => c h.2)]
            go_enter Try.func61, Try.ntmps61
            go_wp2
            go_ret
            exact ⟨ret_no (p := (y : Int) ≤ 191) (by omega), rfl⟩
        · rw [decide_eq_false (fun h => b h.1)]
          go_enter Try.func61, Try.ntmps61
          go_wp2
          go_ret
          exact ⟨rfl, rfl⟩
      · rw [my_mk (x := 237) (j := 1) (y := y) (L := 128) (M := 159) rfl rfl]
        by_cases b : 128 ≤ y
        · by_cases c : y ≤ 159
          · rw [decide_eq_true ⟨b, c⟩]
            go_enter Try.func61, Try.ntmps61
            go_wp2
            go_ret
            exact ⟨ret_yes (p := (y : Int) ≤ 159) (by omega), rfl⟩
          · rw [decide_eq_false (fun h => c h.2)]
            go_enter Try.func61, Try.ntmps61
            go_wp2
            go_ret
            exact ⟨ret_no (p := (y : Int) ≤ 159) (by omega), rfl⟩
        · rw [decide_eq_false (fun h => b h.1)]
          go_enter Try.func61, Try.ntmps61
          go_wp2
          go_ret
          exact ⟨rfl, rfl⟩
      · rw [my_mk (x := 240) (j := 1) (y := y) (L := 144) (M := 191) rfl rfl]
        by_cases b : 144 ≤ y
        · by_cases c : y ≤ 191
          · rw [decide_eq_true ⟨b, c⟩]
            go_enter Try.func61, Try.ntmps61
            go_wp2
            go_ret
            exact ⟨ret_yes (p := (y : Int) ≤ 191) (by omega), rfl⟩
          · rw [decide_eq_false (fun h => c h.2)]
            go_enter Try.func61, Try.ntmps61
            go_wp2
            go_ret
            exact ⟨ret_no (p := (y : Int) ≤ 191) (by omega), rfl⟩
        · rw [decide_eq_false (fun h => b h.1)]
          go_enter Try.func61, Try.ntmps61
          go_wp2
          go_ret
          exact ⟨rfl, rfl⟩
      · rw [my_mk (x := 244) (j := 1) (y := y) (L := 128) (M := 143) rfl rfl]
        by_cases b : 128 ≤ y
        · by_cases c : y ≤ 143
          · rw [decide_eq_true ⟨b, c⟩]
            go_enter Try.func61, Try.ntmps61
            go_wp2
            go_ret
            exact ⟨ret_yes (p := (y : Int) ≤ 143) (by omega), rfl⟩
          · rw [decide_eq_false (fun h => c h.2)]
            go_enter Try.func61, Try.ntmps61
            go_wp2
            go_ret
            exact ⟨ret_no (p := (y : Int) ≤ 143) (by omega), rfl⟩
        · rw [decide_eq_false (fun h => b h.1)]
          go_enter Try.func61, Try.ntmps61
          go_wp2
          go_ret
          exact ⟨rfl, rfl⟩
    · rw [my_mk (x := x) (j := 1) (y := y) (L := 128) (M := 191) (by omega) (by omega)]
      have a1 : ¬ x = 224 := fun h => a (.inl h)
      have a2 : ¬ x = 237 := fun h => a (.inr (.inl h))
      have a3 : ¬ x = 240 := fun h => a (.inr (.inr (.inl h)))
      have a4 : ¬ x = 244 := fun h => a (.inr (.inr (.inr h)))
      clear hl hm a
      by_cases b : 128 ≤ y
      · by_cases c : y ≤ 191
        · rw [decide_eq_true ⟨b, c⟩]
          go_enter Try.func61, Try.ntmps61
          go_wp2
          go_ret
          exact ⟨ret_yes (p := (y : Int) ≤ 191) (by omega), rfl⟩
        · rw [decide_eq_false (fun h => c h.2)]
          go_enter Try.func61, Try.ntmps61
          go_wp2
          go_ret
          exact ⟨ret_no (p := (y : Int) ≤ 191) (by omega), rfl⟩
      · rw [decide_eq_false (fun h => b h.1)]
        go_enter Try.func61, Try.ntmps61
        go_wp2
        go_ret
        exact ⟨rfl, rfl⟩
  · rw [my_mk (x := x) (j := j) (y := y) (L := 128) (M := 191) (by unfold lt_; rw [if_neg h1]) (by unfold mt_; rw [if_neg h1])]
    by_cases b : 128 ≤ y
    · by_cases c : y ≤ 191
      · rw [decide_eq_true ⟨b, c⟩]
        go_enter Try.func61, Try.ntmps61
        go_wp2
        go_ret
        exact ⟨ret_yes (p := (y : Int) ≤ 191) (by omega), rfl⟩
      · rw [decide_eq_false (fun h => c h.2)]
        go_enter Try.func61, Try.ntmps61
        go_wp2
        go_ret
        exact ⟨ret_no (p := (y : Int) ≤ 191) (by omega), rfl⟩
    · rw [decide_eq_false (fun h => b h.1)]
      go_enter Try.func61, Try.ntmps61
      go_wp2
      go_ret
      exact ⟨rfl, rfl⟩
end Go.Proofs.Ytgadpmddbkimfaa.nn
namespace Go.Proofs.Ytgadpmddbkimfaa.nn
open Go.RowKit Go.Great

def tlv (t : Tl) : Value := .agg #[.int .i64 (t.c : Int), .int .u8 (t.lo : Int), .int .u8 (t.hi : Int)]

def tab : Array Value := #[.int .u8 194, .int .u8 223, .int .i64 1, .int .u8 128, .int .u8 191, .int .u8 224, .int .u8 224, .int .i64 2, .int .u8 160, .int .u8 191,
  .int .u8 225, .int .u8 236, .int .i64 2, .int .u8 128, .int .u8 191, .int .u8 237, .int .u8 237, .int .i64 2, .int .u8 128, .int .u8 159,
  .int .u8 238, .int .u8 239, .int .i64 2, .int .u8 128, .int .u8 191, .int .u8 240, .int .u8 240, .int .i64 3, .int .u8 144, .int .u8 191,
  .int .u8 241, .int .u8 243, .int .i64 3, .int .u8 128, .int .u8 191, .int .u8 244, .int .u8 244, .int .i64 3, .int .u8 128, .int .u8 143]
/-- row k of the table -/
def bfr : Nat → Nat | 0 => 194 | 1 => 224 | 2 => 225 | 3 => 237 | 4 => 238 | 5 => 240 | 6 => 241 | _ => 244
def to_ : Nat → Nat | 0 => 223 | 1 => 224 | 2 => 236 | 3 => 237 | 4 => 239 | 5 => 240 | 6 => 243 | _ => 244
def tc : Nat → Nat | 0 => 1 | 1 => 2 | 2 => 2 | 3 => 2 | 4 => 2 | _ => 3
def tl : Nat → Nat | 1 => 160 | 5 => 144 | _ => 128
def th : Nat → Nat | 3 => 159 | 7 => 143 | _ => 191

def zer : Array Value := #[.int .u8 0, .int .u8 0, .int .i64 0, .int .u8 0, .int .u8 0, .int .u8 0, .int .u8 0, .int .i64 0, .int .u8 0, .int .u8 0,
  .int .u8 0, .int .u8 0, .int .i64 0, .int .u8 0, .int .u8 0, .int .u8 0, .int .u8 0, .int .i64 0, .int .u8 0, .int .u8 0,
  .int .u8 0, .int .u8 0, .int .i64 0, .int .u8 0, .int .u8 0, .int .u8 0, .int .u8 0, .int .i64 0, .int .u8 0, .int .u8 0,
  .int .u8 0, .int .u8 0, .int .i64 0, .int .u8 0, .int .u8 0, .int .u8 0, .int .u8 0, .int .i64 0, .int .u8 0, .int .u8 0]
theorem bhsz (w : World) (o : Obj) : (w.alloc o).heap.size = w.heap.size + 1 := by simp
theorem last2 (w : World) (o o' : Obj) : ((w.alloc o).alloc o').heap[w.heap.size + 1]? = some o' := by
  have := heap_alloc_last (w.alloc o) o'
  simpa using this
theorem setRow2 (w : World) (o : Obj) (c c' : Array Value) (t : TypeId) : ((w.alloc o).alloc (.cells c t)).setRow (w.heap.size + 1) c' = (w.alloc o).alloc (.cells c' t) := by
  have := World.setRow_alloc_new (w.alloc o) c c' t
  simpa using this
set_option maxRecDepth 100000 in
theorem ix (k : Nat) (h : k < 8) (w : World) : (Instr.index 106 (.agg tab) (.int .i64 (k : Int))).run Try.prog w = .ok (.agg #[.int .u8 (bfr k : Int), .int .u8 (to_ k : Int), .int .i64 (tc k : Int), .int .u8 (tl k : Int), .int .u8 (th k : Int)]) w := by
  match k, h with
  | 0, _ => exact (by kernel_rfl : (Instr.index 106 (.agg tab) (.int .i64 0)).run Try.prog w = .ok (.agg #[.int .u8 194, .int .u8 223, .int .i64 1, .int .u8 128, .int .u8 191]) w)
  | 1, _ => exact (by kernel_rfl : (Instr.index 106 (.agg tab) (.int .i64 1)).run Try.prog w = .ok (.agg #[.int .u8 224, .int .u8 224, .int .i64 2, .int .u8 160, .int .u8 191]) w)
  | 2, _ => exact (by kernel_rfl : (Instr.index 106 (.agg tab) (.int .i64 2)).run Try.prog w = .ok (.agg #[.int .u8 225, .int .u8 236, .int .i64 2, .int .u8 128, .int .u8 191]) w)
  | 3, _ => exact (by kernel_rfl : (Instr.index 106 (.agg tab) (.int .i64 3)).run Try.prog w = .ok (.agg #[.int .u8 237, .int .u8 237, .int .i64 2, .int .u8 128, .int .u8 159]) w)
  | 4, _ => exact (by kernel_rfl : (Instr.index 106 (.agg tab) (.int .i64 4)).run Try.prog w = .ok (.agg #[.int .u8 238, .int .u8 239, .int .i64 2, .int .u8 128, .int .u8 191]) w)
  | 5, _ => exact (by kernel_rfl : (Instr.index 106 (.agg tab) (.int .i64 5)).run Try.prog w = .ok (.agg #[.int .u8 240, .int .u8 240, .int .i64 3, .int .u8 144, .int .u8 191]) w)
  | 6, _ => exact (by kernel_rfl : (Instr.index 106 (.agg tab) (.int .i64 6)).run Try.prog w = .ok (.agg #[.int .u8 241, .int .u8 243, .int .i64 3, .int .u8 128, .int .u8 191]) w)
  | 7, _ => exact (by kernel_rfl : (Instr.index 106 (.agg tab) (.int .i64 7)).run Try.prog w = .ok (.agg #[.int .u8 244, .int .u8 244, .int .i64 3, .int .u8 128, .int .u8 143]) w)
theorem row_le (k : Nat) : bfr k < 256 ∧ to_ k < 256 ∧ tc k < 4 ∧ tl k < 256 ∧ th k < 256 := by
  refine ⟨?_, ?_, ?_, ?_, ?_⟩
  · unfold bfr; split <;> omega
  · unfold to_; split <;> omega
  · unfold tc; split <;> omega
  · unfold tl; split <;> omega
  · unfold th; split <;> omega
/-- the row that holds x tells its tail -/
theorem row_yes {k x : Nat} (hk : k < 8) (h1 : bfr k ≤ x) (h2 : x ≤ to_ k) : bh x = ⟨tc k, tl k, th k⟩ ∧ nd x ≠ 0 := by
  match k, hk with
  | 0, _ | 1, _ | 2, _ | 3, _ | 4, _ | 5, _ | 6, _ | 7, _ =>
    simp only [bfr, to_] at h1 h2
    have a := nd_cases x
    have b := lt_cases x
    have c := mt_cases x
    unfold bh
    rw [if_neg (by omega), Tl.mk.injEq]
    simp only [tc, tl, th]
    omega
theorem row_no {x : Nat} (hx : 127 < x) (h : ∀ k, k < 8 → ¬ (bfr k ≤ x ∧ x ≤ to_ k)) : bh x = t0 ∧ nd x = 0 := by
  have h0 := h 0 (by omega)
  have h1 := h 1 (by omega)
  have h2 := h 2 (by omega)
  have h3 := h 3 (by omega)
  have h4 := h 4 (by omega)
  have h5 := h 5 (by omega)
  have h6 := h 6 (by omega)
  have h7 := h 7 (by omega)
  simp only [bfr, to_] at h0 h1 h2 h3 h4 h5 h6 h7
  have a := nd_cases x
  have e : nd x = 0 := by omega
  exact ⟨by unfold bh; rw [if_pos (by omega)], e⟩

set_option maxHeartbeats 400000 in
theorem behind_low (x : Nat) (w : World) (hx : x < 128) :
    Calls Try.prog 65 #[.int .u8 x] w fun e w' => e = .returned (.tuple #[tlv t0, .bool true]) ∧ Below w.heap.size w w' := by
  go_enter Try.func65, Try.ntmps65
  go_wp2
  refine bodyPost_ret (v := .tuple #[tlv t0, .bool true]) (by simp [results, Try.results65, go_sem, tlv, t0]) rfl ⟨rfl, ?_⟩
  exact (Below.refl _ _).alloc (Nat.le_refl _) _

set_option maxRecDepth 100000 in
set_option maxHeartbeats 1000000 in
theorem behind_high (x : Nat) (w : World) (hx : x < 256) (hx' : 127 < x) :
    Calls Try.prog 65 #[.int .u8 x] w fun e w' => e = .returned (.tuple #[tlv (bh x), .bool (decide (nd x ≠ 0))]) ∧ Below w.heap.size w w' := by
  go_enter Try.func65, Try.ntmps65
  go_upto_region 3 with fail
  go_cut [4] from 10 to 26 (fun s4 wx => s4 = .pointer (some ⟨w.heap.size + 1, 0, none⟩) ∧ wx = (w.alloc (.cells #[.int .i64 0, .int .u8 0, .int .u8 0] 83)).alloc (.cells tab 106))
  case first =>
    apply wp_region_lit
    refine wpList_buildTo rfl 83 _ rfl (some 10) rfl #[.int .i64 1, .int .u8 128, .int .u8 191] (by kernel_rfl) ?_
    refine wpList_buildTo rfl 105 _ rfl (some 11) rfl #[.int .u8 194, .int .u8 223, .int .i64 1, .int .u8 128, .int .u8 191] (by kernel_rfl) ?_
    refine wpList_buildTo rfl 83 _ rfl (some 12) rfl #[.int .i64 2, .int .u8 160, .int .u8 191] (by kernel_rfl) ?_
    refine wpList_buildTo rfl 105 _ rfl (some 13) rfl #[.int .u8 224, .int .u8 224, .int .i64 2, .int .u8 160, .int .u8 191] (by kernel_rfl) ?_
    refine wpList_buildTo rfl 83 _ rfl (some 14) rfl #[.int .i64 2, .int .u8 128, .int .u8 191] (by kernel_rfl) ?_
    refine wpList_buildTo rfl 105 _ rfl (some 15) rfl #[.int .u8 225, .int .u8 236, .int .i64 2, .int .u8 128, .int .u8 191] (by kernel_rfl) ?_
    refine wpList_buildTo rfl 83 _ rfl (some 16) rfl #[.int .i64 2, .int .u8 128, .int .u8 159] (by kernel_rfl) ?_
    refine wpList_buildTo rfl 105 _ rfl (some 17) rfl #[.int .u8 237, .int .u8 237, .int .i64 2, .int .u8 128, .int .u8 159] (by kernel_rfl) ?_
    refine wpList_buildTo rfl 83 _ rfl (some 18) rfl #[.int .i64 2, .int .u8 128, .int .u8 191] (by kernel_rfl) ?_
    refine wpList_buildTo rfl 105 _ rfl (some 19) rfl #[.int .u8 238, .int .u8 239, .int .i64 2, .int .u8 128, .int .u8 191] (by kernel_rfl) ?_
    refine wpList_buildTo rfl 83 _ rfl (some 20) rfl #[.int .i64 3, .int .u8 144, .int .u8 191] (by kernel_rfl) ?_
    refine wpList_buildTo rfl 105 _ rfl (some 21) rfl #[.int .u8 240, .int .u8 240, .int .i64 3, .int .u8 144, .int .u8 191] (by kernel_rfl) ?_
    refine wpList_buildTo rfl 83 _ rfl (some 22) rfl #[.int .i64 3, .int .u8 128, .int .u8 191] (by kernel_rfl) ?_
    refine wpList_buildTo rfl 105 _ rfl (some 23) rfl #[.int .u8 241, .int .u8 243, .int .i64 3, .int .u8 128, .int .u8 191] (by kernel_rfl) ?_
    refine wpList_buildTo rfl 83 _ rfl (some 24) rfl #[.int .i64 3, .int .u8 128, .int .u8 143] (by kernel_rfl) ?_
    refine wpList_buildTo rfl 105 _ rfl (some 25) rfl #[.int .u8 244, .int .u8 244, .int .i64 3, .int .u8 128, .int .u8 143] (by kernel_rfl) ?_
    refine wpList_buildTo rfl 106 _ rfl (some 26) rfl tab (by kernel_rfl) ?_
    refine wpList_allocTo rfl (some 4) rfl (.pointer (some ⟨(w.alloc (.cells #[.int .i64 0, .int .u8 0, .int .u8 0] 83)).heap.size, 0, none⟩)) (.cells zer 106) (by kernel_rfl) ?_
    rw [bhsz]
    refine wpList_store_rowTo rfl 106 _ _ rfl rfl (w.heap.size + 1) tab (by kernel_rfl) (by kernel_rfl) 106 zer (last2 _ _ _) (by kernel_rfl) (by kernel_rfl) (by kernel_rfl) ?_
    rw [setRow2]
    refine wpList_frame (a' := { tmps := #[(.int .u8 (x : Int)), undef, (.pointer (some ⟨w.heap.size, 0, none⟩)), (.bool false), (.pointer (some ⟨w.heap.size + 1, 0, none⟩)), undef, undef, (.int .u8 (x : Int)), (.bool (decide ((x : Int) ≤ 127))), undef, (.agg #[.int .i64 1, .int .u8 128, .int .u8 191]), (.agg #[.int .u8 194, .int .u8 223, .int .i64 1, .int .u8 128, .int .u8 191]), (.agg #[.int .i64 2, .int .u8 160, .int .u8 191]), (.agg #[.int .u8 224, .int .u8 224, .int .i64 2, .int .u8 160, .int .u8 191]), (.agg #[.int .i64 2, .int .u8 128, .int .u8 191]), (.agg #[.int .u8 225, .int .u8 236, .int .i64 2, .int .u8 128, .int .u8 191]), (.agg #[.int .i64 2, .int .u8 128, .int .u8 159]), (.agg #[.int .u8 237, .int .u8 237, .int .i64 2, .int .u8 128, .int .u8 159]), (.agg #[.int .i64 2, .int .u8 128, .int .u8 191]), (.agg #[.int .u8 238, .int .u8 239, .int .i64 2, .int .u8 128, .int .u8 191]), (.agg #[.int .i64 3, .int .u8 144, .int .u8 191]), (.agg #[.int .u8 240, .int .u8 240, .int .i64 3, .int .u8 144, .int .u8 191]), (.agg #[.int .i64 3, .int .u8 128, .int .u8 191]), (.agg #[.int .u8 241, .int .u8 243, .int .i64 3, .int .u8 128, .int .u8 191]), (.agg #[.int .i64 3, .int .u8 128, .int .u8 143]), (.agg #[.int .u8 244, .int .u8 244, .int .i64 3, .int .u8 128, .int .u8 143]), (.agg tab), undef, undef, undef, undef, undef, undef, undef, undef, undef, undef, undef, undef, undef, undef, undef, undef, undef, undef], defers := [] }) (by kernel_rfl) ?_
    refine wpList_nil ?_
    rename_i hJ hK
    exact hK _ _ (Met.intro (hJ _ _ ⟨_, _, _, _, _, _, _, _, _, _, _, _, _, _, _, _, _, _, ⟨rfl, rfl⟩, rfl⟩))
  case rest =>
    obtain ⟨rfl, rfl⟩ := hcut
    go_upto_region 4 with fail
    apply wp_region_lit
    refine wpList_load_row rfl 106 (.tmp 4) rfl (w.heap.size + 1) rfl _ tab (0, 0) _ (last2 _ _ _) Try.underlying106 rfl (by kernel_rfl) ?_
    go_wp2
    go_loopw [28] (fun s28 wr => ∃ k : Nat, k ≤ 8 ∧ s28 = .int .i64 (k : Int) ∧ Hid (∀ j, j < k → ¬ (bfr j ≤ x ∧ x ≤ to_ j)) ∧ Below w.heap.size w wr ∧ w.heap.size < wr.heap.size ∧ wr.heap[w.heap.size]? = some (.cells #[.int .i64 0, .int .u8 0, .int .u8 0] 83 (0, 0))) (fun s28 _ => (8 - intOf s28).toNat)
    case atStart => exact ⟨0, by omega, rfl, Lib.hid (fun j hj => absurd hj (by omega)), ((Below.refl _ _).alloc (Nat.le_refl _) _).alloc (by rw [bhsz]; omega) _, by rw [bhsz, bhsz]; omega, (Below.heap_alloc _ _ _ (by rw [bhsz]; omega)).trans (heap_alloc_last _ _)⟩
    case round =>
      obtain ⟨k, hk, rfl, hno, hb, hs, hblk⟩ := hrel
      have c0 : wr.cell? ⟨w.heap.size, 0, none⟩ = some (.int .i64 0) := cell_of_row _ _ 0 _ _ _ hblk
      have c1 : wr.cell? ⟨w.heap.size, 1, none⟩ = some (.int .u8 0) := cell_of_row _ _ 1 _ _ _ hblk
      have c2 : wr.cell? ⟨w.heap.size, 2, none⟩ = some (.int .u8 0) := cell_of_row _ _ 2 _ _ _ hblk
      have f0 : ∀ i, wr.frozen? ⟨w.heap.size, i, none⟩ = false := fun i => by simp [World.frozen?, hblk]
      have hlt : ∀ o, w.heap.size < (wr.alloc o).heap.size := fun o => by rw [bhsz]; omega
      by_cases hk8 : k < 8
      · have hix := ix k hk8
        have hr := row_le k
        by_cases hy : bfr k ≤ x ∧ x ≤ to_ k
        · have HE := Lib.hid (row_yes hk8 hy.1 hy.2)
          obtain ⟨hl, hh⟩ := hy
          go_wp2_with fail
          refine bodyPost_ret (v := .tuple #[.agg #[.int .i64 (tc k : Int), .int .u8 (tl k : Int), .int .u8 (th k : Int)], .bool true]) (by
            have hne : ¬ w.heap.size = wr.heap.size := by omega
            simp [results, Try.results65, go_sem, World.cell?, World.setCell, World.alloc, Array.getElem?_push, Array.getElem?_modify, hblk, hne]) rfl ⟨?_, ?_⟩
          · rw [HE.out.1]
            simp [tlv, HE.out.2]
          · exact (((hb.setCell (Nat.le_refl _) _).setCell (Nat.le_refl _) _).setCell (Nat.le_refl _) _).alloc (by simp [World.setCell]; omega) _
        · have HN := Lib.hid (fun j (hj : j < k + 1) => show ¬ (bfr j ≤ x ∧ x ≤ to_ j) from by
            by_cases e : j = k
            · subst e; exact hy
            · exact hno.out j (by omega))
          by_cases hl : bfr k ≤ x
          · have hh : ¬ x ≤ to_ k := fun h => hy ⟨hl, h⟩
            clear hy
            go_wp2_with fail
            go_roundw
            case rel => exact ⟨k + 1, by omega, by go_num, HN, hb.alloc (Nat.le_of_lt hs) _, hlt _, (Below.heap_alloc _ _ _ hs).trans hblk⟩
            case measure => simp [intOf]; omega
          · clear hy
            go_wp2_with fail
            go_roundw
            case rel => exact ⟨k + 1, by omega, by go_num, HN, hb.alloc (Nat.le_of_lt hs) _, hlt _, (Below.heap_alloc _ _ _ hs).trans hblk⟩
            case measure => simp [intOf]; omega
      · obtain rfl : k = 8 := by omega
        have HE := Lib.hid (row_no hx' hno.out)
        clear hno
        go_wp2_with fail
        refine bodyPost_ret (v := .tuple #[tlv t0, .bool false]) (by simp [results, Try.results65, go_sem, tlv, t0, World.cell?, World.setCell, Array.getElem?_modify, hblk]) rfl ⟨?_, ?_⟩
        · rw [HE.out.1]
          simp [HE.out.2]
        · exact ((hb.setCell (Nat.le_refl _) _).setCell (Nat.le_refl _) _).setCell (Nat.le_refl _) _

theorem behind_any (x : Nat) (w : World) (hx : x < 256) :
    Calls Try.prog 65 #[.int .u8 x] w fun e w' => e = .returned (.tuple #[tlv (bh x), .bool (decide (nd x ≠ 0))]) ∧ Below w.heap.size w w' := by
  by_cases h : 127 < x
  · exact behind_high x w hx h
  · have e : nd x = 1 := by unfold nd; rw [if_pos (by omega)]
    have e2 : bh x = t0 := by unfold bh; rw [if_pos (by omega)]
    rw [e, e2]
    exact behind_low x w (by omega)
end Go.Proofs.Ytgadpmddbkimfaa.nn
namespace Go.Proofs.Ytgadpmddbkimfaa.nn
open Go.RowKit

/-- block g is just pre and, behind it, what is due -/
def tcs (pre : List Value) (t : Tl) : Array Value := (pre ++ ([Value.int .i64 (t.c : Int), Value.int .u8 (t.lo : Int), Value.int .u8 (t.hi : Int)] : List Value)).toArray
def Sc (w : World) (g : Nat) (e : TypeId) (pre : List Value) (t : Tl) : Prop := w.heap[g]? = some (.cells (tcs pre t) e (0, 0))

section
variable {w w' : World} {g : Nat} {e : TypeId} {pre : List Value} {t t' : Tl} {off : Nat}
theorem tcs_0 : (tcs pre t)[pre.length]? = some (.int .i64 (t.c : Int)) := by simp [tcs]
theorem tcs_1 : (tcs pre t)[pre.length + 1]? = some (.int .u8 (t.lo : Int)) := by simp [tcs]
theorem tcs_2 : (tcs pre t)[pre.length + 2]? = some (.int .u8 (t.hi : Int)) := by simp [tcs]
theorem Sc.lt (h : Sc w g e pre t) : g < w.heap.size := (Array.getElem?_eq_some_iff.1 h).1
theorem Sc.cell (h : Sc w g e pre t) (i : Nat) : w.cell? ⟨g, i, none⟩ = (tcs pre t)[i]? := cell_of_row w g i (tcs pre t) e (0, 0) h
theorem Sc.c0 (h : Sc w g e pre t) (ho : pre.length = off) : w.cell? ⟨g, off, none⟩ = some (.int .i64 (t.c : Int)) := by subst ho; rw [h.cell, tcs_0]
theorem Sc.c1 (h : Sc w g e pre t) (ho : pre.length = off) : w.cell? ⟨g, off + 1, none⟩ = some (.int .u8 (t.lo : Int)) := by subst ho; rw [h.cell, tcs_1]
theorem Sc.c2 (h : Sc w g e pre t) (ho : pre.length = off) : w.cell? ⟨g, off + 2, none⟩ = some (.int .u8 (t.hi : Int)) := by subst ho; rw [h.cell, tcs_2]
theorem Sc.frozen (h : Sc w g e pre t) (i : Nat) : w.frozen? ⟨g, i, none⟩ = false := by
  unfold Sc at h
  simp [World.frozen?, h]
theorem Sc.below {B : Nat} (h : Sc w g e pre t) (hb : Below B w w') (hg : g < B) : Sc w' g e pre t := (hb.block g hg).trans h
theorem Sc.alloc (h : Sc w g e pre t) (o : Obj) : Sc (w.alloc o) g e pre t := (Below.heap_alloc _ _ _ h.lt).trans h
theorem Sc.set3 (h : Sc w g e pre t) (ho : pre.length = off) (c lo hi : Nat) : Sc (((w.setCell ⟨g, off, none⟩ (.int .i64 (c : Int))).setCell ⟨g, off + 1, none⟩ (.int .u8 (lo : Int))).setCell ⟨g, off + 2, none⟩ (.int .u8 (hi : Int))) g e pre ⟨c, lo, hi⟩ := by
  subst ho
  unfold Sc at h ⊢
  simp only [World.setCell, Array.getElem?_modify, h, if_true, Option.map_some, Option.isSome_none, Bool.false_eq_true, if_false]
  congr 2
  apply Array.ext_getElem?
  intro i
  simp only [tcs, Array.getElem?_setIfInBounds, List.getElem?_toArray, List.size_toArray, Array.size_setIfInBounds, List.length_append, List.length_cons, List.length_nil]
  by_cases h0 : i < pre.length
  · rw [if_neg (by omega), if_neg (by omega), if_neg (by omega), List.getElem?_append_left h0, List.getElem?_append_left h0]
  · obtain ⟨j, rfl⟩ : ∃ j, i = pre.length + j := ⟨i - pre.length, by omega⟩
    match j with
    | 0 | 1 | 2 => simp
    | j + 3 => simp
theorem Sc.set3n (h : Sc w g e pre t) (ho : pre.length = off) (c : Nat) : Sc (((w.setCell ⟨g, off, none⟩ (.int .i64 (c : Int))).setCell ⟨g, off + 1, none⟩ (.int .u8 128)).setCell ⟨g, off + 2, none⟩ (.int .u8 191)) g e pre ⟨c, 128, 191⟩ := h.set3 ho c 128 191
theorem below_set3 {B : Nat} (h : Below B w w') (hg : B ≤ g) (a b c : Nat) (u v x : Value) : Below B w (((w'.setCell ⟨g, a, none⟩ u).setCell ⟨g, b, none⟩ v).setCell ⟨g, c, none⟩ x) :=
  ((h.setCell hg u).setCell hg v).setCell hg x
end

theorem behind_bd (x : Nat) : (bh x).c < 4 ∧ (bh x).lo < 256 ∧ (bh x).hi < 256 := by
  have a := nd_cases x
  have b := lt_cases x
  have c := mt_cases x
  unfold bh
  split
  · exact ⟨by decide, by decide, by decide⟩
  · exact ⟨by dsimp only; omega, by dsimp only; omega, by dsimp only; omega⟩

set_option maxRecDepth 100000 in
set_option maxHeartbeats 1000000 in
theorem take_first (t : Tl) (g off : Nat) (e : TypeId) (pre : List Value) (x : Nat) (w : World) (h : Sc w g e pre t) (ho : pre.length = off) (hz : t.c = 0) (c lo hi : Nat) (b : Bool) (_ : c < 4) (_ : lo < 256) (_ : hi < 256)
    (hB : Hid (Calls Try.prog 65 #[.int .u8 (x : Int)] w fun e w' => e = .returned (.tuple #[.agg #[.int .i64 (c : Int), .int .u8 (lo : Int), .int .u8 (hi : Int)], .bool b]) ∧ Below w.heap.size w w')) :
    Calls Try.prog 59 #[.pointer (some ⟨g, off, none⟩), .int .u8 (x : Int)] w fun r w' => r = .returned (.bool b) ∧ Below g w w' ∧ Sc w' g e pre ⟨c, lo, hi⟩ := by
  have c0 := h.c0 ho
  have hlt := h.lt
  rw [hz] at c0
  have hz' := Lib.hid hz
  have ho' := Lib.hid ho
  have h' := Lib.hid h
  clear hz ho h
  go_enter Try.func59, Try.ntmps59
  go_wp2_with fail
  refine hB.out.mono ?_
  rintro r w1 ⟨rfl, hb⟩
  have hs := h'.out.below hb hlt
  have hb1 := (Below.refl g w).trans (hb.mono (Nat.le_of_lt hlt))
  have hlt1 := hs.lt
  have f1 := hs.frozen
  have d0 := hs.c0 ho'.out
  have d1 := hs.c1 ho'.out
  have d2 := hs.c2 ho'.out
  have hs' := Lib.hid hs
  clear hs
  go_wp2_with fail
  go_ret
  exact ⟨rfl, (below_set3 hb1 (Nat.le_refl g) _ _ _ _ _ _).alloc (by simp [World.setCell]; omega) _, (hs'.out.set3 ho'.out c lo hi).alloc _⟩

set_option maxRecDepth 100000 in
set_option maxHeartbeats 1000000 in
theorem take_next (t : Tl) (g off : Nat) (e : TypeId) (pre : List Value) (x : Nat) (w : World) (h : Sc w g e pre t) (ho : pre.length = off) (_ : x < 256) (hz : t.c ≠ 0) (hc : t.c < 4) :
    Calls Try.prog 59 #[.pointer (some ⟨g, off, none⟩), .int .u8 (x : Int)] w fun r w' => r = .returned (.bool (ok t x)) ∧ Below g w w' ∧ Sc w' g e pre (nx t x) := by
  have e1 : ok t x = decide (t.lo ≤ x ∧ x ≤ t.hi) := by unfold ok; rw [if_neg hz]
  have e2 : nx t x = if t.lo ≤ x ∧ x ≤ t.hi then ⟨t.c - 1, 128, 191⟩ else t := by unfold nx; rw [if_neg hz]
  rw [e1, e2]
  clear e1 e2
  obtain ⟨c, lo, hi⟩ := t
  dsimp only at *
  have c0 := h.c0 ho
  have c1 := h.c1 ho
  have c2 := h.c2 ho
  have f0 := h.frozen
  have hlt := h.lt
  have ho' := Lib.hid ho
  have h' := Lib.hid h
  clear ho h
  obtain ⟨c', rfl⟩ : ∃ c', c = c' + 1 := ⟨c - 1, by omega⟩
  by_cases hy : lo ≤ x ∧ x ≤ hi
  · rw [if_pos hy, decide_eq_true hy]
    obtain ⟨hl, hh⟩ := hy
    go_enter Try.func59, Try.ntmps59
    go_wp2_with fail
    go_ret
    exact ⟨rfl, below_set3 (Below.refl g w) (Nat.le_refl g) _ _ _ _ _ _, h'.out.set3n ho'.out c'⟩
  · rw [if_neg hy, decide_eq_false hy]
    by_cases hl : lo ≤ x
    · have hh : ¬ x ≤ hi := fun h => hy ⟨hl, h⟩
      clear hy
      go_enter Try.func59, Try.ntmps59
      go_wp2_with fail
      go_ret
      exact ⟨rfl, Below.refl _ _, h'.out⟩
    · clear hy
      go_enter Try.func59, Try.ntmps59
      go_wp2_with fail
      go_ret
      exact ⟨rfl, Below.refl _ _, h'.out⟩

theorem take_any (t : Tl) (g off : Nat) (e : TypeId) (pre : List Value) (x : Nat) (w : World) (h : Sc w g e pre t) (ho : pre.length = off) (hx : x < 256) (hc : t.c < 4) :
    Calls Try.prog 59 #[.pointer (some ⟨g, off, none⟩), .int .u8 (x : Int)] w fun r w' => r = .returned (.bool (ok t x)) ∧ Below g w w' ∧ Sc w' g e pre (nx t x) := by
  by_cases hz : t.c = 0
  · have e1 : ok t x = decide (nd x ≠ 0) := by unfold ok; rw [if_pos hz]
    have e2 : nx t x = bh x := by unfold nx; rw [if_pos hz]
    rw [e1, e2]
    have hb := behind_bd x
    exact take_first t g off e pre x w h ho hz _ _ _ _ hb.1 hb.2.1 hb.2.2 (Lib.hid (behind_any x w hx))
  · exact take_next t g off e pre x w h ho hx hz hc
end Go.Proofs.Ytgadpmddbkimfaa.nn
namespace Go.Proofs.Ytgadpmddbkimfaa.nn
open Go.RowKit

theorem ret_n {k : IntKind} {a b : Nat} (h : a = b) : Ending.returned (.int k (a : Int)) = .returned (.int k (b : Int)) := by rw [h]
/-- behind a refused byte the state stays -/
theorem tk_dead {f : Nat → Nat} {t : Tl} {m n : Nat} (h : al f t m = false) (hm : m ≤ n) : tk f t n = tk f t m := by
  induction n with
  | zero => obtain rfl : m = 0 := by omega
            rfl
  | succ n ih =>
    by_cases e : m = n + 1
    · subst e; rfl
    · have hn := dead h (show m ≤ n by omega)
      rw [← ih (by omega)]
      unfold al at hn
      unfold tk
      rw [go, if_neg (by rw [hn]; decide)]

set_option maxRecDepth 100000 in
set_option maxHeartbeats 1000000 in
theorem takeS_any (s : ByteArray) (t : Tl) (g off : Nat) (e : TypeId) (pre : List Value) (w : World) (h : Sc w g e pre t) (ho : pre.length = off) (ht : Gd t) (hs : s.size ≤ maxLen) :
    Calls Try.prog 55 #[.pointer (some ⟨g, off, none⟩), .string s] w fun r w' => r = .returned (.int .i64 (sp (bt s) t s.size : Int)) ∧ Below g w w' ∧ Sc w' g e pre (tk (bt s) t s.size) := by
  unfold maxLen at hs
  have ho' := Lib.hid ho
  have h' := Lib.hid h
  clear ho h
  go_enter Try.func55, Try.ntmps55
  go_wp2
  go_loopw [8] (fun s8 wr => ∃ k : Nat, k ≤ s.size ∧ s8 = .int .i64 (k : Int) ∧ Hid (al (bt s) t k = true) ∧ Hid (Below g w wr) ∧ Hid (Sc wr g e pre (tk (bt s) t k))) (fun s8 _ => s.size - (intOf s8).toNat)
  case atStart => exact ⟨0, Nat.zero_le _, rfl, Lib.hid rfl, Lib.hid (Below.refl _ _), h'⟩
  case round =>
    obtain ⟨k, hk, rfl, hal, hb, hsc⟩ := hrel
    by_cases hlt : k < s.size
    · have hC := take_any (tk (bt s) t k) g off e pre (bt s k) wr hsc.out ho'.out (bt_lt s k) (gd_lt (gd_go ht k))
      rw [bt_at hlt] at hC
      have hok := bt_at hlt
      by_cases hy : ok (tk (bt s) t k) (bt s k) = true
      · rw [← hok, hy, hok] at hC
        have hal' : Hid (al (bt s) t (k + 1) = true) := Lib.hid (by rw [al_succ, hal.out, hy]; rfl)
        have htk : Hid (tk (bt s) t (k + 1) = nx (tk (bt s) t k) s[k].toNat) := Lib.hid (by rw [tk_succ hal.out, hok])
        have HC := Lib.hid hC
        clear hC hy hok
        go_wp2_with fail
        refine HC.out.mono ?_
        rintro r w1 ⟨rfl, hb1, hs1⟩
        have hb2 := Lib.hid (hb.out.trans hb1)
        have hs2 : Hid (Sc w1 g e pre (tk (bt s) t (k + 1))) := Lib.hid (by rw [htk.out]; exact hs1)
        clear hb1 hs1
        go_wp2_with fail
        go_roundw
        case rel => exact ⟨k + 1, by omega, by go_num, hal', hb2, hs2⟩
        case measure => simp [intOf]; omega
      · have hy' : ok (tk (bt s) t k) (bt s k) = false := by simpa using hy
        rw [← hok, hy', hok] at hC
        have hal' : al (bt s) t (k + 1) = false := by rw [al_succ, hal.out, hy']; rfl
        have hE : Hid (sp (bt s) t s.size = k) := Lib.hid (sp_stop hal.out hal' (by omega))
        have htk : Hid (tk (bt s) t s.size = nx (tk (bt s) t k) s[k].toNat) := Lib.hid (by rw [tk_dead hal' (by omega), tk_succ hal.out, hok])
        have HC := Lib.hid hC
        clear hC hy hok hy' hal'
        go_wp2_with fail
        refine HC.out.mono ?_
        rintro r w1 ⟨rfl, hb1, hs1⟩
        have hb2 := Lib.hid (hb.out.trans hb1)
        have hs2 : Hid (Sc w1 g e pre (tk (bt s) t s.size)) := Lib.hid (by rw [htk.out]; exact hs1)
        clear hb1 hs1
        go_wp2_with fail
        go_ret
        exact ⟨ret_n hE.out.symm, hb2.out, hs2.out⟩
    · obtain rfl : k = s.size := by omega
      have hE : Hid (sp (bt s) t s.size = s.size) := Lib.hid (sp_all hal.out)
      go_wp2_with fail
      go_ret
      exact ⟨ret_n hE.out.symm, hb.out, hsc.out⟩
end Go.Proofs.Ytgadpmddbkimfaa.nn
namespace Go.Proofs.Ytgadpmddbkimfaa.nn
open Go.RowKit

theorem ret_two {a b c d : Nat} (h1 : a = b) (h2 : c = d) : Ending.returned (.tuple #[.int .i64 (a : Int), .int .i64 (c : Int)]) = .returned (.tuple #[.int .i64 (b : Int), .int .i64 (d : Int)]) := by rw [h1, h2]
theorem nd_lt (x : Nat) : nd x < 5 := by have := nd_cases x; omega

set_option maxRecDepth 100000 in
set_option maxHeartbeats 1000000 in
theorem rwithin_any (s : ByteArray) (n : Int) (w : World) (hs : s.size ≤ maxLen) (hn : -1 ≤ n) (hn' : n ≤ maxLen) :
    Calls Try.prog 56 #[.string s, .int .i64 n] w fun r w' => r = .returned (.tuple #[.int .i64 (spw (bt s) n s.size : Int), .int .i64 (wE (bt s) n s.size : Int)]) ∧ Below w.heap.size w w' := by
  unfold maxLen at hs hn'
  go_enter Try.func56, Try.ntmps56
  go_wp2
  go_loopw [6] (fun s6 wr => ∃ i : Nat, i ≤ s.size ∧ s6 = .int .i64 (i : Int) ∧ Hid (aw (bt s) n i = true) ∧ Hid ((tk (bt s) t0 i).c = 0) ∧ Hid (Below w.heap.size w wr)) (fun s6 _ => s.size - (intOf s6).toNat)
  case atStart => exact ⟨0, Nat.zero_le _, rfl, Lib.hid rfl, Lib.hid rfl, Lib.hid (Below.refl _ _)⟩
  case round =>
    obtain ⟨i, hi, rfl, haw, hc, hb⟩ := hrel
    by_cases hlt : i < s.size
    · have hC := need_any (bt s i) wr (bt_lt s i)
      have hbi := bt_at hlt
      have hk5 := nd_lt (bt s i)
      obtain ⟨k, hk⟩ : ∃ k, nd (bt s i) = k := ⟨_, rfl⟩
      rw [hk] at hC hk5
      have HK := Lib.hid hk
      rw [hbi] at hC
      have HC := Lib.hid hC
      have HBI := Lib.hid hbi
      clear hC hbi hk
      by_cases hbad : k = 0 ∨ 0 ≤ n ∧ n < (k : Int) + i
      · have hno : aw (bt s) n (i + 1) = false := first_no (aw_al haw.out) hc.out (by rw [HK.out]; exact hbad)
        have HA := Lib.hid (ans_no haw.out hno hlt)
        clear hno
        by_cases hk0 : k = 0
        · subst hk0
          clear hbad
          go_wp2_with fail
          refine HC.out.mono ?_
          rintro r w1 ⟨rfl, rfl⟩
          go_wp2_with fail
          go_ret2
          exact ⟨ret_two HA.out.1.symm HA.out.2.symm, hb.out⟩
        · have h0 : 0 ≤ n := by omega
          have h1 : n - i < (k : Int) := by omega
          clear hbad
          go_wp2_with fail
          refine HC.out.mono ?_
          rintro r w1 ⟨rfl, rfl⟩
          go_wp2_with fail
          go_ret2
          exact ⟨ret_two HA.out.1.symm HA.out.2.symm, hb.out⟩
      · have hk0 : k ≠ 0 := by omega
        have hroom : n < 0 ∨ (k : Int) + i ≤ n := by omega
        obtain ⟨hy1, hy2⟩ := first_yes haw.out hc.out (by rw [HK.out]; exact hk0) (by rw [HK.out]; exact hroom)
        rw [HK.out] at hy2
        have HY1 := Lib.hid hy1
        have HY2 := Lib.hid hy2
        clear hy1 hy2 hbad
        by_cases h0 : 0 ≤ n
        all_goals
          first | (have h1 : (k : Int) ≤ n - i := by omega) | (have h1 : n < 0 := by omega)
          clear hroom
          have q1 : ((k : Int) == 0) = false := by simp; omega
          have q2 : n < 0 ∨ decide (n - (i : Int) < (k : Int)) = false := by first | exact .inl h1 | exact .inr (decide_eq_false (by omega))
          first | (have q3 := q2.resolve_left (by omega)) | skip
          clear q2
          go_wp2_with fail
          refine HC.out.mono ?_
          rintro r w1 ⟨rfl, rfl⟩
          go_wp2_with fail
          go_loopw [8] (fun s8 wq => ∃ j : Nat, 1 ≤ j ∧ j ≤ k ∧ i + j ≤ s.size ∧ s8 = .int .i64 (j : Int) ∧ Hid (aw (bt s) n (i + j) = true) ∧ Hid (In (bt s) i j k) ∧ Hid (Below w.heap.size w wq)) (fun s8 _ => k - (intOf s8).toNat)
          case atStart => exact ⟨1, by omega, by omega, by omega, rfl, HY1, HY2, hb⟩
          case round =>
            obtain ⟨j, hj1, hjk, hij, rfl, hawj, hin, hbq⟩ := hrel
            by_cases hj : j < k
            · by_cases he : i + j < s.size
              · have hbj := bt_at he
                have hC2 := fun wz => (may_any (bt s i) j (bt s (i + j)) wz (bt_lt s i) (bt_lt s _) (by omega)).mono (fun _ _ h => And.intro h.1 h.2.symm)
                by_cases hy : my (bt s i) j (bt s (i + j)) = true
                · obtain ⟨z1, z2⟩ := next_yes hawj.out hin.out hj hj1 hy
                  have Z1 := Lib.hid z1
                  have Z2 := Lib.hid z2
                  rw [hy, hbj, HBI.out] at hC2
                  have HC2 := Lib.hid hC2
                  clear z1 z2 hy hC2 hbj
                  go_wp2_with fail
                  have k1 : IntKind.i64.wrap ((i : Int) + (j : Int)) = (i : Int) + (j : Int) := IntWalk.i64_in _ (by omega)
                  have k2 : 0 ≤ (i : Int) + (j : Int) := by omega
                  have k3 : ((i : Int) + (j : Int)).toNat = i + j := by omega
                  go_quiet ((go_at_call 61; exact Calls.quiet_of_same (HC2.out _)))
                  clear k1
                  go_wp2_with fail
                  go_roundw
                  case rel => exact ⟨j + 1, by omega, by omega, by omega, by go_num, Z1, Z2, Lib.hid (drew_below hbq.out _)⟩
                  case measure => simp [intOf]; omega
                · have hy' : my (bt s i) j (bt s (i + j)) = false := by simpa using hy
                  have z1 : aw (bt s) n (i + j + 1) = false := by
                    cases hh : aw (bt s) n (i + j + 1) with
                    | false => rfl
                    | true => have := next_no (aw_al hawj.out) hin.out hj hy'; rw [aw_al hh] at this; cases this
                  have HA := Lib.hid (ans_no hawj.out z1 he)
                  rw [hy', hbj, HBI.out] at hC2
                  have HC2 := Lib.hid hC2
                  clear z1 hy hy' hC2 hbj
                  go_wp2_with fail
                  have k1 : IntKind.i64.wrap ((i : Int) + (j : Int)) = (i : Int) + (j : Int) := IntWalk.i64_in _ (by omega)
                  have k2 : 0 ≤ (i : Int) + (j : Int) := by omega
                  have k3 : ((i : Int) + (j : Int)).toNat = i + j := by omega
                  go_quiet ((go_at_call 61; exact Calls.quiet_of_same (HC2.out _)))
                  clear k1
                  go_wp2_with fail
                  go_ret2
                  exact ⟨ret_two HA.out.1.symm HA.out.2.symm, drew_below hbq.out _⟩
              · have hE : i + j = s.size := by omega
                have hA := ans_short (f := bt s) (N := n) (m := i + j) hawj.out (by rw [hin.out.1]; omega)
                rw [hE] at hA
                have HA := Lib.hid hA
                clear hA
                go_wp2_with fail
                go_ret2
                exact ⟨ret_two HA.out.1.symm HA.out.2.symm, hbq.out⟩
            · obtain rfl : j = k := by omega
              have HC0 := Lib.hid (in_end hin.out)
              go_wp2_with fail
              go_roundw
              case rel => exact ⟨i + j, by omega, by go_num, hawj, HC0, hbq⟩
              case measure => simp [intOf]; omega
    · obtain rfl : i = s.size := by omega
      by_cases hl : (s.size : Int) < n
      · have HA := Lib.hid (ans_less haw.out hl)
        by_cases h0 : 0 ≤ n
        · go_wp2_with fail
          go_ret2
          exact ⟨ret_two HA.out.1.symm HA.out.2.symm, hb.out⟩
        · omega
      · have HA := Lib.hid (ans_all haw.out hc.out hl)
        by_cases h0 : 0 ≤ n
        · go_wp2_with fail
          go_ret2
          exact ⟨ret_two HA.out.1.symm HA.out.2.symm, hb.out⟩
        · go_wp2_with fail
          go_ret2
          exact ⟨ret_two HA.out.1.symm HA.out.2.symm, hb.out⟩
end Go.Proofs.Ytgadpmddbkimfaa.nn
namespace Go.Proofs.Ytgadpmddbkimfaa.nn
open Go.RowKit

theorem rcheck_any (s : ByteArray) (w : World) (hs : s.size ≤ maxLen) :
    Calls Try.prog 53 #[.string s] w fun r w' => r = .returned (.tuple #[.int .i64 (ckA (bt s) s.size : Int), .int .i64 (ckE (bt s) s.size : Int)]) ∧ Below w.heap.size w w' := by
  have hC := rwithin_any s (-1) w hs (by omega) (by simp [maxLen])
  rw [spw_neg (by omega), wE_neg (by omega)] at hC
  have HC := Lib.hid hC
  clear hC
  have hA : ckA (bt s) s.size = sp (bt s) t0 s.size := rfl
  rw [hA]
  clear hA
  go_enter Try.func53, Try.ntmps53
  go_wp2_with fail
  refine HC.out.mono ?_
  rintro r w1 ⟨rfl, hb⟩
  go_wp2_with fail
  go_ret2
  exact ⟨rfl, hb⟩

theorem sc_new (w : World) : Sc (w.alloc (.cells #[.int .i64 0, .int .u8 0, .int .u8 0] 83)) w.heap.size 83 [] t0 := heap_alloc_last _ _

set_option maxRecDepth 100000 in
set_option maxHeartbeats 1000000 in
theorem check_any (s : ByteArray) (w : World) (hs : s.size ≤ maxLen) :
    Calls Try.prog 50 #[.string s] w fun r w' => r = .returned (.tuple #[.int .i64 (ckA (bt s) s.size : Int), .int .i64 (ckE (bt s) s.size : Int)]) ∧ Below w.heap.size w w' := by
  have HC := Lib.hid (takeS_any s t0 w.heap.size 0 83 [] _ (sc_new w) rfl gd_zero hs)
  have hle : sp (bt s) t0 s.size ≤ s.size := sp_le
  have H0 := Lib.hid (Below.refl w.heap.size w)
  have H1 := Lib.hid (fun o => (Below.refl w.heap.size w).alloc (Nat.le_refl _) o)
  unfold maxLen at hs
  by_cases hal : al (bt s) t0 s.size = true
  · have hE : ckA (bt s) s.size = s.size := sp_all hal
    rw [hE]
    rw [show sp (bt s) t0 s.size = s.size from hE] at HC
    have hc4 := gd_lt (gd_go gd_zero s.size (f := bt s))
    by_cases hz : (tk (bt s) t0 s.size).c = 0
    · have hE2 : ckE (bt s) s.size = 0 := by unfold ckE; rw [if_pos hal, if_pos hz]
      rw [hE2]
      have HZ := Lib.hid hz
      clear hz hE2 hE hal hle hc4
      go_enter Try.func50, Try.ntmps50
      go_wp2_with fail
      refine HC.out.mono ?_
      rintro r w1 ⟨rfl, hb, hsc⟩
      have c0 : w1.cell? ⟨w.heap.size, 0, none⟩ = some (.int .i64 0) := by
        have h := hsc.c0 (off := 0) rfl
        rw [HZ.out] at h
        exact h
      clear hsc
      go_wp2_with fail
      go_ret2
      exact ⟨rfl, (H1.out _).trans hb⟩
    · have hE2 : ckE (bt s) s.size = 3 := by unfold ckE; rw [if_pos hal, if_neg hz]
      rw [hE2]
      obtain ⟨c, hc⟩ : ∃ c, (tk (bt s) t0 s.size).c = c := ⟨_, rfl⟩
      have HZ := Lib.hid hc
      rw [hc] at hz hc4
      have hz' : 0 < c := by omega
      clear hz hE2 hE hal hle hc
      go_enter Try.func50, Try.ntmps50
      go_wp2_with fail
      refine HC.out.mono ?_
      rintro r w1 ⟨rfl, hb, hsc⟩
      have c0 := hsc.c0 (off := 0) rfl
      rw [HZ.out] at c0
      clear hsc
      go_wp2_with fail
      go_ret2
      exact ⟨rfl, (H1.out _).trans hb⟩
  · have hal' : al (bt s) t0 s.size = false := by simpa using hal
    have hE2 : ckE (bt s) s.size = 4 := by unfold ckE; rw [if_neg hal]
    rw [hE2]
    have hl := (sp_lt hal').1
    have hA : ckA (bt s) s.size = sp (bt s) t0 s.size := rfl
    rw [hA]
    clear hE2 hal hal' hA hle
    obtain ⟨p, hp⟩ : ∃ p, sp (bt s) t0 s.size = p := ⟨_, rfl⟩
    rw [hp] at HC hl
    rw [hp]
    clear hp
    go_enter Try.func50, Try.ntmps50
    go_wp2_with fail
    refine HC.out.mono ?_
    rintro r w1 ⟨rfl, hb, _⟩
    go_wp2_with fail
    go_ret2
    exact ⟨rfl, (H1.out _).trans hb⟩
end Go.Proofs.Ytgadpmddbkimfaa.nn
namespace Go.Proofs.Ytgadpmddbkimfaa.nn
open Go.RowKit

/-- could bytes be a great number's -/
def big (s : ByteArray) : Bool := decide (8 < s.size ∧ s.size ≤ 512 ∧ bt s 0 ≠ 0)
/-- of a tag: is what is within it a great number in another guise -/
def guise (n : Nat) (l : List VT) : Bool := match l with | [c] => decide (n = 2 ∨ n = 3) && (decide (c.k = 9) && big c.s) | _ => false
def sE (t : VT) : Bool := t.s.toList.isEmpty
def nE (t : VT) : Bool := (t.n : Int) == 0
/-- is a value right, whatever stands within it -/
def oneB (t : VT) : Bool :=
  if t.k = 0 ∨ t.k = 2 ∨ t.k = 11 then sE t && nE t && !t.g
  else if t.k = 1 then sE t && !t.g && decide (t.n ≤ 1)
  else if t.k = 3 then sE t && !t.g && decide (t.n ≤ 19 ∨ 32 ≤ t.n ∧ t.n ≤ 255)
  else if t.k = 4 then sE t
  else if t.k = 5 then nE t && big t.s
  else if t.k = 6 then sE t && !t.g && decide (t.n < 65536)
  else if t.k = 7 then sE t && !t.g && decide (t.n < 4294967296)
  else if t.k = 8 then sE t && !t.g
  else if t.k = 9 then nE t && !t.g
  else if t.k = 10 then nE t && !t.g && decide (ckE (bt t.s) t.s.size = 0)
  else if t.k = 12 then sE t && nE t && !t.g && decide (t.l.length % 2 = 0)
  else if t.k = 13 then sE t && !t.g && decide (t.l.length = 1) && !guise t.n t.l
  else if t.k = 14 then !t.g && decide (t.n ≤ 255)
  else false
set_option maxRecDepth 100000 in
theorem rbig_any (s : ByteArray) (w : World) : Calls Try.prog 52 #[.string s] w fun e w' => e = .returned (.bool (big s)) ∧ w = w' := by
  unfold big
  by_cases h1 : 8 < s.size
  · by_cases h2 : s.size ≤ 512
    · have h0 : 0 < s.size := by omega
      have hb := bt_at h0
      by_cases h3 : bt s 0 = 0
      · rw [decide_eq_false (by omega)]
        have q : ((s[0].toNat : Int) != 0) = false := by rw [← hb, h3]; rfl
        clear hb h3
        go_enter Try.func52, Try.ntmps52
        go_wp2_with fail
        go_ret
        exact ⟨rfl, rfl⟩
      · rw [decide_eq_true ⟨h1, h2, h3⟩]
        have q : ((s[0].toNat : Int) != 0) = true := by rw [← hb]; simp; omega
        clear hb h3
        go_enter Try.func52, Try.ntmps52
        go_wp2_with fail
        go_ret
        exact ⟨rfl, rfl⟩
    · rw [decide_eq_false (by omega)]
      go_enter Try.func52, Try.ntmps52
      go_wp2_with fail
      go_ret
      exact ⟨rfl, rfl⟩
  · rw [decide_eq_false (by omega)]
    go_enter Try.func52, Try.ntmps52
    go_wp2_with fail
    go_ret
    exact ⟨rfl, rfl⟩
set_option maxRecDepth 100000 in
set_option maxHeartbeats 2000000 in
theorem one_0 (t : VT) (C : Value) (w : World) (hk : t.k = 0) : Calls Try.prog 47 #[vv t C] w fun e w' => e = .returned (.bool (sE t && nE t && !t.g)) ∧ Below w.heap.size w w' := by
  have HA := Lib.hid (fun o => (Below.refl w.heap.size w).alloc (Nat.le_refl _) o)
  obtain ⟨B1, h1⟩ : ∃ B1, t.s.toList.isEmpty = B1 := ⟨_, rfl⟩
  obtain ⟨B2, h2⟩ : ∃ B2, ((t.n : Int) == 0) = B2 := ⟨_, rfl⟩
  obtain ⟨B3, h3⟩ : ∃ B3, t.g = B3 := ⟨_, rfl⟩
  unfold vv sE nE
  rw [h1, h2, h3]
  rw [hk]
  clear hk h3
  go_enter Try.func47, Try.ntmps47
  go_wp2_with fail
  all_goals
    go_ret
    exact ⟨by simp_all <;> omega, HA.out _⟩
set_option maxRecDepth 100000 in
set_option maxHeartbeats 2000000 in
theorem one_2 (t : VT) (C : Value) (w : World) (hk : t.k = 2) : Calls Try.prog 47 #[vv t C] w fun e w' => e = .returned (.bool (sE t && nE t && !t.g)) ∧ Below w.heap.size w w' := by
  have HA := Lib.hid (fun o => (Below.refl w.heap.size w).alloc (Nat.le_refl _) o)
  obtain ⟨B1, h1⟩ : ∃ B1, t.s.toList.isEmpty = B1 := ⟨_, rfl⟩
  obtain ⟨B2, h2⟩ : ∃ B2, ((t.n : Int) == 0) = B2 := ⟨_, rfl⟩
  obtain ⟨B3, h3⟩ : ∃ B3, t.g = B3 := ⟨_, rfl⟩
  unfold vv sE nE
  rw [h1, h2, h3]
  rw [hk]
  clear hk h3
  go_enter Try.func47, Try.ntmps47
  go_wp2_with fail
  all_goals
    go_ret
    exact ⟨by simp_all <;> omega, HA.out _⟩
set_option maxRecDepth 100000 in
set_option maxHeartbeats 2000000 in
theorem one_11 (t : VT) (C : Value) (w : World) (hk : t.k = 11) : Calls Try.prog 47 #[vv t C] w fun e w' => e = .returned (.bool (sE t && nE t && !t.g)) ∧ Below w.heap.size w w' := by
  have HA := Lib.hid (fun o => (Below.refl w.heap.size w).alloc (Nat.le_refl _) o)
  obtain ⟨B1, h1⟩ : ∃ B1, t.s.toList.isEmpty = B1 := ⟨_, rfl⟩
  obtain ⟨B2, h2⟩ : ∃ B2, ((t.n : Int) == 0) = B2 := ⟨_, rfl⟩
  obtain ⟨B3, h3⟩ : ∃ B3, t.g = B3 := ⟨_, rfl⟩
  unfold vv sE nE
  rw [h1, h2, h3]
  rw [hk]
  clear hk h3
  go_enter Try.func47, Try.ntmps47
  go_wp2_with fail
  all_goals
    go_ret
    exact ⟨by simp_all <;> omega, HA.out _⟩
set_option maxRecDepth 100000 in
set_option maxHeartbeats 2000000 in
theorem one_4 (t : VT) (C : Value) (w : World) (hk : t.k = 4) : Calls Try.prog 47 #[vv t C] w fun e w' => e = .returned (.bool (sE t)) ∧ Below w.heap.size w w' := by
  have HA := Lib.hid (fun o => (Below.refl w.heap.size w).alloc (Nat.le_refl _) o)
  obtain ⟨B1, h1⟩ : ∃ B1, t.s.toList.isEmpty = B1 := ⟨_, rfl⟩
  obtain ⟨B2, h2⟩ : ∃ B2, ((t.n : Int) == 0) = B2 := ⟨_, rfl⟩
  obtain ⟨B3, h3⟩ : ∃ B3, t.g = B3 := ⟨_, rfl⟩
  unfold vv sE
  rw [h1, h3]
  rw [hk]
  clear hk h3
  go_enter Try.func47, Try.ntmps47
  go_wp2_with fail
  all_goals
    go_ret
    exact ⟨by simp_all <;> omega, HA.out _⟩
set_option maxRecDepth 100000 in
set_option maxHeartbeats 2000000 in
theorem one_8 (t : VT) (C : Value) (w : World) (hk : t.k = 8) : Calls Try.prog 47 #[vv t C] w fun e w' => e = .returned (.bool (sE t && !t.g)) ∧ Below w.heap.size w w' := by
  have HA := Lib.hid (fun o => (Below.refl w.heap.size w).alloc (Nat.le_refl _) o)
  obtain ⟨B1, h1⟩ : ∃ B1, t.s.toList.isEmpty = B1 := ⟨_, rfl⟩
  obtain ⟨B2, h2⟩ : ∃ B2, ((t.n : Int) == 0) = B2 := ⟨_, rfl⟩
  obtain ⟨B3, h3⟩ : ∃ B3, t.g = B3 := ⟨_, rfl⟩
  unfold vv sE
  rw [h1, h3]
  rw [hk]
  clear hk h3
  go_enter Try.func47, Try.ntmps47
  go_wp2_with fail
  all_goals
    go_ret
    exact ⟨by simp_all <;> omega, HA.out _⟩
set_option maxRecDepth 100000 in
set_option maxHeartbeats 2000000 in
theorem one_9 (t : VT) (C : Value) (w : World) (hk : t.k = 9) : Calls Try.prog 47 #[vv t C] w fun e w' => e = .returned (.bool (nE t && !t.g)) ∧ Below w.heap.size w w' := by
  have HA := Lib.hid (fun o => (Below.refl w.heap.size w).alloc (Nat.le_refl _) o)
  obtain ⟨B1, h1⟩ : ∃ B1, t.s.toList.isEmpty = B1 := ⟨_, rfl⟩
  obtain ⟨B2, h2⟩ : ∃ B2, ((t.n : Int) == 0) = B2 := ⟨_, rfl⟩
  obtain ⟨B3, h3⟩ : ∃ B3, t.g = B3 := ⟨_, rfl⟩
  unfold vv nE
  rw [h2, h3]
  rw [hk]
  clear hk h3
  go_enter Try.func47, Try.ntmps47
  go_wp2_with fail
  all_goals
    go_ret
    exact ⟨by simp_all <;> omega, HA.out _⟩
set_option maxRecDepth 100000 in
set_option maxHeartbeats 2000000 in
theorem one_1 (t : VT) (C : Value) (w : World) (hk : t.k = 1) : Calls Try.prog 47 #[vv t C] w fun e w' => e = .returned (.bool (sE t && !t.g && decide (t.n ≤ 1))) ∧ Below w.heap.size w w' := by
  have HA := Lib.hid (fun o => (Below.refl w.heap.size w).alloc (Nat.le_refl _) o)
  obtain ⟨B1, h1⟩ : ∃ B1, t.s.toList.isEmpty = B1 := ⟨_, rfl⟩
  obtain ⟨B2, h2⟩ : ∃ B2, ((t.n : Int) == 0) = B2 := ⟨_, rfl⟩
  obtain ⟨B3, h3⟩ : ∃ B3, t.g = B3 := ⟨_, rfl⟩
  unfold vv sE
  rw [h1, h3]
  rw [hk]
  clear hk h3
  by_cases h4 : t.n ≤ 1
  · rw [decide_eq_true h4]
    go_enter Try.func47, Try.ntmps47
    go_wp2_with fail
    all_goals
      go_ret
      exact ⟨by simp_all <;> omega, HA.out _⟩
  · rw [decide_eq_false h4]
    go_enter Try.func47, Try.ntmps47
    go_wp2_with fail
    all_goals
      go_ret
      exact ⟨by simp_all <;> omega, HA.out _⟩
set_option maxRecDepth 100000 in
set_option maxHeartbeats 2000000 in
theorem one_6 (t : VT) (C : Value) (w : World) (hk : t.k = 6) : Calls Try.prog 47 #[vv t C] w fun e w' => e = .returned (.bool (sE t && !t.g && decide (t.n < 65536))) ∧ Below w.heap.size w w' := by
  have HA := Lib.hid (fun o => (Below.refl w.heap.size w).alloc (Nat.le_refl _) o)
  obtain ⟨B1, h1⟩ : ∃ B1, t.s.toList.isEmpty = B1 := ⟨_, rfl⟩
  obtain ⟨B2, h2⟩ : ∃ B2, ((t.n : Int) == 0) = B2 := ⟨_, rfl⟩
  obtain ⟨B3, h3⟩ : ∃ B3, t.g = B3 := ⟨_, rfl⟩
  unfold vv sE
  rw [h1, h3]
  rw [hk]
  clear hk h3
  by_cases h4 : t.n < 65536
  · rw [decide_eq_true h4]
    go_enter Try.func47, Try.ntmps47
    go_wp2_with fail
    all_goals
      go_ret
      exact ⟨by simp_all <;> omega, HA.out _⟩
  · rw [decide_eq_false h4]
    go_enter Try.func47, Try.ntmps47
    go_wp2_with fail
    all_goals
      go_ret
      exact ⟨by simp_all <;> omega, HA.out _⟩
set_option maxRecDepth 100000 in
set_option maxHeartbeats 2000000 in
theorem one_7 (t : VT) (C : Value) (w : World) (hk : t.k = 7) : Calls Try.prog 47 #[vv t C] w fun e w' => e = .returned (.bool (sE t && !t.g && decide (t.n < 4294967296))) ∧ Below w.heap.size w w' := by
  have HA := Lib.hid (fun o => (Below.refl w.heap.size w).alloc (Nat.le_refl _) o)
  obtain ⟨B1, h1⟩ : ∃ B1, t.s.toList.isEmpty = B1 := ⟨_, rfl⟩
  obtain ⟨B2, h2⟩ : ∃ B2, ((t.n : Int) == 0) = B2 := ⟨_, rfl⟩
  obtain ⟨B3, h3⟩ : ∃ B3, t.g = B3 := ⟨_, rfl⟩
  unfold vv sE
  rw [h1, h3]
  rw [hk]
  clear hk h3
  by_cases h4 : t.n < 4294967296
  · rw [decide_eq_true h4]
    go_enter Try.func47, Try.ntmps47
    go_wp2_with fail
    all_goals
      go_ret
      exact ⟨by simp_all <;> omega, HA.out _⟩
  · rw [decide_eq_false h4]
    go_enter Try.func47, Try.ntmps47
    go_wp2_with fail
    all_goals
      go_ret
      exact ⟨by simp_all <;> omega, HA.out _⟩
set_option maxRecDepth 100000 in
set_option maxHeartbeats 2000000 in
theorem one_14 (t : VT) (C : Value) (w : World) (hk : t.k = 14) : Calls Try.prog 47 #[vv t C] w fun e w' => e = .returned (.bool (!t.g && decide (t.n ≤ 255))) ∧ Below w.heap.size w w' := by
  have HA := Lib.hid (fun o => (Below.refl w.heap.size w).alloc (Nat.le_refl _) o)
  obtain ⟨B1, h1⟩ : ∃ B1, t.s.toList.isEmpty = B1 := ⟨_, rfl⟩
  obtain ⟨B2, h2⟩ : ∃ B2, ((t.n : Int) == 0) = B2 := ⟨_, rfl⟩
  obtain ⟨B3, h3⟩ : ∃ B3, t.g = B3 := ⟨_, rfl⟩
  unfold vv
  rw [h3]
  rw [hk]
  clear hk h3
  by_cases h4 : t.n ≤ 255
  · rw [decide_eq_true h4]
    go_enter Try.func47, Try.ntmps47
    go_wp2_with fail
    all_goals
      go_ret
      exact ⟨by simp_all <;> omega, HA.out _⟩
  · rw [decide_eq_false h4]
    go_enter Try.func47, Try.ntmps47
    go_wp2_with fail
    all_goals
      go_ret
      exact ⟨by simp_all <;> omega, HA.out _⟩
set_option maxRecDepth 100000 in
set_option maxHeartbeats 2000000 in
theorem one_3 (t : VT) (C : Value) (w : World) (hk : t.k = 3) : Calls Try.prog 47 #[vv t C] w fun e w' => e = .returned (.bool (sE t && !t.g && decide (t.n ≤ 19 ∨ 32 ≤ t.n ∧ t.n ≤ 255))) ∧ Below w.heap.size w w' := by
  have HA := Lib.hid (fun o => (Below.refl w.heap.size w).alloc (Nat.le_refl _) o)
  obtain ⟨B1, h1⟩ : ∃ B1, t.s.toList.isEmpty = B1 := ⟨_, rfl⟩
  obtain ⟨B2, h2⟩ : ∃ B2, ((t.n : Int) == 0) = B2 := ⟨_, rfl⟩
  obtain ⟨B3, h3⟩ : ∃ B3, t.g = B3 := ⟨_, rfl⟩
  unfold vv sE
  rw [h1, h3]
  rw [hk]
  clear hk h3
  by_cases h4 : t.n ≤ 19
  · rw [decide_eq_true (.inl h4)]
    go_enter Try.func47, Try.ntmps47
    go_wp2_with fail
    all_goals
      go_ret
      exact ⟨by simp_all <;> omega, HA.out _⟩
  · by_cases h5 : 32 ≤ t.n
    · by_cases h6 : t.n ≤ 255
      · rw [decide_eq_true (.inr ⟨h5, h6⟩)]
        go_enter Try.func47, Try.ntmps47
        go_wp2_with fail
        all_goals
          go_ret
          exact ⟨by simp_all <;> omega, HA.out _⟩
      · rw [decide_eq_false (by omega)]
        go_enter Try.func47, Try.ntmps47
        go_wp2_with fail
        all_goals
          go_ret
          exact ⟨by simp_all <;> omega, HA.out _⟩
    · rw [decide_eq_false (by omega)]
      go_enter Try.func47, Try.ntmps47
      go_wp2_with fail
      all_goals
        go_ret
        exact ⟨by simp_all <;> omega, HA.out _⟩
end Go.Proofs.Ytgadpmddbkimfaa.nn
namespace Go.Proofs.Ytgadpmddbkimfaa.nn
open Go.RowKit

theorem ne_int8 {c k : Int} (h : c ≠ k) : (c == k) = false := by simp [h]
set_option maxRecDepth 100000 in
set_option maxHeartbeats 2000000 in
theorem one_5 (t : VT) (C : Value) (w : World) (hk : t.k = 5) : Calls Try.prog 47 #[vv t C] w fun e w' => e = .returned (.bool (nE t && big t.s)) ∧ Below w.heap.size w w' := by
  have HA := Lib.hid (fun o => (Below.refl w.heap.size w).alloc (Nat.le_refl _) o)
  obtain ⟨B1, h1⟩ : ∃ B1, t.s.toList.isEmpty = B1 := ⟨_, rfl⟩
  obtain ⟨B2, h2⟩ : ∃ B2, ((t.n : Int) == 0) = B2 := ⟨_, rfl⟩
  obtain ⟨B3, h3⟩ : ∃ B3, t.g = B3 := ⟨_, rfl⟩
  unfold vv nE
  rw [h2, h3]
  rw [hk]
  clear hk h3
  have hg := fun w => rbig_any t.s w
  obtain ⟨G, hG⟩ : ∃ G, big t.s = G := ⟨_, rfl⟩
  rw [hG] at hg ⊢
  have HG := Lib.hid hg
  clear hG hg
  cases B2
  · go_enter Try.func47, Try.ntmps47
    go_wp2_with fail
    all_goals
      go_ret
      exact ⟨by simp_all <;> omega, HA.out _⟩
  · go_enter Try.func47, Try.ntmps47
    go_wp2_with fail
    refine (HG.out _).mono ?_
    rintro e w2 ⟨rfl, rfl⟩
    go_wp2_with fail
    all_goals
      go_ret
      exact ⟨by simp_all <;> omega, HA.out _⟩
set_option maxRecDepth 100000 in
set_option maxHeartbeats 2000000 in
theorem one_10 (t : VT) (C : Value) (w : World) (hk : t.k = 10) (hs : t.s.size ≤ maxLen) : Calls Try.prog 47 #[vv t C] w fun e w' => e = .returned (.bool (nE t && !t.g && decide (ckE (bt t.s) t.s.size = 0))) ∧ Below w.heap.size w w' := by
  have HA := Lib.hid (fun o => (Below.refl w.heap.size w).alloc (Nat.le_refl _) o)
  obtain ⟨B1, h1⟩ : ∃ B1, t.s.toList.isEmpty = B1 := ⟨_, rfl⟩
  obtain ⟨B2, h2⟩ : ∃ B2, ((t.n : Int) == 0) = B2 := ⟨_, rfl⟩
  obtain ⟨B3, h3⟩ : ∃ B3, t.g = B3 := ⟨_, rfl⟩
  unfold vv nE
  rw [h2, h3]
  rw [hk]
  clear hk h3
  have hg := fun w => rcheck_any t.s w hs
  obtain ⟨x, hx⟩ : ∃ x, ckA (bt t.s) t.s.size = x := ⟨_, rfl⟩
  obtain ⟨y, hy⟩ : ∃ y, ckE (bt t.s) t.s.size = y := ⟨_, rfl⟩
  rw [hx, hy] at hg
  rw [hy]
  have HG := Lib.hid hg
  clear hx hy hg hs
  have HZ : Hid (∀ o W, Below (w.alloc o).heap.size (w.alloc o) W → Below w.heap.size w W) := Lib.hid fun o W hW => (HA.out o).trans (hW.mono (by simp))
  by_cases h4 : y = 0
  · subst h4
    rw [decide_eq_true rfl]
    go_enter Try.func47, Try.ntmps47
    go_wp2_with fail
    refine (HG.out _).mono ?_
    rintro e w2 ⟨rfl, hb2⟩
    have hk2 := Lib.hid (HZ.out _ _ hb2)
    clear hb2
    go_wp2_with fail
    all_goals
      go_ret
      exact ⟨by simp_all, hk2.out⟩
  · have q4 := ne_int8 (c := (y : Int)) (k := 0) (by omega)
    rw [decide_eq_false h4]
    go_enter Try.func47, Try.ntmps47
    go_wp2_with fail
    refine (HG.out _).mono ?_
    rintro e w2 ⟨rfl, hb2⟩
    have hk2 := Lib.hid (HZ.out _ _ hb2)
    clear hb2
    go_wp2_with fail
    all_goals
      go_ret
      exact ⟨by simp_all, hk2.out⟩
set_option maxRecDepth 100000 in
set_option maxHeartbeats 2000000 in
theorem one_12 (t : VT) (C : Value) (w : World) (hk : t.k = 12) (A : Option Addr) (m c : Nat) (hC : C = .slice A m c) (hm : m ≤ 4611686018427387904) : Calls Try.prog 47 #[vv t C] w fun e w' => e = .returned (.bool (sE t && nE t && !t.g && decide (m % 2 = 0))) ∧ Below w.heap.size w w' := by
  have HA := Lib.hid (fun o => (Below.refl w.heap.size w).alloc (Nat.le_refl _) o)
  obtain ⟨B1, h1⟩ : ∃ B1, t.s.toList.isEmpty = B1 := ⟨_, rfl⟩
  obtain ⟨B2, h2⟩ : ∃ B2, ((t.n : Int) == 0) = B2 := ⟨_, rfl⟩
  obtain ⟨B3, h3⟩ : ∃ B3, t.g = B3 := ⟨_, rfl⟩
  unfold vv sE nE
  rw [h1, h2, h3]
  rw [hk]
  clear hk h3
  subst hC
  by_cases h4 : m % 2 = 0
  · have q4 : (m : Int) % 2 = 0 := by omega
    rw [decide_eq_true h4]
    go_enter Try.func47, Try.ntmps47
    go_wp2_with fail
    all_goals
      go_ret
      exact ⟨by simp_all <;> omega, HA.out _⟩
  · have q4 : (m : Int) % 2 = 1 := by omega
    rw [decide_eq_false h4]
    go_enter Try.func47, Try.ntmps47
    go_wp2_with fail
    all_goals
      go_ret
      exact ⟨by simp_all <;> omega, HA.out _⟩
set_option maxRecDepth 100000 in
set_option maxHeartbeats 2000000 in
theorem one_13a (t : VT) (C : Value) (w : World) (hk : t.k = 13) (A : Option Addr) (m c : Nat) (hC : C = .slice A m c) (hm : m ≠ 1) : Calls Try.prog 47 #[vv t C] w fun e w' => e = .returned (.bool (sE t && !t.g && false)) ∧ Below w.heap.size w w' := by
  have HA := Lib.hid (fun o => (Below.refl w.heap.size w).alloc (Nat.le_refl _) o)
  obtain ⟨B1, h1⟩ : ∃ B1, t.s.toList.isEmpty = B1 := ⟨_, rfl⟩
  obtain ⟨B2, h2⟩ : ∃ B2, ((t.n : Int) == 0) = B2 := ⟨_, rfl⟩
  obtain ⟨B3, h3⟩ : ∃ B3, t.g = B3 := ⟨_, rfl⟩
  unfold vv sE
  rw [h1, h3]
  rw [hk]
  clear hk h3
  subst hC
  have q4 := ne_int8 (c := (m : Int)) (k := 1) (by omega)
  go_enter Try.func47, Try.ntmps47
  go_wp2_with fail
  all_goals
    go_ret
    exact ⟨by simp_all <;> omega, HA.out _⟩
set_option maxRecDepth 100000 in
set_option maxHeartbeats 2000000 in
theorem one_13b (t : VT) (C : Value) (w : World) (hk : t.k = 13) (b off c : Nat) (x : VT) (D : Value) (hC : C = .slice (some ⟨b, off, none⟩) 1 c) (hb : b < w.heap.size) (hr : Row w b off x D) : Calls Try.prog 47 #[vv t C] w fun e w' => e = .returned (.bool (sE t && !t.g && !(decide (t.n = 2 ∨ t.n = 3) && (decide (x.k = 9) && big x.s)))) ∧ Below w.heap.size w w' := by
  have HA := Lib.hid (fun o => (Below.refl w.heap.size w).alloc (Nat.le_refl _) o)
  obtain ⟨B1, h1⟩ : ∃ B1, t.s.toList.isEmpty = B1 := ⟨_, rfl⟩
  obtain ⟨B2, h2⟩ : ∃ B2, ((t.n : Int) == 0) = B2 := ⟨_, rfl⟩
  obtain ⟨B3, h3⟩ : ∃ B3, t.g = B3 := ⟨_, rfl⟩
  unfold vv sE
  rw [h1, h3]
  rw [hk]
  clear hk h3
  subst hC
  have hg := fun w => rbig_any x.s w
  have r0 : ∀ o, (w.alloc o).cell? ⟨b, off, none⟩ = some (.int .i64 x.k) := fun o => (HA.out o).cell (p := ⟨b, off, none⟩) hb |>.trans hr.k
  have r3 : ∀ o, (w.alloc o).cell? ⟨b, off + 3, none⟩ = some (.string x.s) := fun o => (HA.out o).cell (p := ⟨b, off + 3, none⟩) hb |>.trans hr.s
  obtain ⟨xk, hxk⟩ : ∃ k, x.k = k := ⟨_, rfl⟩
  obtain ⟨xs, hxs⟩ : ∃ k, x.s = k := ⟨_, rfl⟩
  rw [hxk] at r0
  rw [hxs] at r3 hg
  rw [hxk, hxs]
  obtain ⟨G, hG⟩ : ∃ G, big xs = G := ⟨_, rfl⟩
  rw [hG] at hg ⊢
  have HG := Lib.hid hg
  clear hG hg hr hxk hxs hb
  by_cases h4 : t.n = 2 ∨ t.n = 3
  · rw [decide_eq_true h4]
    by_cases h5 : xk = 9
    · subst h5
      cases B1
      · have h6 := h4
        clear h4
        go_enter Try.func47, Try.ntmps47
        go_wp2_with fail
        all_goals
          go_ret
          exact ⟨by simp_all <;> omega, HA.out _⟩
      · cases B3
        · rcases h4 with h4 | h4
          · have q1 : ((t.n : Int) == 2) = true := by rw [h4]; rfl
            clear h4
            go_enter Try.func47, Try.ntmps47
            go_wp2_with fail
            refine (HG.out _).mono ?_
            rintro e w2 ⟨rfl, rfl⟩
            go_wp2_with fail
            cases G
            all_goals
              go_ret
              exact ⟨by simp_all <;> omega, HA.out _⟩
          · have q1 : ((t.n : Int) == 2) = false := by rw [h4]; rfl
            have q2 : ((t.n : Int) == 3) = true := by rw [h4]; rfl
            clear h4
            go_enter Try.func47, Try.ntmps47
            go_wp2_with fail
            refine (HG.out _).mono ?_
            rintro e w2 ⟨rfl, rfl⟩
            go_wp2_with fail
            cases G
            all_goals
              go_ret
              exact ⟨by simp_all <;> omega, HA.out _⟩
        · have h6 := h4
          clear h4
          go_enter Try.func47, Try.ntmps47
          go_wp2_with fail
          all_goals
            go_ret
            exact ⟨by simp_all <;> omega, HA.out _⟩
    · have q5 := ne_int8 (c := xk) (k := 9) h5
      rw [decide_eq_false h5]
      rcases h4 with h4 | h4
      · have q1 : ((t.n : Int) == 2) = true := by rw [h4]; rfl
        clear h4 h5
        go_enter Try.func47, Try.ntmps47
        go_wp2_with fail
        all_goals
          go_ret
          exact ⟨by simp_all <;> omega, HA.out _⟩
      · have q1 : ((t.n : Int) == 2) = false := by rw [h4]; rfl
        have q2 : ((t.n : Int) == 3) = true := by rw [h4]; rfl
        clear h4 h5
        go_enter Try.func47, Try.ntmps47
        go_wp2_with fail
        all_goals
          go_ret
          exact ⟨by simp_all <;> omega, HA.out _⟩
  · rw [decide_eq_false h4]
    have q1 := ne_int8 (c := (t.n : Int)) (k := 2) (by omega)
    have q2 := ne_int8 (c := (t.n : Int)) (k := 3) (by omega)
    clear h4
    go_enter Try.func47, Try.ntmps47
    go_wp2_with fail
    all_goals
      go_ret
      exact ⟨by simp_all <;> omega, HA.out _⟩
set_option maxRecDepth 100000 in
set_option maxHeartbeats 2000000 in
theorem one_none (t : VT) (C : Value) (w : World) (hk : ∀ j : Nat, j ≤ 14 → t.k ≠ (j : Int)) : Calls Try.prog 47 #[vv t C] w fun e w' => e = .returned (.bool false) ∧ Below w.heap.size w w' := by
  have HA := Lib.hid (fun o => (Below.refl w.heap.size w).alloc (Nat.le_refl _) o)
  unfold vv
  obtain ⟨k, hkk⟩ : ∃ k, t.k = k := ⟨_, rfl⟩
  rw [hkk] at hk ⊢
  have q0 := ne_int8 (c := k) (k := 0) (hk 0 (by decide))
  have q1 := ne_int8 (c := k) (k := 1) (hk 1 (by decide))
  have q2 := ne_int8 (c := k) (k := 2) (hk 2 (by decide))
  have q3 := ne_int8 (c := k) (k := 3) (hk 3 (by decide))
  have q4 := ne_int8 (c := k) (k := 4) (hk 4 (by decide))
  have q5 := ne_int8 (c := k) (k := 5) (hk 5 (by decide))
  have q6 := ne_int8 (c := k) (k := 6) (hk 6 (by decide))
  have q7 := ne_int8 (c := k) (k := 7) (hk 7 (by decide))
  have q8 := ne_int8 (c := k) (k := 8) (hk 8 (by decide))
  have q9 := ne_int8 (c := k) (k := 9) (hk 9 (by decide))
  have q10 := ne_int8 (c := k) (k := 10) (hk 10 (by decide))
  have q11 := ne_int8 (c := k) (k := 11) (hk 11 (by decide))
  have q12 := ne_int8 (c := k) (k := 12) (hk 12 (by decide))
  have q13 := ne_int8 (c := k) (k := 13) (hk 13 (by decide))
  have q14 := ne_int8 (c := k) (k := 14) (hk 14 (by decide))
  clear hk hkk
  go_enter Try.func47, Try.ntmps47
  go_wp2_with fail
  all_goals
    go_ret
    exact ⟨by first | rfl | simp_all, HA.out _⟩
end Go.Proofs.Ytgadpmddbkimfaa.nn
namespace Go.Proofs.Ytgadpmddbkimfaa.nn
open Go.RowKit

set_option maxRecDepth 100000 in
set_option maxHeartbeats 1000000 in
theorem rcount_any (N : Nat) : ∀ (t : VT) (C : Value) (w : World), cnt t ≤ N → N ≤ 4611686018427387904 → Lst w C t.l →
    Calls Try.prog 33 #[vv t C] w fun e w' => e = .returned (.int .i64 (cnt t : Int)) ∧ Below w.heap.size w w' := by
  induction N with
  | zero => intro t C w h _ _; have := cnt_mk t; omega
  | succ N ih =>
    intro t C w hN hM hC
    have HC := Lib.hid hC
    obtain ⟨A, c, rfl, hlc, hA⟩ := hC.out
    have hcm := cnt_mk t
    obtain ⟨l, hl⟩ : ∃ l, t.l = l := ⟨_, rfl⟩
    rw [hl] at hlc hA hcm HC ⊢
    have hll := len_cntL l
    unfold vv
    go_enter Try.func33, Try.ntmps33
    have HB0 := Lib.hid (Box.new w t (.slice A l.length c) 25)
    go_wp2_with fail
    go_loopw [3, 4] (fun s3 s4 wr => ∃ i m : Nat, i ≤ l.length ∧ m ≤ N + 1 ∧ s3 = .int .i64 (m : Int) ∧ s4 = .int .i64 (i : Int) ∧ Hid (m = cntL (l.take i) + 1) ∧ Hid (Box w t (.slice A l.length c) wr)) (fun _ s4 _ => l.length - (intOf s4).toNat)
    case atStart => exact ⟨0, 1, Nat.zero_le _, by omega, rfl, rfl, Lib.hid rfl, HB0⟩
    case round =>
      obtain ⟨i, m, hi, hmN, rfl, rfl, hm, hk⟩ := hrel
      have h4 : wr.cell? ⟨w.heap.size, 4, none⟩ = some (.slice A l.length c) := hk.out.r.l
      by_cases hlt : i < l.length
      · rcases hA with ⟨_, h0, _⟩ | ⟨b, off, D, rfl, hb, hrow, hkid⟩
        · rw [h0] at hlt; exact absurd hlt (by simp)
        · obtain ⟨t', ht'⟩ : ∃ t', l[i] = t' := ⟨_, rfl⟩
          obtain ⟨C', hC'⟩ : ∃ C', D i = C' := ⟨_, rfl⟩
          have hr := hrow i hlt
          have hkl := hkid i hlt
          rw [ht', hC'] at hr hkl
          have hr2 := hr.below hk.out.b hb
          have r0 := hr2.k
          have r1 := hr2.g
          have r2 := hr2.n
          have r3 := hr2.s
          have r4 := hr2.l
          have hcn := cnt_at hlt
          rw [ht'] at hcn
          have hsum := cntL_take_succ hlt
          rw [ht'] at hsum
          have hle := cntL_take_le l (i + 1)
          have hm2 : Hid (m + cnt t' = cntL (l.take (i + 1)) + 1) := Lib.hid (by rw [hsum, hm.out]; omega)
          have hmb : m + cnt t' ≤ N + 1 := by rw [hm2.out]; omega
          have HI := Lib.hid (ih t' C' wr (by omega) (by omega) (hkl.keep hk.out.b (Nat.le_refl _)))
          have hcb : cnt t' ≤ N + 1 := by omega
          obtain ⟨k, hk'⟩ : ∃ k, cnt t' = k := ⟨_, rfl⟩
          rw [hk'] at HI hmb hm2 hcb
          unfold vv at HI
          clear hr hr2 hkl hrow hkid ht' hC' hcn hsum hle hk' ih
          go_wp2_with fail
          refine HI.out.mono ?_
          rintro e w2 ⟨rfl, hb2⟩
          have hk2 := Lib.hid (hk.out.on hb2)
          clear hb2 r0 r1 r2 r3 r4 h4
          go_wp2_with fail
          go_roundw
          case rel => exact ⟨i + 1, m + k, hlt, hmb, by go_num, by go_num, hm2, hk2⟩
          case measure => simp [intOf]; omega
      · obtain rfl : i = l.length := by omega
        have hmt : (m : Int) = (cnt t : Int) := by rw [hm.out, List.take_length, ← hcm]
        have HT := Lib.hid hmt
        clear hmt
        go_wp2_with fail
        go_ret
        exact ⟨by rw [HT.out]; rfl, hk.out.b⟩
end Go.Proofs.Ytgadpmddbkimfaa.nn
