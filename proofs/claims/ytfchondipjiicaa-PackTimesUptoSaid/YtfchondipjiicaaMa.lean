/- Joined texts, what is wanted of them: Num, Mem, Append, Bt, Bytes, List, Tree, RefLeaf, Write, AddRel, Long, Add, Awake, RefSum, BitsNum, NatBytes, RefBytes, CbA, Utf, Behind, Take, TakeAll, Check, RefOne, RefOne2, RefRight, RefChk, PkA, PkW, PkX, Bits, HdB, HdD, TmA, PkI. -/
import Derived.Below
import Derived.Laws.OwnMore
import Derived.Deep.AppendLies
import Derived.Deep.Draws
import Derived.Maps.AppendAt
import Derived.RegionTactic
import Derived.OwnWalk
import Derived.Deep.RegionLaw
import Derived.WalkKit
import Derived.Test.YtfchondipjiicaaProg
import Derived.Laws.BytesArg
import Derived.Lib.UnsafeStr
import Derived.Lib.AppendStr
import Derived.Lib.Hide
import Derived.Lib.MinMax
import Derived.Deep.QuietTactic
import Derived.BigQuiet
import Derived.IntWalk
import Derived.Laws.Rows
import Derived.WalkSpells
import Derived.Deep.RegionHeld3
import Derived.Laws.BitsAllLaws
import Derived.Test.YtfchondipjiicaaShelf
import Derived.Deep.RegionWith
import Derived.Lib.BitFns
import Derived.Deep.CutBlock
import Derived.Deep.DeepCutAuto
import Derived.KernelRfl
import Derived.Deep.WholeRow
import Derived.Great.Walk
import Derived.StillTailTactics
import Derived.Lib.Builder
import Derived.Shelf.RegionOpen
import Derived.RowKit
import Derived.Laws.AppendOwn
import Derived.RangeFuncNested
import Derived.RangeFuncBound
import Derived.RangeFuncCalls
import Derived.RangeFuncLeaves
import Derived.Shelf.Abstract
import Derived.OwnWalkIn
import Derived.TacticsInMore
import Derived.Test.YtfchondipjiicaaRows
import Derived.ProofKit
import Derived.SizedLaws
import Derived.ChangeMaps5
import Derived.Deep.Slices
import Derived.Deep.Fields
namespace Go.Proofs.Ytfchondipjiicaa.nn

/-- the value of n limbs of f at base B, the lowest first -/
def sm (B : Nat) (f : Nat → Nat) : Nat → Nat
  | 0 => 0
  | n + 1 => sm B f n + f n * B ^ n

/-- all limbs below B -/
def Lt (B : Nat) (f : Nat → Nat) (n : Nat) : Prop := ∀ i, i < n → f i < B

/-- trimmed: no zero limb at the end -/
def Trm (f : Nat → Nat) (n : Nat) : Prop := n = 0 ∨ f (n - 1) ≠ 0

/-- f with x at place k -/
def upd (f : Nat → Nat) (k x : Nat) : Nat → Nat := fun i => if i = k then x else f i

theorem upd_at (f : Nat → Nat) (k x : Nat) : upd f k x k = x := by simp [upd]
theorem upd_ne (f : Nat → Nat) {k x i : Nat} (h : i ≠ k) : upd f k x i = f i := by simp [upd, h]

theorem sm_congr (B : Nat) {f g : Nat → Nat} {n : Nat} (h : ∀ i, i < n → f i = g i) : sm B f n = sm B g n := by
  induction n with
  | zero => rfl
  | succ n ih => rw [sm, sm, ih (fun i hi => h i (by omega)), h n (by omega)]

theorem Lt.mono {B : Nat} {f : Nat → Nat} {n m : Nat} (h : Lt B f n) (hm : m ≤ n) : Lt B f m := fun i hi => h i (by omega)

theorem Lt.upd {B : Nat} {f : Nat → Nat} {n k x : Nat} (h : Lt B f n) (hx : x < B) : Lt B (upd f k x) n := fun i hi => by
  by_cases e : i = k
  · subst e; rw [upd_at]; exact hx
  · rw [upd_ne f e]; exact h i hi

theorem sm_upd_out (B : Nat) (f : Nat → Nat) {n k : Nat} (x : Nat) (h : n ≤ k) : sm B (upd f k x) n = sm B f n :=
  sm_congr B fun i hi => upd_ne f (by omega)

theorem sm_snoc (B : Nat) (f : Nat → Nat) (n x : Nat) : sm B (upd f n x) (n + 1) = sm B f n + x * B ^ n := by
  rw [sm, sm_upd_out B f x (Nat.le_refl n), upd_at]

/-- the value from place k on -/
theorem sm_split (B : Nat) (f : Nat → Nat) (k m : Nat) : sm B f (k + m) = sm B f k + sm B (fun i => f (k + i)) m * B ^ k := by
  induction m with
  | zero => simp [sm]
  | succ m ih =>
    rw [← Nat.add_assoc, sm, ih, sm, Nat.add_mul, Nat.pow_add, Nat.mul_assoc, Nat.mul_comm (B ^ m) (B ^ k)]
    omega

end Go.Proofs.Ytfchondipjiicaa.nn
namespace Go.Proofs.Ytfchondipjiicaa.nn
open Go.RowKit

/-- the slice at address A reads as n integers f 0 .. f (n - 1) of kind k, in a block that is there -/
def Rd (w : World) (k : IntKind) (A : Option Addr) (n : Nat) (f : Nat → Nat) : Prop :=
  0 < n → ∃ b off, A = some ⟨b, off, none⟩ ∧ b < w.heap.size ∧ ∀ i, i < n → w.cell? ⟨b, off + i, none⟩ = some (.int k (f i : Int))

section
variable {w w' : World} {k : IntKind} {A : Option Addr} {n m : Nat} {f g : Nat → Nat}

theorem Rd.keep (h : Rd w k A n f) (hs : w.heap.size ≤ w'.heap.size) (hk : ∀ b o, b < w.heap.size → w'.cell? ⟨b, o, none⟩ = w.cell? ⟨b, o, none⟩) : Rd w' k A n f := fun hn => by
  obtain ⟨b, off, e, hb, hc⟩ := h hn
  exact ⟨b, off, e, by omega, fun i hi => (hk b _ hb).trans (hc i hi)⟩
theorem Rd.below (h : Rd w k A n f) (hb : Below w.heap.size w w') : Rd w' k A n f :=
  h.keep hb.size fun b o hlt => hb.cell (p := ⟨b, o, none⟩) hlt
theorem Rd.drew (h : Rd w k A n f) : Rd w.drew k A n f := h
theorem Rd.drewN (h : Rd w k A n f) (j : Nat) : Rd (w.drewN j) k A n f := h
theorem Rd.alloc (h : Rd w k A n f) (o : Obj) : Rd (w.alloc o) k A n f :=
  h.keep (by simp) fun _ _ hlt => World.cell?_alloc_lt w o _ hlt
theorem Rd.mono (h : Rd w k A n f) (hm : m ≤ n) : Rd w k A m f := fun h0 => by
  obtain ⟨b, off, e, hb, hc⟩ := h (by omega)
  exact ⟨b, off, e, hb, fun i hi => hc i (by omega)⟩
theorem Rd.congr (h : Rd w k A n f) (e : ∀ i, i < n → f i = g i) : Rd w k A n g := fun h0 => by
  obtain ⟨b, off, ea, hb, hc⟩ := h h0
  exact ⟨b, off, ea, hb, fun i hi => by rw [← e i hi]; exact hc i hi⟩
theorem Rd.lt {b o : Nat} (h : Rd w k A n f) (e : A = some ⟨b, o, none⟩) (h0 : 0 < n) : b < w.heap.size := by
  obtain ⟨b', o', e', hb, _⟩ := h h0
  rw [e] at e'
  injection e' with e'
  injection e' with e'
  omega
theorem Rd.none_ : Rd w k A 0 f := fun h => absurd h (by omega)

/-- the limbs as a list of values -/
def vl (k : IntKind) (f : Nat → Nat) (n : Nat) : List Value := (List.range n).map fun i => .int k (f i : Int)

theorem vl_length (k : IntKind) (f : Nat → Nat) (n : Nat) : (vl k f n).length = n := by simp [vl]
theorem vl_at (k : IntKind) (f : Nat → Nat) {n i : Nat} (h : i < n) : (vl k f n)[i]? = some (.int k (f i : Int)) := by simp [vl, h]
theorem vl_congr (k : IntKind) {n : Nat} (e : ∀ i, i < n → f i = g i) : vl k f n = vl k g n :=
  List.map_congr_left fun i hi => by rw [e i (List.mem_range.1 hi)]
theorem vl_one (k : IntKind) (f : Nat → Nat) (n : Nat) : ∀ u ∈ vl k f n, u.oneCell' = true := by
  intro u hu
  obtain ⟨i, _, rfl⟩ := List.mem_map.1 hu
  rfl
theorem vl_append (k : IntKind) (f g : Nat → Nat) (n m : Nat) : vl k f n ++ vl k g m = vl k (fun i => if i < n then f i else g (i - n)) (n + m) := by
  induction m with
  | zero =>
    simp only [vl, List.range_zero, List.map_nil, List.append_nil, Nat.add_zero]
    exact List.map_congr_left fun i hi => by rw [if_pos (List.mem_range.1 hi)]
  | succ m ih =>
    have e1 : vl k g (m + 1) = vl k g m ++ [.int k (g m : Int)] := by simp [vl, List.range_succ]
    have e2 : vl k (fun i => if i < n then f i else g (i - n)) (n + (m + 1)) = vl k (fun i => if i < n then f i else g (i - n)) (n + m) ++ [.int k (g m : Int)] := by
      simp only [vl, ← Nat.add_assoc, List.range_succ, List.map_append, List.map_cons, List.map_nil]
      rw [if_neg (by omega), Nat.add_sub_cancel_left]
    rw [e1, e2, ← ih, List.append_assoc]

/-- what the call owns reads as its limbs -/
theorem Rd.of_own {base : Nat} {e : TypeId} {v : Value} (h : w.ownsRow base e 1 v n (vl k f n)) : ∃ A c, v = .slice A n c ∧ n ≤ c ∧ c ≤ maxLen ∧ Rd w k A n f := by
  have hh := h
  rcases h.2 with ⟨rfl, rfl⟩ | ⟨b, cap, cur, rfl, _, hb, hc, hm, _⟩
  · exact ⟨none, 0, rfl, Nat.le_refl _, by simp [maxLen], Rd.none_⟩
  · refine ⟨_, cap, rfl, hc, hm, fun _ => ⟨b, 0, rfl, (Array.getElem?_eq_some_iff.1 hb).1, fun i hi => ?_⟩⟩
    rw [Nat.zero_add, hh.cellAt i (by omega)]
    exact vl_at k f hi

end

end Go.Proofs.Ytfchondipjiicaa.nn
namespace Go.Proofs.Ytfchondipjiicaa.nn
open Go.RowKit

/-- n limbs of f, then h's -/
def jn (f : Nat → Nat) (n : Nat) (h : Nat → Nat) : Nat → Nat := fun i => if i < n then f i else h (i - n)
theorem jn_lo (f h : Nat → Nat) {n i : Nat} (hi : i < n) : jn f n h i = f i := by simp [jn, hi]
theorem jn_hi (f h : Nat → Nat) (n i : Nat) : jn f n h (n + i) = h i := by
  rw [jn, if_neg (by omega), Nat.add_sub_cancel_left]
theorem sm_jn (B : Nat) (f h : Nat → Nat) (n m : Nat) : sm B (jn f n h) (n + m) = sm B f n + sm B h m * B ^ n := by
  rw [sm_split, sm_congr B (f := jn f n h) (g := f) (fun i hi => jn_lo f h hi), sm_congr B (f := fun i => jn f n h (n + i)) (g := h) (fun i _ => jn_hi f h n i)]
theorem Lt.jn {B : Nat} {f h : Nat → Nat} {n m : Nat} (lf : Lt B f n) (lh : Lt B h m) : Lt B (nn.jn f n h) (n + m) := fun i hi => by
  by_cases e : i < n
  · rw [jn_lo f h e]; exact lf i e
  · have := jn_hi f h n (i - n)
    rw [show n + (i - n) = i from by omega] at this
    rw [this]; exact lh _ (by omega)

/-- a new block of one cell -/
theorem rd_one (w : World) (K : IntKind) (x : Nat) (e : TypeId) : Rd (w.alloc (.cells #[.int K (x : Int)] e)) K (some ⟨w.heap.size, 0, none⟩) 1 (fun _ => x) := fun _ =>
  ⟨w.heap.size, 0, rfl, by simp, fun i hi => by
    obtain rfl : i = 0 := by omega
    rw [World.cell?_alloc_at _ _ _ _ rfl]; rfl⟩

section
variable {P : Program} {w : World}

theorem run_app (base : Nat) (t ty e : TypeId) (i : TypeInfo) (z : Value) (bytes : Nat) (ht : P.underlying t = some (.slice e)) (hi : P.info? e = some i) (hz : i.zero = some z)
    (hsize : i.size = 1) (hby : i.bytes = bytes) (hzs : z.cells.size = 1)
    (K : IntKind) (v : Value) (n : Nat) (f : Nat → Nat) (hown : w.ownsRow base e 1 v n (vl K f n))
    (A : Option Addr) (m c : Nat) (h : Nat → Nat) (hr : Rd w K A m h) (h63 : n + m ≤ maxLen) (hbytes : (n + m) * bytes ≤ 140737488355328) (hbase : base ≤ w.heap.size) :
    ∃ v' w', (Builtin.append_ #[t, t] ty #[v, .slice A m c]).run P w = .ok v' w' ∧ w'.ownsRow base e 1 v' (n + m) (vl K (jn f n h) (n + m)) ∧ Below base w w' := by
  have hb0 : ∀ w' : World, w.grownBy w' v.ownBlock → Below base w w' := fun w' hg => (Below.refl base w).grown hg hbase (fun k hk => (hown.lt k hk).1)
  rcases A with _ | ad
  · have hm : m = 0 := by
      rcases Nat.eq_zero_or_pos m with h0 | h0
      · exact h0
      · obtain ⟨b, off, e, _⟩ := hr h0
        cases e
    subst hm
    have e1 : vl K (jn f n h) (n + 0) = vl K f n := vl_congr K fun i hi => jn_lo f h hi
    refine ⟨v, w, ?_, by rw [e1]; exact hown, Below.refl _ _⟩
    rcases hown.2 with ⟨rfl, rfl⟩ | ⟨g, cap, cur, rfl, _, _, hnc, _⟩
    · simp [Builtin.append_, run_underlying ht, sizeOf, typeInfo, hi, Builtin.lenOf, Builtin.firstCells]
    · simp [Builtin.append_, run_underlying ht, sizeOf, typeInfo, hi, Builtin.lenOf, Builtin.firstCells, hnc, storeCells]
  · have hcells : ∀ j u, (vl K h m)[j]? = some u → w.cell? (ad.add j) = some u := by
      intro j u hu
      have hj : j < m := by
        have := (List.getElem?_eq_some_iff.1 hu).1
        rwa [vl_length] at this
      obtain ⟨b, off, e1, _, hc⟩ := hr (by omega)
      injection e1 with e1
      subst e1
      rw [vl_at K h hj] at hu
      injection hu with hu
      subst hu
      have hadd : (⟨b, off, none⟩ : Addr).add j = ⟨b, off + j, none⟩ := by unfold Addr.add; split <;> simp_all
      rw [hadd]
      exact hc j hj
    obtain ⟨v', w', hrun, h2, h3, _⟩ := run_append_own_at (P := P) w base t ty e i z 1 bytes ht hi hz hsize hby hzs (by omega) v n _ hown ad m c (vl K h m) (by rw [vl_length, Nat.mul_one]) hcells (vl_one K h m) h63 hbytes hbase
    exact ⟨v', w', hrun, by rw [vl_append] at h2; exact h2, hb0 w' h3⟩

theorem wp_app {o : Oper} {a : Act} {R : Act → World → Prop} {Q : Exit → Act → World → Prop} (s x : Operand) (t : TypeId)
    (ho : o.op = .call { callee := .builtin .append, args := #[s, x], argTypes := #[t, t] })
    (base : Nat) (e : TypeId) (i : TypeInfo) (z : Value) (bytes : Nat) (ht : P.underlying t = some (.slice e)) (hi : P.info? e = some i) (hz : i.zero = some z)
    (hsize : i.size = 1) (hby : i.bytes = bytes) (hzs : z.cells.size = 1)
    (K : IntKind) (v : Value) (n : Nat) (f : Nat → Nat) (hs : a.eval s = v) (hown : w.ownsRow base e 1 v n (vl K f n))
    (A : Option Addr) (m c : Nat) (h : Nat → Nat) (hx : a.eval x = .slice A m c) (hr : Rd w K A m h) (h63 : n + m ≤ maxLen) (hbytes : (n + m) * bytes ≤ 140737488355328) (hbase : base ≤ w.heap.size)
    (k : ∀ v' w', w'.ownsRow base e 1 v' (n + m) (vl K (jn f n h) (n + m)) → Below base w w' → R (a.put o.dst v') w') : o.wp P a w R Q := by
  obtain ⟨v', w', hrun, h2, h3⟩ := run_app (P := P) base t o.type e i z bytes ht hi hz hsize hby hzs K v n f hown A m c h hr h63 hbytes hbase
  unfold Oper.wp execOp
  simp only [ho, resolve, invoke, builtin, Sem.run_bind, Sem.run_pure, Result.andThen_ok, List.map_toArray, List.map_cons, List.map_nil, hs, hx, hrun]
  exact k v' w' h2 h3

theorem wpList_app {ops : Array Oper} {rest : List Oper} {o : Oper} {a : Act} {Q : Exit → Act → World → Prop} (hgd : o.guard = none) (s x : Operand) (t : TypeId)
    (ho : o.op = .call { callee := .builtin .append, args := #[s, x], argTypes := #[t, t] })
    (base : Nat) (e : TypeId) (i : TypeInfo) (z : Value) (bytes : Nat) (ht : P.underlying t = some (.slice e)) (hi : P.info? e = some i) (hz : i.zero = some z)
    (hsize : i.size = 1) (hby : i.bytes = bytes) (hzs : z.cells.size = 1)
    (K : IntKind) (v : Value) (n : Nat) (f : Nat → Nat) (hs : a.eval s = v) (hown : w.ownsRow base e 1 v n (vl K f n))
    (A : Option Addr) (m c : Nat) (h : Nat → Nat) (hx : a.eval x = .slice A m c) (hr : Rd w K A m h) (h63 : n + m ≤ maxLen) (hbytes : (n + m) * bytes ≤ 140737488355328) (hbase : base ≤ w.heap.size)
    (k : ∀ v' w', w'.ownsRow base e 1 v' (n + m) (vl K (jn f n h) (n + m)) → Below base w w' → wpList P ops Q rest (a.put o.dst v') w') : wpList P ops Q (o :: rest) a w :=
  wpList_plain hgd fun _ hK => wp_app s x t ho base e i z bytes ht hi hz hsize hby hzs K v n f hs hown A m c h hx hr h63 hbytes hbase fun v' w' h2 h3 => hK _ _ (k v' w' h2 h3)

end
end Go.Proofs.Ytfchondipjiicaa.nn
namespace Go.Proofs.Ytfchondipjiicaa.nn

/-- byte i of a text -/
def bt (s : ByteArray) (i : Nat) : Nat := if h : i < s.size then s[i].toNat else 0
theorem bt_at {s : ByteArray} {i : Nat} (h : i < s.size) : bt s i = s[i].toNat := dif_pos h
theorem bt_lt (s : ByteArray) (i : Nat) : bt s i < 256 := by
  unfold bt
  split
  · exact s[i].toNat_lt
  · omega
end Go.Proofs.Ytfchondipjiicaa.nn
namespace Go.Proofs.Ytfchondipjiicaa.nn
open Go.RowKit

/-- the text of n bytes f -/
def pc (f : Nat → Nat) (n : Nat) : ByteArray := strOfNums ((List.range n).map fun i => (f i : Int))
/-- a text made of a slice of bytes, nil or not -/
theorem conv_row (A : Option Addr) (n c : Nat) (f : Nat → Nat) (w : World) (h : Rd w .u8 A n f) :
    (convert 26 9 (.slice A n c)).run Try.prog w = .ok (.string (pc f n)) w := by
  by_cases h0 : 0 < n
  · obtain ⟨b, off, rfl, _, hc⟩ := h h0
    exact run_convert_bytes_arg w 26 5 Try.underlying26 Try.underlying5 b off n c _ (by simp) (fun i hi => by
      rw [hc i hi]
      simp [hi]) 9 Try.underlying9
  · obtain rfl : n = 0 := by omega
    have e : pc f 0 = ByteArray.empty := rfl
    rw [e]
    cases A with
    | none => exact run_convert_bytes_nil w 26 5 Try.underlying26 Try.underlying5 0 c 9 Try.underlying9
    | some a =>
      rw [run_convert_bytes_string w 26 9 5 (some a) 0 c Try.underlying26 Try.underlying5 Try.underlying9]
      exact run_bytesToString w a 0 c [] (run_loadCells_list (P := Try.prog) w a [] (fun j v hv => by simp at hv))
end Go.Proofs.Ytfchondipjiicaa.nn
namespace Go.Proofs.Ytfchondipjiicaa.nn
open Go.RowKit

def gL (L : List UInt8) : Nat → Nat := fun i => (L.getD i 0).toNat
section
variable {i : Nat} {L M : List UInt8}
theorem gL_left (h : i < L.length) : gL (L ++ M) i = gL L i := by
  unfold gL
  simp [List.getD, List.getElem?_append_left h]
theorem gL_right : gL (L ++ M) (L.length + i) = gL M i := by
  unfold gL
  simp [List.getD, List.getElem?_append_right]
theorem gL_at (h : i < L.length) : gL L i = (L[i]).toNat := by unfold gL; rw [List.getD_eq_getElem?_getD, List.getElem?_eq_getElem h]; rfl
theorem bc_vl (L : List UInt8) : Lib.byteCells L = vl .u8 (gL L) L.length := by
  apply List.ext_getElem?
  intro i
  by_cases h : i < L.length
  · rw [vl_at .u8 _ h, gL_at h]
    unfold Lib.byteCells
    rw [List.getElem?_map, List.getElem?_eq_getElem h]
    rfl
  · rw [List.getElem?_eq_none (by rw [Lib.byteCells_length]; omega), List.getElem?_eq_none (by rw [vl_length]; omega)]
theorem jn_list (L M : List UInt8) : ∀ i, i < L.length + M.length → jn (gL L) L.length (gL M) i = gL (L ++ M) i := fun i hi => by
  by_cases h : i < L.length
  · rw [jn_lo _ _ h, gL_left h]
  · obtain ⟨j, rfl⟩ : ∃ j, i = L.length + j := ⟨i - L.length, by omega⟩
    rw [jn_hi, gL_right]
theorem pc_list (L : List UInt8) : pc (gL L) L.length = ⟨L.toArray⟩ := by
  unfold pc strOfNums
  congr 2
  apply List.ext_getElem
  · simp
  · intro j h1 h2
    simp only [List.getElem_map, List.getElem_range]
    rw [gL_at h2]
    show UInt8.ofNat (L[j]).toNat = _
    exact UInt8.ofNat_toNat
/-- what the call owns reads as its bytes -/
theorem rd_list {w : World} {base : Nat} {e : TypeId} {v : Value} {n : Nat} (hn : n = L.length) (h : w.ownsRow base e 1 v n (Lib.byteCells L)) : ∃ A c, v = .slice A n c ∧ n ≤ c ∧ c ≤ maxLen ∧ Rd w .u8 A n (gL L) := by
  subst hn
  rw [bc_vl] at h
  exact Rd.of_own h
/-- what the call owns it owns behind a call that only makes memory -/
theorem own_below {w w' : World} {base : Nat} {e : TypeId} {size n : Nat} {v : Value} {xs : List Value} (h : w.ownsRow base e size v n xs) (hb : Below w.heap.size w w') : w'.ownsRow base e size v n xs :=
  h.kept (row := none) ⟨hb.os, hb.tape, hb.output, hb.size, fun k hk _ => hb.block k hk⟩ (by
    cases hv : v.ownBlock with
    | none => exact .inl rfl
    | some k => exact .inr (by simp))
end

section
variable {P : Program} {w : World}
theorem wpList_appB {ops : Array Oper} {rest : List Oper} {o : Oper} {a : Act} {Q : Exit → Act → World → Prop} (hgd : o.guard = none) (s x : Operand) (t : TypeId)
    (ho : o.op = .call { callee := .builtin .append, args := #[s, x], argTypes := #[t, t] })
    (base : Nat) (e : TypeId) (i : TypeInfo) (z : Value) (ht : P.underlying t = some (.slice e)) (hi : P.info? e = some i) (hz : i.zero = some z)
    (hsize : i.size = 1) (hby : i.bytes = 1) (hzs : z.cells.size = 1)
    (v : Value) (n : Nat) (L : List UInt8) (hn : n = L.length) (hs : a.eval s = v) (hown : w.ownsRow base e 1 v n (Lib.byteCells L))
    (A : Option Addr) (m c : Nat) (M : List UInt8) (hm : m = M.length) (hx : a.eval x = .slice A m c) (hr : Rd w .u8 A m (gL M)) (hle : n + m ≤ 140737488355328) (hbase : base ≤ w.heap.size)
    (k : ∀ v' w', w'.ownsRow base e 1 v' (n + m) (Lib.byteCells (L ++ M)) → Below base w w' → wpList P ops Q rest (a.put o.dst v') w') : wpList P ops Q (o :: rest) a w := by
  subst hn hm
  rw [bc_vl] at hown
  refine wpList_app hgd s x t ho base e i z 1 ht hi hz hsize hby hzs .u8 v L.length (gL L) hs hown A M.length c (gL M) hx hr (by unfold maxLen; omega) (by omega) hbase fun v' w' h1 h2 => k v' w' ?_ h2
  rw [bc_vl, vl_congr .u8 (fun i hi => (jn_list L M i (by rw [List.length_append] at hi; exact hi)).symm), List.length_append]
  exact h1
end
end Go.Proofs.Ytfchondipjiicaa.nn
namespace Go.Proofs.Ytfchondipjiicaa.nn
open Go.RowKit

/-- a tree of values -/
inductive VT where
  | mk (k : Int) (g : Bool) (n : Nat) (s : ByteArray) (l : List VT)
def VT.k : VT → Int | .mk k _ _ _ _ => k
def VT.g : VT → Bool | .mk _ g _ _ _ => g
def VT.n : VT → Nat | .mk _ _ n _ _ => n
def VT.s : VT → ByteArray | .mk _ _ _ s _ => s
def VT.l : VT → List VT | .mk _ _ _ _ l => l

mutual
/-- values and letters -/
def blk : VT → Nat | .mk _ _ _ s l => s.size + blkL l + 5
def blkL : List VT → Nat | [] => 1 | t :: r => blk t + blkL r
end
theorem blk_mk (t : VT) : blk t = t.s.size + blkL t.l + 5 := by cases t; rfl
mutual
/-- numbers within their kinds -/
def wfT : VT → Prop | .mk k _ n _ l => -9223372036854775808 ≤ k ∧ k ≤ 9223372036854775807 ∧ n < 18446744073709551616 ∧ wfL l
def wfL : List VT → Prop | [] => True | t :: r => wfT t ∧ wfL r
end
theorem wfT_mk (t : VT) : wfT t ↔ -9223372036854775808 ≤ t.k ∧ t.k ≤ 9223372036854775807 ∧ t.n < 18446744073709551616 ∧ wfL t.l := by cases t; rfl
mutual
/-- how many values -/
def cnt : VT → Nat | .mk _ _ _ _ l => cntL l + 1
def cntL : List VT → Nat | [] => 0 | t :: r => cnt t + cntL r
end
theorem cnt_mk (t : VT) : cnt t = cntL t.l + 1 := by cases t; rfl
theorem cntL_app (a b : List VT) : cntL (a ++ b) = cntL a + cntL b := by
  induction a with
  | nil => simp [cntL]
  | cons t r ih => simp only [List.cons_append, cntL, ih]; omega
theorem cntL_take_succ {l : List VT} {i : Nat} (h : i < l.length) : cntL (l.take (i + 1)) = cntL (l.take i) + cnt l[i] := by
  rw [List.take_succ_eq_append_getElem h, cntL_app]
  simp [cntL]
theorem cnt_at {l : List VT} {i : Nat} (h : i < l.length) : cnt l[i] ≤ cntL l := by
  have h1 := cntL_take_succ h
  have h2 := cntL_app (l.take (i + 1)) (l.drop (i + 1))
  rw [List.take_append_drop] at h2
  omega
theorem cntL_take_le (l : List VT) (i : Nat) : cntL (l.take i) ≤ cntL l := by
  have h2 := cntL_app (l.take i) (l.drop i)
  rw [List.take_append_drop] at h2
  omega
mutual
theorem cnt_blk : ∀ t : VT, cnt t ≤ blk t
  | .mk _ _ _ s l => by have := cntL_blkL l; simp only [cnt, blk]; omega
theorem cntL_blkL : ∀ l : List VT, cntL l ≤ blkL l
  | [] => by simp [cntL]
  | t :: r => by have h1 := cnt_blk t; have h2 := cntL_blkL r; simp only [cntL, blkL]; omega
end
theorem len_cntL (l : List VT) : l.length ≤ cntL l := by
  induction l with
  | nil => simp [cntL]
  | cons t r ih => have := cnt_mk t; simp only [List.length_cons, cntL]; omega

/-- the five cells of a value, from a place on; C: the slice of those within it -/
structure Row (w : World) (b o : Nat) (t : VT) (C : Value) : Prop where
  k : w.cell? ⟨b, o, none⟩ = some (.int .i64 t.k)
  g : w.cell? ⟨b, o + 1, none⟩ = some (.bool t.g)
  n : w.cell? ⟨b, o + 2, none⟩ = some (.int .u64 (t.n : Int))
  s : w.cell? ⟨b, o + 3, none⟩ = some (.string t.s)
  l : w.cell? ⟨b, o + 4, none⟩ = some C
/-- a slice holds a list of trees -/
inductive Lst (w : World) : Value → List VT → Prop where
  | nil_ {A : Option Addr} {c : Nat} : Lst w (.slice A 0 c) []
  | at_ {b off m c : Nat} {C : Nat → Value} {l : List VT} (hl : l.length = m) (hc : m ≤ c) (hb : b < w.heap.size) (hr : ∀ i (h : i < l.length), Row w b (off + i * 5) l[i] (C i)) (hk : ∀ i (h : i < l.length), Lst w (C i) l[i].l) : Lst w (.slice (some ⟨b, off, none⟩) m c) l
/-- a value that is handed over -/
def vv (t : VT) (C : Value) : Value := .agg #[.int .i64 t.k, .bool t.g, .int .u64 (t.n : Int), .string t.s, C]

theorem Row.below {w w' : World} {B b o : Nat} {t : VT} {C : Value} (h : Row w b o t C) (hB : Below B w w') (hb : b < B) : Row w' b o t C :=
  ⟨(hB.cell (p := ⟨b, o, none⟩) hb).trans h.k, (hB.cell (p := ⟨b, o + 1, none⟩) hb).trans h.g, (hB.cell (p := ⟨b, o + 2, none⟩) hb).trans h.n, (hB.cell (p := ⟨b, o + 3, none⟩) hb).trans h.s, (hB.cell (p := ⟨b, o + 4, none⟩) hb).trans h.l⟩
theorem Lst.keep {w w' : World} {v : Value} {l : List VT} (h : Lst w v l) : ∀ {B : Nat}, Below B w w' → w.heap.size ≤ B → Lst w' v l := by
  induction h with
  | nil_ => intro B _ _; exact .nil_
  | at_ hl hc hb hr hk ih =>
    intro B hB hs
    exact .at_ hl hc (Nat.lt_of_lt_of_le hb hB.size) (fun i h => (hr i h).below hB (Nat.lt_of_lt_of_le hb hs)) (fun i h => ih i h hB hs)
/-- a slice of trees: its address, its length -/
theorem Lst.out {w : World} {v : Value} {l : List VT} (h : Lst w v l) : ∃ (A : Option Addr) (c : Nat), v = .slice A l.length c ∧ l.length ≤ c ∧ ((True ∧ l = [] ∧ True) ∨ ∃ (b off : Nat) (C : Nat → Value), A = some ⟨b, off, none⟩ ∧ b < w.heap.size ∧ (∀ i (h : i < l.length), Row w b (off + i * 5) l[i] (C i)) ∧ ∀ i (h : i < l.length), Lst w (C i) l[i].l) := by
  cases h with
  | nil_ => exact ⟨_, _, rfl, Nat.zero_le _, .inl ⟨trivial, rfl, trivial⟩⟩
  | at_ hl hc hb hr hk =>
    subst hl
    exact ⟨_, _, rfl, hc, .inr ⟨_, _, _, rfl, hb, hr, hk⟩⟩
/-- a world behind: what was there is there; a value that was handed over lies in the first new block -/
structure Box (w : World) (t : VT) (C : Value) (W : World) : Prop where
  b : Below w.heap.size w W
  z : w.heap.size < W.heap.size
  r : Row W w.heap.size 0 t C
theorem Box.new (w : World) (t : VT) (C : Value) (T : TypeId) : Box w t C (w.alloc (.cells #[.int .i64 t.k, .bool t.g, .int .u64 (t.n : Int), .string t.s, C] T)) :=
  ⟨(Below.refl _ _).alloc (Nat.le_refl _) _, by simp, ⟨by simp, by simp, by simp, by simp, by simp⟩⟩
theorem Box.on {w W W' : World} {t : VT} {C : Value} (h : Box w t C W) (hB : Below W.heap.size W W') : Box w t C W' :=
  ⟨h.b.trans (hB.mono (Nat.le_of_lt h.z)), Nat.lt_of_lt_of_le h.z hB.size, h.r.below hB h.z⟩
theorem Box.low {w W W' : World} {t : VT} {C : Value} (h : Box w t C W) (hB : Below (w.heap.size + 1) W W') : Box w t C W' :=
  ⟨h.b.trans (hB.mono (Nat.le_succ _)), Nat.lt_of_lt_of_le h.z hB.size, h.r.below hB (Nat.lt_succ_self _)⟩
theorem Box.drew {w W : World} {t : VT} {C : Value} (h : Box w t C W) : Box w t C W.drew := h.on (Below.drew (Below.refl _ _))
/-- likewise of two values that were handed over -/
structure Box2 (w : World) (t : VT) (C : Value) (u : VT) (D : Value) (W : World) : Prop where
  b : Below w.heap.size w W
  z : w.heap.size + 1 < W.heap.size
  r : Row W w.heap.size 0 t C
  r2 : Row W (w.heap.size + 1) 0 u D
theorem Box2.new (w : World) (t : VT) (C : Value) (u : VT) (D : Value) (T : TypeId) : Box2 w t C u D ((w.alloc (.cells #[.int .i64 t.k, .bool t.g, .int .u64 (t.n : Int), .string t.s, C] T)).alloc (.cells #[.int .i64 u.k, .bool u.g, .int .u64 (u.n : Int), .string u.s, D] T)) := by
  have h := Box.new w t C T
  have h2 := Box.new (w.alloc (.cells #[.int .i64 t.k, .bool t.g, .int .u64 (t.n : Int), .string t.s, C] T)) u D T
  have hz : (w.alloc (.cells #[.int .i64 t.k, .bool t.g, .int .u64 (t.n : Int), .string t.s, C] T)).heap.size = w.heap.size + 1 := by simp
  have h3 := h2.z
  have h4 := h2.r
  rw [hz] at h3 h4
  exact ⟨(h.on h2.b).b, h3, (h.on h2.b).r, h4⟩
theorem Box2.on {w W W' : World} {t u : VT} {C D : Value} (h : Box2 w t C u D W) (hB : Below W.heap.size W W') : Box2 w t C u D W' :=
  ⟨h.b.trans (hB.mono (by have := h.z; omega)), Nat.lt_of_lt_of_le h.z hB.size, h.r.below hB (by have := h.z; omega), h.r2.below hB h.z⟩
theorem Box2.drew {w W : World} {t u : VT} {C D : Value} (h : Box2 w t C u D W) : Box2 w t C u D W.drew := h.on (Below.drew (Below.refl _ _))
/-- are two trees the same -/
noncomputable def eqv (t u : VT) : Bool := @decide (t = u) (Classical.propDecidable _)
theorem eqv_parts (t u : VT) : eqv t u = true ↔ t.k = u.k ∧ t.g = u.g ∧ t.n = u.n ∧ t.s = u.s ∧ t.l = u.l := by
  unfold eqv
  rw [@decide_eq_true_iff _ (Classical.propDecidable _)]
  cases t; cases u
  simp [VT.k, VT.g, VT.n, VT.s, VT.l]
theorem eqv_iff (t u : VT) : eqv t u = true ↔ t = u := by unfold eqv; rw [@decide_eq_true_iff _ (Classical.propDecidable _)]
end Go.Proofs.Ytfchondipjiicaa.nn
namespace Go.Proofs.Ytfchondipjiicaa.nn
open Go.RowKit

/-- is a value of this kind one without others -/
def lf (k : Int) : Bool := decide (k ≠ 11 ∧ k ≠ 12 ∧ k ≠ 13)
mutual
/-- how deep -/
def dep : VT → Nat | .mk k _ _ _ l => if k = 5 then 1 else if lf k then 0 else depL l + 1
def depL : List VT → Nat | [] => 0 | t :: r => max (dep t) (depL r)
end
theorem dep_mk (t : VT) : dep t = if t.k = 5 then 1 else if lf t.k then 0 else depL t.l + 1 := by cases t; rfl
theorem depL_app (a b : List VT) : depL (a ++ b) = max (depL a) (depL b) := by
  induction a with
  | nil => simp [depL]
  | cons t r ih => simp only [List.cons_append, depL, ih]; omega
theorem depL_take_succ {l : List VT} {i : Nat} (h : i < l.length) : depL (l.take (i + 1)) = max (depL (l.take i)) (dep l[i]) := by
  rw [List.take_succ_eq_append_getElem h, depL_app]
  simp [depL]
theorem neInt {c k : Int} (h : c ≠ k) : (c == k) = false ∧ (c != k) = true := ⟨by simp [h], by simp [h]⟩
theorem depL_le (N : Nat) : ∀ l : List VT, cntL l ≤ N → depL l ≤ N := by
  induction N with
  | zero =>
    intro l h
    cases l with
    | nil => exact Nat.le_refl _
    | cons t r => have := cnt_mk t; simp only [cntL] at h; omega
  | succ N ih =>
    intro l
    induction l with
    | nil => intro _; exact Nat.zero_le _
    | cons t r ihr =>
      intro h
      have h1 := cnt_mk t
      simp only [cntL] at h
      have h2 := ihr (by omega)
      have h3 := dep_mk t
      have h4 := ih t.l (by omega)
      simp only [depL]
      have : dep t ≤ N + 1 := by
        rw [h3]
        split
        · omega
        · split
          · omega
          · omega
      omega
theorem dep_le (t : VT) : dep t ≤ cnt t := by
  have h1 := dep_mk t
  have h2 := cnt_mk t
  have h3 := depL_le _ t.l (Nat.le_refl _)
  rw [h1]
  split
  · omega
  · split <;> omega
end Go.Proofs.Ytfchondipjiicaa.nn
namespace Go.Proofs.Ytfchondipjiicaa.nn
open Go.RowKit

/-- block g is just the cells cur of element type e, none frozen -/
def Bk (w : World) (g : Nat) (e : TypeId) (cur : Array Value) : Prop := w.heap[g]? = some (.cells cur e (0, 0))

/-- from place off on stand the limbs f -/
def Ints (cur : Array Value) (k : IntKind) (off n : Nat) (f : Nat → Nat) : Prop := ∀ i, i < n → cur[off + i]? = some (.int k (f i : Int))

/-- in block g, between off and off + n alone, something was written -/
structure Wrote (w w' : World) (g : Nat) (e : TypeId) (cur cur' : Array Value) (off n : Nat) : Prop where
  blk : Bk w' g e cur'
  size : cur'.size = cur.size
  out : ∀ i, i < off ∨ off + n ≤ i → cur'[i]? = cur[i]?
  grown : w.grownBy w' (some g)
  hsize : w'.heap.size = w.heap.size

section
variable {w w' w'' : World} {g : Nat} {e : TypeId} {cur cur' cur'' : Array Value} {off n m i : Nat} {k : IntKind} {f : Nat → Nat}

theorem Bk.lt (h : Bk w g e cur) : g < w.heap.size := (Array.getElem?_eq_some_iff.1 h).1
theorem Bk.cell (h : Bk w g e cur) (i : Nat) : w.cell? ⟨g, i, none⟩ = cur[i]? := cell_of_row w g i cur e (0, 0) h
theorem Bk.frozen (h : Bk w g e cur) (i : Nat) : w.frozen? ⟨g, i, none⟩ = false := by
  unfold Bk at h
  simp [World.frozen?, h]
theorem Bk.set_ (h : Bk w g e cur) (i : Nat) (u : Value) : Bk (w.setCell ⟨g, i, none⟩ u) g e (cur.setIfInBounds i u) := by
  unfold Bk at h ⊢
  simp [World.setCell, Array.getElem?_modify, h]
theorem Bk.drewN (h : Bk w g e cur) (j : Nat) : Bk (w.drewN j) g e cur := h
theorem Bk.below {B : Nat} (h : Bk w g e cur) (hb : Below B w w') (hg : g < B) : Bk w' g e cur := (hb.block g hg).trans h
theorem Bk.grown {row : Option Nat} (h : Bk w g e cur) (hb : w.grownBy w' row) (hg : some g ≠ row) : Bk w' g e cur := (hb.block g h.lt hg).trans h

theorem Ints.mono (h : Ints cur k off n f) (hm : m ≤ n) : Ints cur k off m f := fun i hi => h i (by omega)
theorem Ints.congr {f' : Nat → Nat} (h : Ints cur k off n f) (e : ∀ i, i < n → f i = f' i) : Ints cur k off n f' := fun i hi => by rw [← e i hi]; exact h i hi
theorem Ints.lt (h : Ints cur k off n f) (hi : i < n) : off + i < cur.size := (Array.getElem?_eq_some_iff.1 (h i hi)).1
theorem Ints.set_ (h : Ints cur k off n f) (i x : Nat) (hi : i < n) : Ints (cur.setIfInBounds (off + i) (.int k (x : Int))) k off n (upd f i x) := fun j hj => by
  rw [Array.getElem?_setIfInBounds]
  by_cases e : j = i
  · subst e; rw [if_pos rfl, if_pos (h.lt hi), upd_at]
  · rw [if_neg (by omega), upd_ne f e]; exact h j hj
theorem Wrote.refl (h : Bk w g e cur) (off n : Nat) : Wrote w w g e cur cur off n :=
  ⟨h, rfl, fun _ _ => rfl, ⟨rfl, rfl, rfl, Nat.le_refl _, fun _ _ _ => rfl⟩, rfl⟩
theorem Wrote.drewN (h : Wrote w w' g e cur cur' off n) (j : Nat) : Wrote w (w'.drewN j) g e cur cur' off n :=
  ⟨h.blk, h.size, h.out, ⟨h.grown.os, h.grown.tape, h.grown.output, h.grown.size, h.grown.block⟩, h.hsize⟩
theorem Wrote.set_ (h : Wrote w w' g e cur cur' off n) (i : Nat) (hi : i < n) (u : Value) : Wrote w (w'.setCell ⟨g, off + i, none⟩ u) g e cur (cur'.setIfInBounds (off + i) u) off n :=
  ⟨h.blk.set_ _ u, by rw [Array.size_setIfInBounds, h.size], fun j hj => by rw [Array.getElem?_setIfInBounds, if_neg (by omega)]; exact h.out j hj,
   ⟨h.grown.os, h.grown.tape, h.grown.output, by simpa [World.setCell] using h.grown.size, fun b hb hne => (Below.heap_setCell w' ⟨g, off + i, none⟩ u b (by rintro rfl; exact hne rfl)).trans (h.grown.block b hb hne)⟩,
   by simpa [World.setCell] using h.hsize⟩
theorem Wrote.trans (h : Wrote w w' g e cur cur' off n) (h' : Wrote w' w'' g e cur' cur'' off n) : Wrote w w'' g e cur cur'' off n :=
  ⟨h'.blk, h'.size.trans h.size, fun i hi => (h'.out i hi).trans (h.out i hi),
   ⟨h'.grown.os.trans h.grown.os, h'.grown.tape.trans h.grown.tape, h'.grown.output.trans h.grown.output, Nat.le_trans h.grown.size h'.grown.size,
    fun b hb hne => (h'.grown.block b (by have := h.hsize; omega) hne).trans (h.grown.block b hb hne)⟩, h'.hsize.trans h.hsize⟩
/-- a stretch within a stretch -/
theorem Wrote.wide (h : Wrote w w' g e cur cur' off n) {off' n' : Nat} (h1 : off' ≤ off) (h2 : off + n ≤ off' + n') : Wrote w w' g e cur cur' off' n' :=
  ⟨h.blk, h.size, fun i hi => h.out i (by omega), h.grown, h.hsize⟩
end

end Go.Proofs.Ytfchondipjiicaa.nn
namespace Go.Proofs.Ytfchondipjiicaa.nn
open Go.RowKit

/-- what holds when the first i limbs are added (m of h's), with the carry k -/
def AddRel (K : IntKind) (Bs : Nat) (w wr : World) (g : Nat) (e : TypeId) (cur : Array Value) (off n : Nat) (f h f' : Nat → Nat) (cur' : Array Value) (k i m : Nat) : Prop :=
  Wrote w wr g e cur cur' off n ∧ Ints cur' K off n f' ∧ Lt Bs f' n ∧ (∀ j, i ≤ j → j < n → f' j = f j) ∧
    sm Bs f' i + k * Bs ^ i = sm Bs f i + sm Bs h m

section
variable {K : IntKind} {Bs : Nat} {w wr : World} {g : Nat} {e : TypeId} {cur : Array Value} {off n : Nat} {f h f' : Nat → Nat} {cur' : Array Value} {k i m : Nat}

theorem carry_eq {a b c v k' Bs P : Nat} (hk : a + b + c = v + k' * Bs) : a * P + b * P + c * P = v * P + k' * (P * Bs) := by
  have e2 := congrArg (· * P) hk
  simp only [Nat.add_mul] at e2
  rw [Nat.mul_comm P Bs, ← Nat.mul_assoc]
  exact e2

theorem AddRel.step (H : AddRel K Bs w wr g e cur off n f h f' cur' k i i) (hi : i < n) (k' v : Nat) (hk : f' i + h i + k = v + k' * Bs) (hv : v < Bs) {z : Int} (hz : z = (v : Int)) :
    AddRel K Bs w (wr.setCell ⟨g, off + i, none⟩ (.int K z)) g e cur off n f h (upd f' i v) (cur'.setIfInBounds (off + i) (.int K (v : Int))) k' (i + 1) (i + 1) := by
  obtain ⟨h1, h2, h3, h4, h5⟩ := H
  rw [hz]
  refine ⟨h1.set_ i hi _, h2.set_ i _ hi, h3.upd hv, fun j ha hb => ?_, ?_⟩
  · rw [upd_ne f' (by omega)]; exact h4 j (by omega) hb
  · rw [sm_snoc, sm, sm, ← h4 i (Nat.le_refl _) hi, Nat.pow_succ]
    have := carry_eq (P := Bs ^ i) hk
    omega

/-- one more limb, of the greater number alone -/
theorem AddRel.more (H : AddRel K Bs w wr g e cur off n f h f' cur' k i m) (hi : i < n) (k' v : Nat) (hk : f' i + k = v + k' * Bs) (hv : v < Bs) {z : Int} (hz : z = (v : Int)) :
    AddRel K Bs w (wr.setCell ⟨g, off + i, none⟩ (.int K z)) g e cur off n f h (upd f' i v) (cur'.setIfInBounds (off + i) (.int K (v : Int))) k' (i + 1) m := by
  obtain ⟨h1, h2, h3, h4, h5⟩ := H
  rw [hz]
  refine ⟨h1.set_ i hi _, h2.set_ i _ hi, h3.upd hv, fun j ha hb => ?_, ?_⟩
  · rw [upd_ne f' (by omega)]; exact h4 j (by omega) hb
  · rw [sm_snoc, sm, ← h4 i (Nat.le_refl _) hi, Nat.pow_succ]
    have := carry_eq (a := f' i) (b := 0) (P := Bs ^ i) (by simpa using hk)
    omega

/-- the end: the limbs f' are the sum, but for the carry k -/
def AddEnd (K : IntKind) (Bs : Nat) (w w' : World) (g : Nat) (e : TypeId) (cur : Array Value) (off n : Nat) (f : Nat → Nat) (S k : Nat) : Prop :=
  ∃ (f' : Nat → Nat) (cur' : Array Value), Wrote w w' g e cur cur' off n ∧ Ints cur' K off n f' ∧ Lt Bs f' n ∧ sm Bs f' n + k * Bs ^ n = sm Bs f n + S

/-- where no carry is left the rest is as it was -/
theorem AddRel.done (H : AddRel K Bs w wr g e cur off n f h f' cur' k i m) (hi : i ≤ n) (he : i = n ∨ k = 0) : AddEnd K Bs w wr g e cur off n f (sm Bs h m) k := by
  obtain ⟨h1, h2, h3, h4, h5⟩ := H
  refine ⟨f', cur', h1, h2, h3, ?_⟩
  rcases he with rfl | rfl
  · exact h5
  · obtain ⟨j, rfl⟩ : ∃ j, n = i + j := ⟨n - i, by omega⟩
    rw [sm_split, sm_split Bs f, sm_congr Bs (f := fun t => f' (i + t)) (g := fun t => f (i + t)) (fun t ht => h4 (i + t) (by omega) (by omega))]
    simp only [Nat.zero_mul] at h5 ⊢
    omega
end
end Go.Proofs.Ytfchondipjiicaa.nn
namespace Go.Proofs.Ytfchondipjiicaa.nn
open Go.RowKit

/-- a slice of slices of 32-bit limbs -/
def Rds (w : World) (A : Option Addr) (n : Nat) (AA : Nat → Option Addr) (L C : Nat → Nat) (F : Nat → Nat → Nat) : Prop :=
  0 < n → ∃ b off, A = some ⟨b, off, none⟩ ∧ b < w.heap.size ∧ ∀ i, i < n → w.cell? ⟨b, off + i, none⟩ = some (.slice (AA i) (L i) (C i)) ∧ L i ≤ C i ∧ C i ≤ maxLen ∧ Rd w .u32 (AA i) (L i) (F i)

theorem Rds.keep {w w' : World} {A : Option Addr} {n : Nat} {AA : Nat → Option Addr} {L C : Nat → Nat} {F : Nat → Nat → Nat} (h : Rds w A n AA L C F)
    (hs : w.heap.size ≤ w'.heap.size) (hk : ∀ b o, b < w.heap.size → w'.cell? ⟨b, o, none⟩ = w.cell? ⟨b, o, none⟩) : Rds w' A n AA L C F := fun hn => by
  obtain ⟨b, off, e, hb, hc⟩ := h hn
  exact ⟨b, off, e, by omega, fun i hi => ⟨(hk b _ hb).trans (hc i hi).1, (hc i hi).2.1, (hc i hi).2.2.1, (hc i hi).2.2.2.keep hs hk⟩⟩
theorem Rds.below {w w' : World} {A : Option Addr} {n : Nat} {AA : Nat → Option Addr} {L C : Nat → Nat} {F : Nat → Nat → Nat} (h : Rds w A n AA L C F)
    (hb : Below w.heap.size w w') : Rds w' A n AA L C F :=
  h.keep hb.size fun b o hlt => hb.cell (p := ⟨b, o, none⟩) hlt

end Go.Proofs.Ytfchondipjiicaa.nn
namespace Go.Proofs.Ytfchondipjiicaa.nn
open Go.RowKit

/-- the slice at A of length n reads as the trimmed number R -/
structure Num (w : World) (A : Option Addr) (n c : Nat) (f : Nat → Nat) (R : Nat) : Prop where
  le : n ≤ c
  cap : c ≤ maxLen
  rd : Rd w .u32 A n f
  lt : Lt (2 ^ 32) f n
  trm : Trm f n
  val : sm (2 ^ 32) f n = R

/-- the sum of the first i parts -/
def tot (L : Nat → Nat) (F : Nat → Nat → Nat) : Nat → Nat
  | 0 => 0
  | i + 1 => tot L F i + sm (2 ^ 32) (F i) (L i)

/-- what holds at the head of Add's loop -/
def AddLoop (old base : Nat) (w0 wr : World) (s : Value) (i n : Nat) (f : Nat → Nat) (L : Nat → Nat) (F : Nat → Nat → Nat) : Prop :=
  ∃ (n' : Nat) (f' : Nat → Nat), wr.ownsRow base 34 1 s n' (vl .u32 f' n') ∧ Below old w0 wr ∧ base ≤ wr.heap.size ∧ Lt (2 ^ 32) f' n' ∧ sm (2 ^ 32) f' n' = sm (2 ^ 32) f n + tot L F i ∧ n' ≤ 4096 + i

theorem AddLoop.below {old base : Nat} {w0 wr : World} {s : Value} {i n : Nat} {f : Nat → Nat} {L : Nat → Nat} {F : Nat → Nat → Nat} (h : AddLoop old base w0 wr s i n f L F) : Below old w0 wr := by
  obtain ⟨_, _, _, h, _⟩ := h
  exact h

end Go.Proofs.Ytfchondipjiicaa.nn
namespace Go.Proofs.Ytfchondipjiicaa.nn
open Go.RowKit

theorem hsz (w : World) (o : Obj) : (w.alloc o).heap.size = w.heap.size + 1 := by simp
end Go.Proofs.Ytfchondipjiicaa.nn
namespace Go.Proofs.Ytfchondipjiicaa.nn
open Go.RowKit

/-- what holds at the head of sum's loop -/
def SumRel (base : Nat) (w0 wr : World) (s : Value) (i k : Nat) (F : Nat → Nat) (G : Nat → Nat) : Prop :=
  ∃ f' : Nat → Nat, wr.ownsRow base 34 1 s i (vl .u32 f' i) ∧ Below base w0 wr ∧ base ≤ wr.heap.size ∧ Lt (2 ^ 32) f' i ∧ k ≤ 1 ∧ sm (2 ^ 32) f' i + k * (2 ^ 32) ^ i = sm (2 ^ 32) F i + sm (2 ^ 32) G i

theorem pow_s (B i : Nat) : B ^ (i + 1) = B ^ i * B := Nat.pow_succ B i

theorem SumRel.step {base : Nat} {w0 wr w1 : World} {v : Value} {i k : Nat} {F G f' : Nat → Nat} (o : Obj) (hF : F i < 2 ^ 32) (hG : G i < 2 ^ 32)
    (h2 : Below base w0 wr) (h3 : base ≤ wr.heap.size) (h4 : Lt (2 ^ 32) f' i) (h5 : k ≤ 1) (h6 : sm (2 ^ 32) f' i + k * (2 ^ 32) ^ i = sm (2 ^ 32) F i + sm (2 ^ 32) G i)
    (ho : w1.ownsRow base 34 1 v (i + 1) (vl .u32 (jn f' i (fun _ => (k + F i + G i) % 4294967296)) (i + 1))) (hb : Below base (wr.alloc o) w1) :
    SumRel base w0 w1 v (i + 1) ((k + F i + G i) / 4294967296) F G := by
  have hb1 := (h2.alloc h3 o).trans hb
  have hs := hb.size
  rw [hsz] at hs
  refine ⟨_, ho, hb1, by omega, h4.jn (m := 1) (fun _ _ => Nat.mod_lt _ (by decide)), by omega, ?_⟩
  have e1 : sm (2 ^ 32) (fun _ => (k + F i + G i) % 4294967296) 1 = (k + F i + G i) % 4294967296 := by simp [sm]
  rw [sm_jn, e1]
  simp only [sm]
  rw [pow_s (2 ^ 32) i]
  have e := carry_eq (P := (2 ^ 32) ^ i) (Bs := 2 ^ 32) (a := F i) (b := G i) (c := k) (v := (k + F i + G i) % 4294967296) (k' := (k + F i + G i) / 4294967296) (by omega)
  omega

end Go.Proofs.Ytfchondipjiicaa.nn
namespace Go.Proofs.Ytfchondipjiicaa.nn

/-- how many bits a number has -/
def bl (N : Nat) : Nat := if N = 0 then 0 else N.log2 + 1

theorem bl_lt (N : Nat) : N < 2 ^ bl N := by
  unfold bl
  split
  · omega
  · exact Nat.lt_log2_self
theorem bl_ge {N : Nat} (h : N ≠ 0) : 2 ^ (bl N - 1) ≤ N ∧ 0 < bl N := by
  unfold bl
  rw [if_neg h, Nat.add_sub_cancel]
  exact ⟨Nat.log2_self_le h, by omega⟩
end Go.Proofs.Ytfchondipjiicaa.nn
namespace Go.Proofs.Ytfchondipjiicaa.nn
open Go.RowKit

/-- the number of m bytes, the highest first -/
def be (b : Nat → Nat) : Nat → Nat
  | 0 => 0
  | k + 1 => be b k * 256 + b k
def BytRel (w wr : World) (g : Nat) (e : TypeId) (cur : Array Value) (m N i : Nat) : Prop :=
  ∃ (f' : Nat → Nat) (cur' : Array Value), Wrote w wr g e cur cur' 0 m ∧ Ints cur' .u8 0 m f' ∧ ∀ j, j < i → f' j = N / 256 ^ (m - 1 - j) % 256
theorem BytRel.step {w wr : World} {g : Nat} {e : TypeId} {cur : Array Value} {m N i : Nat} (h : BytRel w wr g e cur m N i) (hi : i < m) (v : Nat) (hv : v = N / 256 ^ (m - 1 - i) % 256) (z : Int) (hz : z = (v : Int)) : BytRel w (wr.setCell ⟨g, i, none⟩ (.int .u8 z)) g e cur m N (i + 1) := by
  subst hz
  obtain ⟨f', cur', h1, h2, h3⟩ := h
  have a := h1.set_ i hi (.int .u8 (v : Int))
  have b := h2.set_ i v hi
  rw [Nat.zero_add] at a b
  refine ⟨_, _, a, b, fun j hj => ?_⟩
  by_cases e : j = i
  · subst e; rw [upd_at]; exact hv
  · rw [upd_ne _ e]; exact h3 j (by omega)

end Go.Proofs.Ytfchondipjiicaa.nn
namespace Go.Proofs.Ytfchondipjiicaa.nn
open Go.RowKit

/-- how many bytes a number has -/
def nb (N : Nat) : Nat := (bl N + 7) / 8
theorem nb_zero : nb 0 = 0 := rfl
theorem nb_lt (N : Nat) : N < 256 ^ nb N := by
  refine Nat.lt_of_lt_of_le (bl_lt N) ?_
  rw [show (256 : Nat) = 2 ^ 8 from rfl, ← Nat.pow_mul]
  exact Nat.pow_le_pow_right (by decide) (by unfold nb; omega)
theorem nb_ge {N : Nat} (h : N ≠ 0) : 256 ^ (nb N - 1) ≤ N ∧ 0 < nb N := by
  obtain ⟨b1, b2⟩ := bl_ge h
  refine ⟨Nat.le_trans ?_ b1, by unfold nb; omega⟩
  rw [show (256 : Nat) = 2 ^ 8 from rfl, ← Nat.pow_mul]
  exact Nat.pow_le_pow_right (by decide) (by unfold nb; omega)
theorem nb_of {N j : Nat} (h1 : 256 ^ j ≤ N) (h2 : N < 256 ^ (j + 1)) : nb N = j + 1 := by
  have h3 : N ≠ 0 := by have := Nat.pow_pos (n := j) (by decide : 0 < 256); omega
  obtain ⟨h4, h5⟩ := nb_ge h3
  have h6 := nb_lt N
  rcases Nat.lt_trichotomy (nb N) (j + 1) with h | h | h
  · have : 256 ^ nb N ≤ 256 ^ j := Nat.pow_le_pow_right (by decide) (by omega)
    omega
  · exact h
  · have : 256 ^ (j + 1) ≤ 256 ^ (nb N - 1) := Nat.pow_le_pow_right (by decide) (by omega)
    omega
theorem nb_step {N0 N1 c : Nat} (h : N0 = N1 * 256 + c) (hc : c < 256) (hN : 0 < nb N1 ∨ c ≠ 0) : nb N0 = nb N1 + 1 := by
  by_cases h0 : N1 = 0
  · subst h0
    rw [nb_zero] at hN ⊢
    refine nb_of (j := 0) ?_ ?_
    · simp; omega
    · omega
  · obtain ⟨h1, h2⟩ := nb_ge h0
    have h3 := nb_lt N1
    obtain ⟨k, hk⟩ : ∃ k, nb N1 = k + 1 := ⟨nb N1 - 1, by omega⟩
    rw [hk] at h1 h3 ⊢
    rw [Nat.add_sub_cancel] at h1
    refine nb_of ?_ ?_
    · rw [Nat.pow_succ]; omega
    · rw [Nat.pow_succ]; omega

/-- the bytes of N stand in a row -/
def Byts (O : Nat → Nat) (N j : Nat) : Prop := j = nb N ∧ ∀ t, t < j → O t = N / 256 ^ (j - 1 - t) % 256
theorem Byts.step {O : Nat → Nat} {N0 N1 c j : Nat} (H : Byts O N1 j) (h : N0 = N1 * 256 + c) (hc : c < 256) (hN : 0 < j ∨ c ≠ 0) : Byts (jn O j (fun _ => c)) N0 (j + 1) := by
  obtain ⟨h1, h2⟩ := H
  refine ⟨by rw [h1, nb_step h hc (by rw [← h1]; exact hN)], fun t ht => ?_⟩
  by_cases e : t = j
  · subst e
    have := jn_hi O (fun _ => c) t 0
    rw [Nat.add_zero] at this
    rw [this, Nat.add_sub_cancel, Nat.sub_self, Nat.pow_zero, Nat.div_one, h]
    omega
  · rw [jn_lo O _ (by omega), h2 t (by omega), Nat.add_sub_cancel]
    obtain ⟨d, hd⟩ : ∃ d, j - t = d + 1 := ⟨j - t - 1, by omega⟩
    rw [hd, show j - 1 - t = d by omega, Nat.pow_succ, Nat.mul_comm (256 ^ d) 256, ← Nat.div_div_eq_div_mul, h, show (N1 * 256 + c) / 256 = N1 by omega]
end Go.Proofs.Ytfchondipjiicaa.nn
namespace Go.Proofs.Ytfchondipjiicaa.nn

/-- so many bytes of a function, as a list -/
def lsF (f : Nat → Nat) (n : Nat) : List UInt8 := (List.range n).map fun i => UInt8.ofNat (f i)
theorem lsF_len (f : Nat → Nat) (n : Nat) : (lsF f n).length = n := by simp [lsF]
mutual
/-- is a KExt within -/
def ext : VT → Bool | .mk k _ _ _ l => decide (k = 14) || extL l
def extL : List VT → Bool | [] => false | t :: r => ext t || extL r
end
end Go.Proofs.Ytfchondipjiicaa.nn
namespace Go.Proofs.Ytfchondipjiicaa.nn

/-- how many bytes a code point has that begins with x; 0: none does -/
def nd (x : Nat) : Nat := if x < 128 then 1 else if 194 ≤ x ∧ x ≤ 223 then 2 else if 224 ≤ x ∧ x ≤ 239 then 3 else if 240 ≤ x ∧ x ≤ 244 then 4 else 0
/-- the least and the greatest byte at place j of a code point that begins with x -/
def lt_ (x j : Nat) : Nat := if j = 1 then (if x = 224 then 160 else if x = 240 then 144 else 128) else 128
def mt_ (x j : Nat) : Nat := if j = 1 then (if x = 237 then 159 else if x = 244 then 143 else 191) else 191
/-- what is due: so many bytes, the next one between low and high -/
structure Tl where
  c : Nat
  lo : Nat
  hi : Nat

def t0 : Tl := ⟨0, 0, 0⟩
def bh (x : Nat) : Tl := if nd x ≤ 1 then t0 else ⟨nd x - 1, lt_ x 1, mt_ x 1⟩
def ok (t : Tl) (x : Nat) : Bool := if t.c = 0 then decide (nd x ≠ 0) else decide (t.lo ≤ x ∧ x ≤ t.hi)
def nx (t : Tl) (x : Nat) : Tl := if t.c = 0 then bh x else if t.lo ≤ x ∧ x ≤ t.hi then ⟨t.c - 1, 128, 191⟩ else t

/-- the state behind i bytes from state t on, and whether all of them were taken -/
def go (f : Nat → Nat) (t : Tl) : Nat → Tl × Bool
  | 0 => (t, true)
  | i + 1 => if (go f t i).2 then (nx (go f t i).1 (f i), ok (go f t i).1 (f i)) else go f t i
def al (f : Nat → Nat) (t : Tl) (i : Nat) : Bool := (go f t i).2
def tk (f : Nat → Nat) (t : Tl) (i : Nat) : Tl := (go f t i).1
/-- how many of n bytes are taken -/
def sp (f : Nat → Nat) (t : Tl) : Nat → Nat
  | 0 => 0
  | n + 1 => if al f t (n + 1) then n + 1 else sp f t n

section
variable {f g : Nat → Nat} {t : Tl} {i j n m p : Nat}
theorem al_succ : al f t (i + 1) = (al f t i && ok (tk f t i) (f i)) := by
  unfold al tk
  rw [go]
  by_cases h : (go f t i).2 <;> simp [h]
theorem tk_succ (h : al f t i = true) : tk f t (i + 1) = nx (tk f t i) (f i) := by
  unfold al at h
  unfold tk
  rw [go, if_pos h]
theorem al_mono (h : al f t n = true) (hm : m ≤ n) : al f t m = true := by
  induction n with
  | zero => obtain rfl : m = 0 := by omega
            exact h
  | succ n ih =>
    rw [al_succ, Bool.and_eq_true] at h
    by_cases e : m = n + 1
    · subst e; rw [al_succ, h.1, h.2]; rfl
    · exact ih h.1 (by omega)
theorem dead (h : al f t m = false) (hm : m ≤ n) : al f t n = false := by
  cases hn : al f t n with
  | false => rfl
  | true => rw [al_mono hn hm] at h; cases h
theorem sp_le : sp f t n ≤ n := by
  induction n with
  | zero => simp [sp]
  | succ n ih => rw [sp]; split <;> omega
theorem sp_all (h : al f t n = true) : sp f t n = n := by
  cases n with
  | zero => rfl
  | succ n => rw [sp, if_pos h]
theorem sp_stop (h : al f t p = true) (h' : al f t (p + 1) = false) (hp : p ≤ n) : sp f t n = p := by
  induction n with
  | zero => obtain rfl : p = 0 := by omega
            rfl
  | succ n ih =>
    by_cases e : p = n + 1
    · subst e; rw [sp, if_pos h]
    · rw [sp, if_neg (by rw [dead h' (by omega)]; decide)]
      exact ih (by omega)
theorem sp_lt (h : al f t n = false) : sp f t n < n ∧ al f t (sp f t n + 1) = false := by
  induction n with
  | zero => cases h
  | succ n ih =>
    rw [sp, if_neg (by rw [h]; decide)]
    by_cases e : al f t n = true
    · rw [sp_all e]; exact ⟨by omega, h⟩
    · have := ih (by simpa using e)
      exact ⟨by omega, this.2⟩
end

/-- the states that are met -/
def Gd (t : Tl) : Prop := t.c = 0 ∨ (t.c = 1 ∧ t.lo = 128 ∧ t.hi = 191) ∨ (t.c = 2 ∧ (t.lo = 160 ∧ t.hi = 191 ∨ t.lo = 128 ∧ t.hi = 191 ∨ t.lo = 128 ∧ t.hi = 159)) ∨
  (t.c = 3 ∧ (t.lo = 144 ∧ t.hi = 191 ∨ t.lo = 128 ∧ t.hi = 191 ∨ t.lo = 128 ∧ t.hi = 143))
theorem gd_zero : Gd t0 := .inl rfl
theorem nd_cases (x : Nat) : (x < 128 ∧ nd x = 1) ∨ (194 ≤ x ∧ x ≤ 223 ∧ nd x = 2) ∨ (224 ≤ x ∧ x ≤ 239 ∧ nd x = 3) ∨ (240 ≤ x ∧ x ≤ 244 ∧ nd x = 4) ∨ ((128 ≤ x ∧ x < 194 ∨ 244 < x) ∧ nd x = 0) := by
  unfold nd
  repeat' split
  all_goals omega
theorem lt_cases (x : Nat) : (x = 224 ∧ lt_ x 1 = 160) ∨ (x = 240 ∧ lt_ x 1 = 144) ∨ (x ≠ 224 ∧ x ≠ 240 ∧ lt_ x 1 = 128) := by
  unfold lt_
  rw [if_pos rfl]
  repeat' split
  all_goals omega
theorem mt_cases (x : Nat) : (x = 237 ∧ mt_ x 1 = 159) ∨ (x = 244 ∧ mt_ x 1 = 143) ∨ (x ≠ 237 ∧ x ≠ 244 ∧ mt_ x 1 = 191) := by
  unfold mt_
  rw [if_pos rfl]
  repeat' split
  all_goals omega
theorem gd_bh (x : Nat) : Gd (bh x) := by
  have h1 := nd_cases x
  have h2 := lt_cases x
  have h3 := mt_cases x
  unfold bh
  split
  · exact gd_zero
  · unfold Gd
    dsimp only
    omega
theorem gd_nx {t : Tl} (h : Gd t) (x : Nat) : Gd (nx t x) := by
  unfold nx
  split
  · exact gd_bh x
  · split
    · unfold Gd at h ⊢
      dsimp only
      omega
    · exact h
theorem gd_go {f : Nat → Nat} {t : Tl} (h : Gd t) (i : Nat) : Gd (tk f t i) := by
  induction i with
  | zero => exact h
  | succ i ih =>
    unfold tk at ih ⊢
    rw [go]
    split
    · exact gd_nx ih _
    · exact ih
theorem gd_lt {t : Tl} (h : Gd t) : t.c < 4 := by unfold Gd at h; omega

/-- what Check answers -/
def ckA (f : Nat → Nat) (n : Nat) : Nat := sp f t0 n
def ckE (f : Nat → Nat) (n : Nat) : Nat := if al f t0 n then (if (tk f t0 n).c = 0 then 0 else 3) else 4

section
variable {f g : Nat → Nat} {N : Int} {i j k n m p : Nat}
/-! one code point, byte by byte -/
end
end Go.Proofs.Ytfchondipjiicaa.nn
namespace Go.Proofs.Ytfchondipjiicaa.nn
open Go.RowKit Go.Great

def tlv (t : Tl) : Value := .agg #[.int .i64 (t.c : Int), .int .u8 (t.lo : Int), .int .u8 (t.hi : Int)]

def tab : Array Value := #[.int .u8 194, .int .u8 223, .int .i64 1, .int .u8 128, .int .u8 191, .int .u8 224, .int .u8 224, .int .i64 2, .int .u8 160, .int .u8 191,
  .int .u8 225, .int .u8 236, .int .i64 2, .int .u8 128, .int .u8 191, .int .u8 237, .int .u8 237, .int .i64 2, .int .u8 128, .int .u8 159,
  .int .u8 238, .int .u8 239, .int .i64 2, .int .u8 128, .int .u8 191, .int .u8 240, .int .u8 240, .int .i64 3, .int .u8 144, .int .u8 191,
  .int .u8 241, .int .u8 243, .int .i64 3, .int .u8 128, .int .u8 191, .int .u8 244, .int .u8 244, .int .i64 3, .int .u8 128, .int .u8 143]
/-- row k of the table -/
def bfr : Nat → Nat | 0 => 194 | 1 => 224 | 2 => 225 | 3 => 237 | 4 => 238 | 5 => 240 | 6 => 241 | _ => 244
def to_ : Nat → Nat | 0 => 223 | 1 => 224 | 2 => 236 | 3 => 237 | 4 => 239 | 5 => 240 | 6 => 243 | _ => 244
def tc : Nat → Nat | 0 => 1 | 1 => 2 | 2 => 2 | 3 => 2 | 4 => 2 | _ => 3
def tl : Nat → Nat | 1 => 160 | 5 => 144 | _ => 128
def th : Nat → Nat | 3 => 159 | 7 => 143 | _ => 191

def zer : Array Value := #[.int .u8 0, .int .u8 0, .int .i64 0, .int .u8 0, .int .u8 0, .int .u8 0, .int .u8 0, .int .i64 0, .int .u8 0, .int .u8 0,
  .int .u8 0, .int .u8 0, .int .i64 0, .int .u8 0, .int .u8 0, .int .u8 0, .int .u8 0, .int .i64 0, .int .u8 0, .int .u8 0,
  .int .u8 0, .int .u8 0, .int .i64 0, .int .u8 0, .int .u8 0, .int .u8 0, .int .u8 0, .int .i64 0, .int .u8 0, .int .u8 0,
  .int .u8 0, .int .u8 0, .int .i64 0, .int .u8 0, .int .u8 0, .int .u8 0, .int .u8 0, .int .i64 0, .int .u8 0, .int .u8 0]
theorem bhsz (w : World) (o : Obj) : (w.alloc o).heap.size = w.heap.size + 1 := by simp
theorem last2 (w : World) (o o' : Obj) : ((w.alloc o).alloc o').heap[w.heap.size + 1]? = some o' := by
  have := heap_alloc_last (w.alloc o) o'
  simpa using this
theorem setRow2 (w : World) (o : Obj) (c c' : Array Value) (t : TypeId) : ((w.alloc o).alloc (.cells c t)).setRow (w.heap.size + 1) c' = (w.alloc o).alloc (.cells c' t) := by
  have := World.setRow_alloc_new (w.alloc o) c c' t
  simpa using this
set_option maxRecDepth 100000 in
theorem ix (k : Nat) (h : k < 8) (w : World) : (Instr.index 106 (.agg tab) (.int .i64 (k : Int))).run Try.prog w = .ok (.agg #[.int .u8 (bfr k : Int), .int .u8 (to_ k : Int), .int .i64 (tc k : Int), .int .u8 (tl k : Int), .int .u8 (th k : Int)]) w := by
  match k, h with
  | 0, _ => exact (by kernel_rfl : (Instr.index 106 (.agg tab) (.int .i64 0)).run Try.prog w = .ok (.agg #[.int .u8 194, .int .u8 223, .int .i64 1, .int .u8 128, .int .u8 191]) w)
  | 1, _ => exact (by kernel_rfl : (Instr.index 106 (.agg tab) (.int .i64 1)).run Try.prog w = .ok (.agg #[.int .u8 224, .int .u8 224, .int .i64 2, .int .u8 160, .int .u8 191]) w)
  | 2, _ => exact (by kernel_rfl : (Instr.index 106 (.agg tab) (.int .i64 2)).run Try.prog w = .ok (.agg #[.int .u8 225, .int .u8 236, .int .i64 2, .int .u8 128, .int .u8 191]) w)
  | 3, _ => exact (by kernel_rfl : (Instr.index 106 (.agg tab) (.int .i64 3)).run Try.prog w = .ok (.agg #[.int .u8 237, .int .u8 237, .int .i64 2, .int .u8 128, .int .u8 159]) w)
  | 4, _ => exact (by kernel_rfl : (Instr.index 106 (.agg tab) (.int .i64 4)).run Try.prog w = .ok (.agg #[.int .u8 238, .int .u8 239, .int .i64 2, .int .u8 128, .int .u8 191]) w)
  | 5, _ => exact (by kernel_rfl : (Instr.index 106 (.agg tab) (.int .i64 5)).run Try.prog w = .ok (.agg #[.int .u8 240, .int .u8 240, .int .i64 3, .int .u8 144, .int .u8 191]) w)
  | 6, _ => exact (by kernel_rfl : (Instr.index 106 (.agg tab) (.int .i64 6)).run Try.prog w = .ok (.agg #[.int .u8 241, .int .u8 243, .int .i64 3, .int .u8 128, .int .u8 191]) w)
  | 7, _ => exact (by kernel_rfl : (Instr.index 106 (.agg tab) (.int .i64 7)).run Try.prog w = .ok (.agg #[.int .u8 244, .int .u8 244, .int .i64 3, .int .u8 128, .int .u8 143]) w)
theorem row_le (k : Nat) : bfr k < 256 ∧ to_ k < 256 ∧ tc k < 4 ∧ tl k < 256 ∧ th k < 256 := by
  refine ⟨?_, ?_, ?_, ?_, ?_⟩
  · unfold bfr; split <;> omega
  · unfold to_; split <;> omega
  · unfold tc; split <;> omega
  · unfold tl; split <;> omega
  · unfold th; split <;> omega
/-- the row that holds x tells its tail -/
theorem row_yes {k x : Nat} (hk : k < 8) (h1 : bfr k ≤ x) (h2 : x ≤ to_ k) : bh x = ⟨tc k, tl k, th k⟩ ∧ nd x ≠ 0 := by
  match k, hk with
  | 0, _ | 1, _ | 2, _ | 3, _ | 4, _ | 5, _ | 6, _ | 7, _ =>
    simp only [bfr, to_] at h1 h2
    have a := nd_cases x
    have b := lt_cases x
    have c := mt_cases x
    unfold bh
    rw [if_neg (by omega), Tl.mk.injEq]
    simp only [tc, tl, th]
    omega
theorem row_no {x : Nat} (hx : 127 < x) (h : ∀ k, k < 8 → ¬ (bfr k ≤ x ∧ x ≤ to_ k)) : bh x = t0 ∧ nd x = 0 := by
  have h0 := h 0 (by omega)
  have h1 := h 1 (by omega)
  have h2 := h 2 (by omega)
  have h3 := h 3 (by omega)
  have h4 := h 4 (by omega)
  have h5 := h 5 (by omega)
  have h6 := h 6 (by omega)
  have h7 := h 7 (by omega)
  simp only [bfr, to_] at h0 h1 h2 h3 h4 h5 h6 h7
  have a := nd_cases x
  have e : nd x = 0 := by omega
  exact ⟨by unfold bh; rw [if_pos (by omega)], e⟩

set_option maxHeartbeats 400000 in
theorem behind_low (x : Nat) (w : World) (hx : x < 128) :
    Calls Try.prog 65 #[.int .u8 x] w fun e w' => e = .returned (.tuple #[tlv t0, .bool true]) ∧ Below w.heap.size w w' := by
  go_enter Try.func65, Try.ntmps65
  go_wp2
  refine bodyPost_ret (v := .tuple #[tlv t0, .bool true]) (by simp [results, Try.results65, go_sem, tlv, t0]) rfl ⟨rfl, ?_⟩
  exact (Below.refl _ _).alloc (Nat.le_refl _) _

set_option maxRecDepth 100000 in
set_option maxHeartbeats 1000000 in
theorem behind_high (x : Nat) (w : World) (hx : x < 256) (hx' : 127 < x) :
    Calls Try.prog 65 #[.int .u8 x] w fun e w' => e = .returned (.tuple #[tlv (bh x), .bool (decide (nd x ≠ 0))]) ∧ Below w.heap.size w w' := by
  go_enter Try.func65, Try.ntmps65
  go_upto_region 3 with fail
  go_cut [4] from 10 to 26 (fun s4 wx => s4 = .pointer (some ⟨w.heap.size + 1, 0, none⟩) ∧ wx = (w.alloc (.cells #[.int .i64 0, .int .u8 0, .int .u8 0] 83)).alloc (.cells tab 106))
  case first =>
    apply wp_region_lit
    refine wpList_buildTo rfl 83 _ rfl (some 10) rfl #[.int .i64 1, .int .u8 128, .int .u8 191] (by kernel_rfl) ?_
    refine wpList_buildTo rfl 105 _ rfl (some 11) rfl #[.int .u8 194, .int .u8 223, .int .i64 1, .int .u8 128, .int .u8 191] (by kernel_rfl) ?_
    refine wpList_buildTo rfl 83 _ rfl (some 12) rfl #[.int .i64 2, .int .u8 160, .int .u8 191] (by kernel_rfl) ?_
    refine wpList_buildTo rfl 105 _ rfl (some 13) rfl #[.int .u8 224, .int .u8 224, .int .i64 2, .int .u8 160, .int .u8 191] (by kernel_rfl) ?_
    refine wpList_buildTo rfl 83 _ rfl (some 14) rfl #[.int .i64 2, .int .u8 128, .int .u8 191] (by kernel_rfl) ?_
    refine wpList_buildTo rfl 105 _ rfl (some 15) rfl #[.int .u8 225, .int .u8 236, .int .i64 2, .int .u8 128, .int .u8 191] (by kernel_rfl) ?_
    refine wpList_buildTo rfl 83 _ rfl (some 16) rfl #[.int .i64 2, .int .u8 128, .int .u8 159] (by kernel_rfl) ?_
    refine wpList_buildTo rfl 105 _ rfl (some 17) rfl #[.int .u8 237, .int .u8 237, .int .i64 2, .int .u8 128, .int .u8 159] (by kernel_rfl) ?_
    refine wpList_buildTo rfl 83 _ rfl (some 18) rfl #[.int .i64 2, .int .u8 128, .int .u8 191] (by kernel_rfl) ?_
    refine wpList_buildTo rfl 105 _ rfl (some 19) rfl #[.int .u8 238, .int .u8 239, .int .i64 2, .int .u8 128, .int .u8 191] (by kernel_rfl) ?_
    refine wpList_buildTo rfl 83 _ rfl (some 20) rfl #[.int .i64 3, .int .u8 144, .int .u8 191] (by kernel_rfl) ?_
    refine wpList_buildTo rfl 105 _ rfl (some 21) rfl #[.int .u8 240, .int .u8 240, .int .i64 3, .int .u8 144, .int .u8 191] (by kernel_rfl) ?_
    refine wpList_buildTo rfl 83 _ rfl (some 22) rfl #[.int .i64 3, .int .u8 128, .int .u8 191] (by kernel_rfl) ?_
    refine wpList_buildTo rfl 105 _ rfl (some 23) rfl #[.int .u8 241, .int .u8 243, .int .i64 3, .int .u8 128, .int .u8 191] (by kernel_rfl) ?_
    refine wpList_buildTo rfl 83 _ rfl (some 24) rfl #[.int .i64 3, .int .u8 128, .int .u8 143] (by kernel_rfl) ?_
    refine wpList_buildTo rfl 105 _ rfl (some 25) rfl #[.int .u8 244, .int .u8 244, .int .i64 3, .int .u8 128, .int .u8 143] (by kernel_rfl) ?_
    refine wpList_buildTo rfl 106 _ rfl (some 26) rfl tab (by kernel_rfl) ?_
    refine wpList_allocTo rfl (some 4) rfl (.pointer (some ⟨(w.alloc (.cells #[.int .i64 0, .int .u8 0, .int .u8 0] 83)).heap.size, 0, none⟩)) (.cells zer 106) (by kernel_rfl) ?_
    rw [bhsz]
    refine wpList_store_rowTo rfl 106 _ _ rfl rfl (w.heap.size + 1) tab (by kernel_rfl) (by kernel_rfl) 106 zer (last2 _ _ _) (by kernel_rfl) (by kernel_rfl) (by kernel_rfl) ?_
    rw [setRow2]
    refine wpList_frame (a' := { tmps := #[(.int .u8 (x : Int)), undef, (.pointer (some ⟨w.heap.size, 0, none⟩)), (.bool false), (.pointer (some ⟨w.heap.size + 1, 0, none⟩)), undef, undef, (.int .u8 (x : Int)), (.bool (decide ((x : Int) ≤ 127))), undef, (.agg #[.int .i64 1, .int .u8 128, .int .u8 191]), (.agg #[.int .u8 194, .int .u8 223, .int .i64 1, .int .u8 128, .int .u8 191]), (.agg #[.int .i64 2, .int .u8 160, .int .u8 191]), (.agg #[.int .u8 224, .int .u8 224, .int .i64 2, .int .u8 160, .int .u8 191]), (.agg #[.int .i64 2, .int .u8 128, .int .u8 191]), (.agg #[.int .u8 225, .int .u8 236, .int .i64 2, .int .u8 128, .int .u8 191]), (.agg #[.int .i64 2, .int .u8 128, .int .u8 159]), (.agg #[.int .u8 237, .int .u8 237, .int .i64 2, .int .u8 128, .int .u8 159]), (.agg #[.int .i64 2, .int .u8 128, .int .u8 191]), (.agg #[.int .u8 238, .int .u8 239, .int .i64 2, .int .u8 128, .int .u8 191]), (.agg #[.int .i64 3, .int .u8 144, .int .u8 191]), (.agg #[.int .u8 240, .int .u8 240, .int .i64 3, .int .u8 144, .int .u8 191]), (.agg #[.int .i64 3, .int .u8 128, .int .u8 191]), (.agg #[.int .u8 241, .int .u8 243, .int .i64 3, .int .u8 128, .int .u8 191]), (.agg #[.int .i64 3, .int .u8 128, .int .u8 143]), (.agg #[.int .u8 244, .int .u8 244, .int .i64 3, .int .u8 128, .int .u8 143]), (.agg tab), undef, undef, undef, undef, undef, undef, undef, undef, undef, undef, undef, undef, undef, undef, undef, undef, undef, undef], defers := [] }) (by kernel_rfl) ?_
    refine wpList_nil ?_
    rename_i hJ hK
    exact hK _ _ (Met.intro (hJ _ _ ⟨_, _, _, _, _, _, _, _, _, _, _, _, _, _, _, _, _, _, ⟨rfl, rfl⟩, rfl⟩))
  case rest =>
    obtain ⟨rfl, rfl⟩ := hcut
    go_upto_region 4 with fail
    apply wp_region_lit
    refine wpList_load_row rfl 106 (.tmp 4) rfl (w.heap.size + 1) rfl _ tab (0, 0) _ (last2 _ _ _) Try.underlying106 rfl (by kernel_rfl) ?_
    go_wp2
    go_loopw [28] (fun s28 wr => ∃ k : Nat, k ≤ 8 ∧ s28 = .int .i64 (k : Int) ∧ Hid (∀ j, j < k → ¬ (bfr j ≤ x ∧ x ≤ to_ j)) ∧ Below w.heap.size w wr ∧ w.heap.size < wr.heap.size ∧ wr.heap[w.heap.size]? = some (.cells #[.int .i64 0, .int .u8 0, .int .u8 0] 83 (0, 0))) (fun s28 _ => (8 - intOf s28).toNat)
    case atStart => exact ⟨0, by omega, rfl, Lib.hid (fun j hj => absurd hj (by omega)), ((Below.refl _ _).alloc (Nat.le_refl _) _).alloc (by rw [bhsz]; omega) _, by rw [bhsz, bhsz]; omega, (Below.heap_alloc _ _ _ (by rw [bhsz]; omega)).trans (heap_alloc_last _ _)⟩
    case round =>
      obtain ⟨k, hk, rfl, hno, hb, hs, hblk⟩ := hrel
      have c0 : wr.cell? ⟨w.heap.size, 0, none⟩ = some (.int .i64 0) := cell_of_row _ _ 0 _ _ _ hblk
      have c1 : wr.cell? ⟨w.heap.size, 1, none⟩ = some (.int .u8 0) := cell_of_row _ _ 1 _ _ _ hblk
      have c2 : wr.cell? ⟨w.heap.size, 2, none⟩ = some (.int .u8 0) := cell_of_row _ _ 2 _ _ _ hblk
      have f0 : ∀ i, wr.frozen? ⟨w.heap.size, i, none⟩ = false := fun i => by simp [World.frozen?, hblk]
      have hlt : ∀ o, w.heap.size < (wr.alloc o).heap.size := fun o => by rw [bhsz]; omega
      by_cases hk8 : k < 8
      · have hix := ix k hk8
        have hr := row_le k
        by_cases hy : bfr k ≤ x ∧ x ≤ to_ k
        · have HE := Lib.hid (row_yes hk8 hy.1 hy.2)
          obtain ⟨hl, hh⟩ := hy
          go_wp2_with fail
          refine bodyPost_ret (v := .tuple #[.agg #[.int .i64 (tc k : Int), .int .u8 (tl k : Int), .int .u8 (th k : Int)], .bool true]) (by
            have hne : ¬ w.heap.size = wr.heap.size := by omega
            simp [results, Try.results65, go_sem, World.cell?, World.setCell, World.alloc, Array.getElem?_push, Array.getElem?_modify, hblk, hne]) rfl ⟨?_, ?_⟩
          · rw [HE.out.1]
            simp [tlv, HE.out.2]
          · exact (((hb.setCell (Nat.le_refl _) _).setCell (Nat.le_refl _) _).setCell (Nat.le_refl _) _).alloc (by simp [World.setCell]; omega) _
        · have HN := Lib.hid (fun j (hj : j < k + 1) => show ¬ (bfr j ≤ x ∧ x ≤ to_ j) from by
            by_cases e : j = k
            · subst e; exact hy
            · exact hno.out j (by omega))
          by_cases hl : bfr k ≤ x
          · have hh : ¬ x ≤ to_ k := fun h => hy ⟨hl, h⟩
            clear hy
            go_wp2_with fail
            go_roundw
            case rel => exact ⟨k + 1, by omega, by go_num, HN, hb.alloc (Nat.le_of_lt hs) _, hlt _, (Below.heap_alloc _ _ _ hs).trans hblk⟩
            case measure => simp [intOf]; omega
          · clear hy
            go_wp2_with fail
            go_roundw
            case rel => exact ⟨k + 1, by omega, by go_num, HN, hb.alloc (Nat.le_of_lt hs) _, hlt _, (Below.heap_alloc _ _ _ hs).trans hblk⟩
            case measure => simp [intOf]; omega
      · obtain rfl : k = 8 := by omega
        have HE := Lib.hid (row_no hx' hno.out)
        clear hno
        go_wp2_with fail
        refine bodyPost_ret (v := .tuple #[tlv t0, .bool false]) (by simp [results, Try.results65, go_sem, tlv, t0, World.cell?, World.setCell, Array.getElem?_modify, hblk]) rfl ⟨?_, ?_⟩
        · rw [HE.out.1]
          simp [HE.out.2]
        · exact ((hb.setCell (Nat.le_refl _) _).setCell (Nat.le_refl _) _).setCell (Nat.le_refl _) _

theorem behind_any (x : Nat) (w : World) (hx : x < 256) :
    Calls Try.prog 65 #[.int .u8 x] w fun e w' => e = .returned (.tuple #[tlv (bh x), .bool (decide (nd x ≠ 0))]) ∧ Below w.heap.size w w' := by
  by_cases h : 127 < x
  · exact behind_high x w hx h
  · have e : nd x = 1 := by unfold nd; rw [if_pos (by omega)]
    have e2 : bh x = t0 := by unfold bh; rw [if_pos (by omega)]
    rw [e, e2]
    exact behind_low x w (by omega)
end Go.Proofs.Ytfchondipjiicaa.nn
namespace Go.Proofs.Ytfchondipjiicaa.nn
open Go.RowKit

/-- block g is just pre and, behind it, what is due -/
def tcs (pre : List Value) (t : Tl) : Array Value := (pre ++ ([Value.int .i64 (t.c : Int), Value.int .u8 (t.lo : Int), Value.int .u8 (t.hi : Int)] : List Value)).toArray
def Sc (w : World) (g : Nat) (e : TypeId) (pre : List Value) (t : Tl) : Prop := w.heap[g]? = some (.cells (tcs pre t) e (0, 0))

section
variable {w w' : World} {g : Nat} {e : TypeId} {pre : List Value} {t t' : Tl} {off : Nat}
theorem tcs_0 : (tcs pre t)[pre.length]? = some (.int .i64 (t.c : Int)) := by simp [tcs]
theorem tcs_1 : (tcs pre t)[pre.length + 1]? = some (.int .u8 (t.lo : Int)) := by simp [tcs]
theorem tcs_2 : (tcs pre t)[pre.length + 2]? = some (.int .u8 (t.hi : Int)) := by simp [tcs]
theorem Sc.lt (h : Sc w g e pre t) : g < w.heap.size := (Array.getElem?_eq_some_iff.1 h).1
theorem Sc.cell (h : Sc w g e pre t) (i : Nat) : w.cell? ⟨g, i, none⟩ = (tcs pre t)[i]? := cell_of_row w g i (tcs pre t) e (0, 0) h
theorem Sc.c0 (h : Sc w g e pre t) (ho : pre.length = off) : w.cell? ⟨g, off, none⟩ = some (.int .i64 (t.c : Int)) := by subst ho; rw [h.cell, tcs_0]
theorem Sc.c1 (h : Sc w g e pre t) (ho : pre.length = off) : w.cell? ⟨g, off + 1, none⟩ = some (.int .u8 (t.lo : Int)) := by subst ho; rw [h.cell, tcs_1]
theorem Sc.c2 (h : Sc w g e pre t) (ho : pre.length = off) : w.cell? ⟨g, off + 2, none⟩ = some (.int .u8 (t.hi : Int)) := by subst ho; rw [h.cell, tcs_2]
theorem Sc.frozen (h : Sc w g e pre t) (i : Nat) : w.frozen? ⟨g, i, none⟩ = false := by
  unfold Sc at h
  simp [World.frozen?, h]
theorem Sc.below {B : Nat} (h : Sc w g e pre t) (hb : Below B w w') (hg : g < B) : Sc w' g e pre t := (hb.block g hg).trans h
theorem Sc.alloc (h : Sc w g e pre t) (o : Obj) : Sc (w.alloc o) g e pre t := (Below.heap_alloc _ _ _ h.lt).trans h
theorem Sc.set3 (h : Sc w g e pre t) (ho : pre.length = off) (c lo hi : Nat) : Sc (((w.setCell ⟨g, off, none⟩ (.int .i64 (c : Int))).setCell ⟨g, off + 1, none⟩ (.int .u8 (lo : Int))).setCell ⟨g, off + 2, none⟩ (.int .u8 (hi : Int))) g e pre ⟨c, lo, hi⟩ := by
  subst ho
  unfold Sc at h ⊢
  simp only [World.setCell, Array.getElem?_modify, h, if_true, Option.map_some, Option.isSome_none, Bool.false_eq_true, if_false]
  congr 2
  apply Array.ext_getElem?
  intro i
  simp only [tcs, Array.getElem?_setIfInBounds, List.getElem?_toArray, List.size_toArray, Array.size_setIfInBounds, List.length_append, List.length_cons, List.length_nil]
  by_cases h0 : i < pre.length
  · rw [if_neg (by omega), if_neg (by omega), if_neg (by omega), List.getElem?_append_left h0, List.getElem?_append_left h0]
  · obtain ⟨j, rfl⟩ : ∃ j, i = pre.length + j := ⟨i - pre.length, by omega⟩
    match j with
    | 0 | 1 | 2 => simp
    | j + 3 => simp
theorem Sc.set3n (h : Sc w g e pre t) (ho : pre.length = off) (c : Nat) : Sc (((w.setCell ⟨g, off, none⟩ (.int .i64 (c : Int))).setCell ⟨g, off + 1, none⟩ (.int .u8 128)).setCell ⟨g, off + 2, none⟩ (.int .u8 191)) g e pre ⟨c, 128, 191⟩ := h.set3 ho c 128 191
theorem below_set3 {B : Nat} (h : Below B w w') (hg : B ≤ g) (a b c : Nat) (u v x : Value) : Below B w (((w'.setCell ⟨g, a, none⟩ u).setCell ⟨g, b, none⟩ v).setCell ⟨g, c, none⟩ x) :=
  ((h.setCell hg u).setCell hg v).setCell hg x
end

theorem behind_bd (x : Nat) : (bh x).c < 4 ∧ (bh x).lo < 256 ∧ (bh x).hi < 256 := by
  have a := nd_cases x
  have b := lt_cases x
  have c := mt_cases x
  unfold bh
  split
  · exact ⟨by decide, by decide, by decide⟩
  · exact ⟨by dsimp only; omega, by dsimp only; omega, by dsimp only; omega⟩

set_option maxRecDepth 100000 in
set_option maxHeartbeats 1000000 in
theorem take_first (t : Tl) (g off : Nat) (e : TypeId) (pre : List Value) (x : Nat) (w : World) (h : Sc w g e pre t) (ho : pre.length = off) (hz : t.c = 0) (c lo hi : Nat) (b : Bool) (_ : c < 4) (_ : lo < 256) (_ : hi < 256)
    (hB : Hid (Calls Try.prog 65 #[.int .u8 (x : Int)] w fun e w' => e = .returned (.tuple #[.agg #[.int .i64 (c : Int), .int .u8 (lo : Int), .int .u8 (hi : Int)], .bool b]) ∧ Below w.heap.size w w')) :
    Calls Try.prog 59 #[.pointer (some ⟨g, off, none⟩), .int .u8 (x : Int)] w fun r w' => r = .returned (.bool b) ∧ Below g w w' ∧ Sc w' g e pre ⟨c, lo, hi⟩ := by
  have c0 := h.c0 ho
  have hlt := h.lt
  rw [hz] at c0
  have hz' := Lib.hid hz
  have ho' := Lib.hid ho
  have h' := Lib.hid h
  clear hz ho h
  go_enter Try.func59, Try.ntmps59
  go_wp2_with fail
  refine hB.out.mono ?_
  rintro r w1 ⟨rfl, hb⟩
  have hs := h'.out.below hb hlt
  have hb1 := (Below.refl g w).trans (hb.mono (Nat.le_of_lt hlt))
  have hlt1 := hs.lt
  have f1 := hs.frozen
  have d0 := hs.c0 ho'.out
  have d1 := hs.c1 ho'.out
  have d2 := hs.c2 ho'.out
  have hs' := Lib.hid hs
  clear hs
  go_wp2_with fail
  go_ret
  exact ⟨rfl, (below_set3 hb1 (Nat.le_refl g) _ _ _ _ _ _).alloc (by simp [World.setCell]; omega) _, (hs'.out.set3 ho'.out c lo hi).alloc _⟩

set_option maxRecDepth 100000 in
set_option maxHeartbeats 1000000 in
theorem take_next (t : Tl) (g off : Nat) (e : TypeId) (pre : List Value) (x : Nat) (w : World) (h : Sc w g e pre t) (ho : pre.length = off) (_ : x < 256) (hz : t.c ≠ 0) (hc : t.c < 4) :
    Calls Try.prog 59 #[.pointer (some ⟨g, off, none⟩), .int .u8 (x : Int)] w fun r w' => r = .returned (.bool (ok t x)) ∧ Below g w w' ∧ Sc w' g e pre (nx t x) := by
  have e1 : ok t x = decide (t.lo ≤ x ∧ x ≤ t.hi) := by unfold ok; rw [if_neg hz]
  have e2 : nx t x = if t.lo ≤ x ∧ x ≤ t.hi then ⟨t.c - 1, 128, 191⟩ else t := by unfold nx; rw [if_neg hz]
  rw [e1, e2]
  clear e1 e2
  obtain ⟨c, lo, hi⟩ := t
  dsimp only at *
  have c0 := h.c0 ho
  have c1 := h.c1 ho
  have c2 := h.c2 ho
  have f0 := h.frozen
  have hlt := h.lt
  have ho' := Lib.hid ho
  have h' := Lib.hid h
  clear ho h
  obtain ⟨c', rfl⟩ : ∃ c', c = c' + 1 := ⟨c - 1, by omega⟩
  by_cases hy : lo ≤ x ∧ x ≤ hi
  · rw [if_pos hy, decide_eq_true hy]
    obtain ⟨hl, hh⟩ := hy
    go_enter Try.func59, Try.ntmps59
    go_wp2_with fail
    go_ret
    exact ⟨rfl, below_set3 (Below.refl g w) (Nat.le_refl g) _ _ _ _ _ _, h'.out.set3n ho'.out c'⟩
  · rw [if_neg hy, decide_eq_false hy]
    by_cases hl : lo ≤ x
    · have hh : ¬ x ≤ hi := fun h => hy ⟨hl, h⟩
      clear hy
      go_enter Try.func59, Try.ntmps59
      go_wp2_with fail
      go_ret
      exact ⟨rfl, Below.refl _ _, h'.out⟩
    · clear hy
      go_enter Try.func59, Try.ntmps59
      go_wp2_with fail
      go_ret
      exact ⟨rfl, Below.refl _ _, h'.out⟩

theorem take_any (t : Tl) (g off : Nat) (e : TypeId) (pre : List Value) (x : Nat) (w : World) (h : Sc w g e pre t) (ho : pre.length = off) (hx : x < 256) (hc : t.c < 4) :
    Calls Try.prog 59 #[.pointer (some ⟨g, off, none⟩), .int .u8 (x : Int)] w fun r w' => r = .returned (.bool (ok t x)) ∧ Below g w w' ∧ Sc w' g e pre (nx t x) := by
  by_cases hz : t.c = 0
  · have e1 : ok t x = decide (nd x ≠ 0) := by unfold ok; rw [if_pos hz]
    have e2 : nx t x = bh x := by unfold nx; rw [if_pos hz]
    rw [e1, e2]
    have hb := behind_bd x
    exact take_first t g off e pre x w h ho hz _ _ _ _ hb.1 hb.2.1 hb.2.2 (Lib.hid (behind_any x w hx))
  · exact take_next t g off e pre x w h ho hx hz hc
end Go.Proofs.Ytfchondipjiicaa.nn
namespace Go.Proofs.Ytfchondipjiicaa.nn
open Go.RowKit

theorem ret_n {k : IntKind} {a b : Nat} (h : a = b) : Ending.returned (.int k (a : Int)) = .returned (.int k (b : Int)) := by rw [h]
/-- behind a refused byte the state stays -/
theorem tk_dead {f : Nat → Nat} {t : Tl} {m n : Nat} (h : al f t m = false) (hm : m ≤ n) : tk f t n = tk f t m := by
  induction n with
  | zero => obtain rfl : m = 0 := by omega
            rfl
  | succ n ih =>
    by_cases e : m = n + 1
    · subst e; rfl
    · have hn := dead h (show m ≤ n by omega)
      rw [← ih (by omega)]
      unfold al at hn
      unfold tk
      rw [go, if_neg (by rw [hn]; decide)]

set_option maxRecDepth 100000 in
set_option maxHeartbeats 1000000 in
theorem takeS_any (s : ByteArray) (t : Tl) (g off : Nat) (e : TypeId) (pre : List Value) (w : World) (h : Sc w g e pre t) (ho : pre.length = off) (ht : Gd t) (hs : s.size ≤ maxLen) :
    Calls Try.prog 55 #[.pointer (some ⟨g, off, none⟩), .string s] w fun r w' => r = .returned (.int .i64 (sp (bt s) t s.size : Int)) ∧ Below g w w' ∧ Sc w' g e pre (tk (bt s) t s.size) := by
  unfold maxLen at hs
  have ho' := Lib.hid ho
  have h' := Lib.hid h
  clear ho h
  go_enter Try.func55, Try.ntmps55
  go_wp2
  go_loopw [8] (fun s8 wr => ∃ k : Nat, k ≤ s.size ∧ s8 = .int .i64 (k : Int) ∧ Hid (al (bt s) t k = true) ∧ Hid (Below g w wr) ∧ Hid (Sc wr g e pre (tk (bt s) t k))) (fun s8 _ => s.size - (intOf s8).toNat)
  case atStart => exact ⟨0, Nat.zero_le _, rfl, Lib.hid rfl, Lib.hid (Below.refl _ _), h'⟩
  case round =>
    obtain ⟨k, hk, rfl, hal, hb, hsc⟩ := hrel
    by_cases hlt : k < s.size
    · have hC := take_any (tk (bt s) t k) g off e pre (bt s k) wr hsc.out ho'.out (bt_lt s k) (gd_lt (gd_go ht k))
      rw [bt_at hlt] at hC
      have hok := bt_at hlt
      by_cases hy : ok (tk (bt s) t k) (bt s k) = true
      · rw [← hok, hy, hok] at hC
        have hal' : Hid (al (bt s) t (k + 1) = true) := Lib.hid (by rw [al_succ, hal.out, hy]; rfl)
        have htk : Hid (tk (bt s) t (k + 1) = nx (tk (bt s) t k) s[k].toNat) := Lib.hid (by rw [tk_succ hal.out, hok])
        have HC := Lib.hid hC
        clear hC hy hok
        go_wp2_with fail
        refine HC.out.mono ?_
        rintro r w1 ⟨rfl, hb1, hs1⟩
        have hb2 := Lib.hid (hb.out.trans hb1)
        have hs2 : Hid (Sc w1 g e pre (tk (bt s) t (k + 1))) := Lib.hid (by rw [htk.out]; exact hs1)
        clear hb1 hs1
        go_wp2_with fail
        go_roundw
        case rel => exact ⟨k + 1, by omega, by go_num, hal', hb2, hs2⟩
        case measure => simp [intOf]; omega
      · have hy' : ok (tk (bt s) t k) (bt s k) = false := by simpa using hy
        rw [← hok, hy', hok] at hC
        have hal' : al (bt s) t (k + 1) = false := by rw [al_succ, hal.out, hy']; rfl
        have hE : Hid (sp (bt s) t s.size = k) := Lib.hid (sp_stop hal.out hal' (by omega))
        have htk : Hid (tk (bt s) t s.size = nx (tk (bt s) t k) s[k].toNat) := Lib.hid (by rw [tk_dead hal' (by omega), tk_succ hal.out, hok])
        have HC := Lib.hid hC
        clear hC hy hok hy' hal'
        go_wp2_with fail
        refine HC.out.mono ?_
        rintro r w1 ⟨rfl, hb1, hs1⟩
        have hb2 := Lib.hid (hb.out.trans hb1)
        have hs2 : Hid (Sc w1 g e pre (tk (bt s) t s.size)) := Lib.hid (by rw [htk.out]; exact hs1)
        clear hb1 hs1
        go_wp2_with fail
        go_ret
        exact ⟨ret_n hE.out.symm, hb2.out, hs2.out⟩
    · obtain rfl : k = s.size := by omega
      have hE : Hid (sp (bt s) t s.size = s.size) := Lib.hid (sp_all hal.out)
      go_wp2_with fail
      go_ret
      exact ⟨ret_n hE.out.symm, hb.out, hsc.out⟩
end Go.Proofs.Ytfchondipjiicaa.nn
namespace Go.Proofs.Ytfchondipjiicaa.nn
open Go.RowKit

theorem sc_new (w : World) : Sc (w.alloc (.cells #[.int .i64 0, .int .u8 0, .int .u8 0] 83)) w.heap.size 83 [] t0 := heap_alloc_last _ _

set_option maxRecDepth 100000 in
set_option maxHeartbeats 1000000 in
theorem check_any (s : ByteArray) (w : World) (hs : s.size ≤ maxLen) :
    Calls Try.prog 50 #[.string s] w fun r w' => r = .returned (.tuple #[.int .i64 (ckA (bt s) s.size : Int), .int .i64 (ckE (bt s) s.size : Int)]) ∧ Below w.heap.size w w' := by
  have HC := Lib.hid (takeS_any s t0 w.heap.size 0 83 [] _ (sc_new w) rfl gd_zero hs)
  have hle : sp (bt s) t0 s.size ≤ s.size := sp_le
  have H0 := Lib.hid (Below.refl w.heap.size w)
  have H1 := Lib.hid (fun o => (Below.refl w.heap.size w).alloc (Nat.le_refl _) o)
  unfold maxLen at hs
  by_cases hal : al (bt s) t0 s.size = true
  · have hE : ckA (bt s) s.size = s.size := sp_all hal
    rw [hE]
    rw [show sp (bt s) t0 s.size = s.size from hE] at HC
    have hc4 := gd_lt (gd_go gd_zero s.size (f := bt s))
    by_cases hz : (tk (bt s) t0 s.size).c = 0
    · have hE2 : ckE (bt s) s.size = 0 := by unfold ckE; rw [if_pos hal, if_pos hz]
      rw [hE2]
      have HZ := Lib.hid hz
      clear hz hE2 hE hal hle hc4
      go_enter Try.func50, Try.ntmps50
      go_wp2_with fail
      refine HC.out.mono ?_
      rintro r w1 ⟨rfl, hb, hsc⟩
      have c0 : w1.cell? ⟨w.heap.size, 0, none⟩ = some (.int .i64 0) := by
        have h := hsc.c0 (off := 0) rfl
        rw [HZ.out] at h
        exact h
      clear hsc
      go_wp2_with fail
      go_ret2
      exact ⟨rfl, (H1.out _).trans hb⟩
    · have hE2 : ckE (bt s) s.size = 3 := by unfold ckE; rw [if_pos hal, if_neg hz]
      rw [hE2]
      obtain ⟨c, hc⟩ : ∃ c, (tk (bt s) t0 s.size).c = c := ⟨_, rfl⟩
      have HZ := Lib.hid hc
      rw [hc] at hz hc4
      have hz' : 0 < c := by omega
      clear hz hE2 hE hal hle hc
      go_enter Try.func50, Try.ntmps50
      go_wp2_with fail
      refine HC.out.mono ?_
      rintro r w1 ⟨rfl, hb, hsc⟩
      have c0 := hsc.c0 (off := 0) rfl
      rw [HZ.out] at c0
      clear hsc
      go_wp2_with fail
      go_ret2
      exact ⟨rfl, (H1.out _).trans hb⟩
  · have hal' : al (bt s) t0 s.size = false := by simpa using hal
    have hE2 : ckE (bt s) s.size = 4 := by unfold ckE; rw [if_neg hal]
    rw [hE2]
    have hl := (sp_lt hal').1
    have hA : ckA (bt s) s.size = sp (bt s) t0 s.size := rfl
    rw [hA]
    clear hE2 hal hal' hA hle
    obtain ⟨p, hp⟩ : ∃ p, sp (bt s) t0 s.size = p := ⟨_, rfl⟩
    rw [hp] at HC hl
    rw [hp]
    clear hp
    go_enter Try.func50, Try.ntmps50
    go_wp2_with fail
    refine HC.out.mono ?_
    rintro r w1 ⟨rfl, hb, _⟩
    go_wp2_with fail
    go_ret2
    exact ⟨rfl, (H1.out _).trans hb⟩
end Go.Proofs.Ytfchondipjiicaa.nn
namespace Go.Proofs.Ytfchondipjiicaa.nn
open Go.RowKit

/-- could bytes be a great number's -/
def big (s : ByteArray) : Bool := decide (8 < s.size ∧ s.size ≤ 512 ∧ bt s 0 ≠ 0)
/-- of a tag: is what is within it a great number in another guise -/
def guise (n : Nat) (l : List VT) : Bool := match l with | [c] => decide (n = 2 ∨ n = 3) && (decide (c.k = 9) && big c.s) | _ => false
def sE (t : VT) : Bool := t.s.toList.isEmpty
def nE (t : VT) : Bool := (t.n : Int) == 0
/-- is a value right, whatever stands within it -/
def oneB (t : VT) : Bool :=
  if t.k = 0 ∨ t.k = 2 ∨ t.k = 11 then sE t && nE t && !t.g
  else if t.k = 1 then sE t && !t.g && decide (t.n ≤ 1)
  else if t.k = 3 then sE t && !t.g && decide (t.n ≤ 19 ∨ 32 ≤ t.n ∧ t.n ≤ 255)
  else if t.k = 4 then sE t
  else if t.k = 5 then nE t && big t.s
  else if t.k = 6 then sE t && !t.g && decide (t.n < 65536)
  else if t.k = 7 then sE t && !t.g && decide (t.n < 4294967296)
  else if t.k = 8 then sE t && !t.g
  else if t.k = 9 then nE t && !t.g
  else if t.k = 10 then nE t && !t.g && decide (ckE (bt t.s) t.s.size = 0)
  else if t.k = 12 then sE t && nE t && !t.g && decide (t.l.length % 2 = 0)
  else if t.k = 13 then sE t && !t.g && decide (t.l.length = 1) && !guise t.n t.l
  else if t.k = 14 then !t.g && decide (t.n ≤ 255)
  else false
end Go.Proofs.Ytfchondipjiicaa.nn
namespace Go.Proofs.Ytfchondipjiicaa.nn
open Go.RowKit

theorem ne_int8 {c k : Int} (h : c ≠ k) : (c == k) = false := by simp [h]
end Go.Proofs.Ytfchondipjiicaa.nn
namespace Go.Proofs.Ytfchondipjiicaa.nn
open Go.RowKit

mutual
/-- is all of a tree right -/
def rgt : VT → Bool | .mk k g n s l => oneB (.mk k g n s l) && (!(lf k) || decide (l.length = 0)) && rgtL l
def rgtL : List VT → Bool | [] => true | t :: r => rgt t && rgtL r
end
theorem rgt_mk (t : VT) : rgt t = (oneB t && (!(lf t.k) || decide (t.l.length = 0)) && rgtL t.l) := by cases t; rfl
mutual
/-- the longest text -/
def smx : VT → Nat | .mk _ _ _ s l => max s.size (smxL l)
def smxL : List VT → Nat | [] => 0 | t :: r => max (smx t) (smxL r)
end
theorem smx_mk (t : VT) : smx t = max t.s.size (smxL t.l) := by cases t; rfl
end Go.Proofs.Ytfchondipjiicaa.nn
namespace Go.Proofs.Ytfchondipjiicaa.nn
open Go.RowKit

/-- what Check answers of a tree -/
def chk (t : VT) : Nat := if 64 < dep t ∨ 65536 < cnt t then 2 else if rgt t then 0 else 9
end Go.Proofs.Ytfchondipjiicaa.nn
namespace Go.Proofs.Ytfchondipjiicaa.nn

/-- the lowest w bytes of n, the highest first -/
def lwP (n w : Nat) : List UInt8 := lsF (fun i => n / 256 ^ (w - 1 - i) % 256) w
theorem lwP_len (n w : Nat) : (lwP n w).length = w := lsF_len _ _
/-- how often a width is doubled till it has room for n -/
def lsK (n w : Nat) : Nat := if n < 256 ^ w then 0 else if n < 256 ^ (2 * w) then 1 else if n < 256 ^ (4 * w) then 2 else 3
theorem lsK_le (n w : Nat) : lsK n w ≤ 3 := by
  unfold lsK
  split
  · omega
  · split
    · omega
    · split <;> omega
/-- a first byte and a number behind it -/
def phP (first w n : Nat) : List UInt8 := UInt8.ofNat (first + lsK n w) :: lwP n (w * 2 ^ lsK n w)
/-- a whole number -/
def pnP (g : Bool) (n : Nat) : List UInt8 :=
  if g then (if n ≤ 31 then lwP (18446744073709551615 - n) 1 else UInt8.ofNat (208 + lsK (2 * n) 1) :: lwP (18446744073709551615 - n) (2 ^ lsK (2 * n) 1))
  else if n < 128 then [UInt8.ofNat n] else phP 204 1 n
def ptP (s : ByteArray) : List UInt8 := (if s.size < 32 then [UInt8.ofNat (160 + s.size)] else phP 217 1 s.size) ++ s.data.toList
def pbP (s : ByteArray) : List UInt8 := phP 196 1 s.size ++ s.data.toList
def pmP (few first c : Nat) : List UInt8 := if c < 16 then [UInt8.ofNat (few + c)] else phP first 2 c
/-- the head of a KExt -/
def peP (m : Nat) : List UInt8 := if m = 1 then [212] else if m = 2 then [213] else if m = 4 then [214] else if m = 8 then [215] else if m = 16 then [216] else phP 199 1 m
def pxP (n : Nat) (s : ByteArray) : List UInt8 := peP s.size ++ [UInt8.ofNat (n % 256)] ++ s.data.toList
/-- an item, those within it given -/
def pkH (k : Int) (g : Bool) (n : Nat) (s : ByteArray) (c : Nat) (L : List UInt8) : List UInt8 :=
  if k = 0 then [192] else if k = 1 then [UInt8.ofNat (194 + n)] else if k = 4 then pnP g n else if k = 7 then 202 :: lwP n 4 else if k = 8 then 203 :: lwP n 8
  else if k = 9 then pbP s else if k = 10 then ptP s else if k = 11 then pmP 144 220 c ++ L else if k = 12 then pmP 128 222 (c / 2) ++ L else pxP n s
mutual
def pkB : VT → List UInt8 | .mk k g n s l => pkH k g n s l.length (pkL l)
def pkL : List VT → List UInt8 | [] => [] | t :: r => pkB t ++ pkL r
end
theorem pkB_mk (t : VT) : pkB t = pkH t.k t.g t.n t.s t.l.length (pkL t.l) := by cases t; rfl
theorem pkL_app (a b : List VT) : pkL (a ++ b) = pkL a ++ pkL b := by
  induction a with
  | nil => rfl
  | cons t r ih => simp only [List.cons_append, pkL, ih, List.append_assoc]
theorem pkL_take_succ {l : List VT} {i : Nat} (h : i < l.length) : pkL (l.take (i + 1)) = pkL (l.take i) ++ pkB l[i] := by
  rw [List.take_succ_eq_append_getElem h, pkL_app]
  simp [pkL]
/-- may a value be said, those within it left aside -/
def pkS (k : Int) (g : Bool) (n : Nat) : Bool := if k = 4 then !g || decide (n < 9223372036854775808) else !decide (k = 2 ∨ k = 3 ∨ k = 5 ∨ k = 6 ∨ k = 13)
mutual
/-- may a tree be said -/
def say : VT → Bool | .mk k g n _ l => pkS k g n && sayL l
def sayL : List VT → Bool | [] => true | t :: r => say t && sayL r
end
theorem say_mk (t : VT) : say t = (pkS t.k t.g t.n && sayL t.l) := by cases t; rfl
theorem sayL_app (a b : List VT) : sayL (a ++ b) = (sayL a && sayL b) := by
  induction a with
  | nil => simp [sayL]
  | cons t r ih => simp only [List.cons_append, sayL, ih, Bool.and_assoc]
theorem sayL_take_succ {l : List VT} {i : Nat} (h : i < l.length) : sayL (l.take (i + 1)) = (sayL (l.take i) && say l[i]) := by
  rw [List.take_succ_eq_append_getElem h, sayL_app]
  simp [sayL]
theorem sayL_no {l : List VT} {i : Nat} (h : i < l.length) (hx : say l[i] = false) : sayL l = false := by
  have h1 := sayL_take_succ h
  rw [hx, Bool.and_false] at h1
  have h2 := sayL_app (l.take (i + 1)) (l.drop (i + 1))
  rw [List.take_append_drop, h1, Bool.false_and] at h2
  exact h2
theorem phP_len (first w n : Nat) : (phP first w n).length = w * 2 ^ lsK n w + 1 := by unfold phP; rw [List.length_cons, lwP_len]
theorem two_lsK (n w : Nat) : 1 ≤ 2 ^ lsK n w ∧ 2 ^ lsK n w ≤ 8 := by
  have h := lsK_le n w
  have : lsK n w = 0 ∨ lsK n w = 1 ∨ lsK n w = 2 ∨ lsK n w = 3 := by omega
  rcases this with e | e | e | e <;> rw [e] <;> decide
theorem phP1_le (first n : Nat) : (phP first 1 n).length ≤ 9 := by rw [phP_len]; have := two_lsK n 1; omega
theorem ba_len6 (s : ByteArray) : s.data.toList.length = s.size := Array.length_toList
theorem ptP_le (s : ByteArray) : s.size ≤ (ptP s).length ∧ (ptP s).length ≤ s.size + 9 := by
  unfold ptP
  have := phP1_le 217 s.size
  have := ba_len6 s
  rw [List.length_append]
  split
  · simp only [List.length_singleton]; omega
  · omega
theorem pbP_le (s : ByteArray) : s.size ≤ (pbP s).length ∧ (pbP s).length ≤ s.size + 9 := by
  unfold pbP
  have := phP1_le 196 s.size
  have := ba_len6 s
  rw [List.length_append]
  omega
theorem peP_le (m : Nat) : (peP m).length ≤ 9 := by
  unfold peP
  have := phP1_le 199 m
  repeat' split
  all_goals first | omega | simp
theorem pxP_le (n : Nat) (s : ByteArray) : s.size ≤ (pxP n s).length ∧ (pxP n s).length ≤ s.size + 10 := by
  unfold pxP
  have := peP_le s.size
  have := ba_len6 s
  simp only [List.length_append, List.length_singleton]
  omega
/-- the error of Encode, and its bytes -/
def epE (t : VT) : Nat := if chk t = 0 then (if say t then 0 else 10) else chk t
def epL (t : VT) : List UInt8 := if chk t = 0 ∧ say t = true then pkB t else []
end Go.Proofs.Ytfchondipjiicaa.nn
namespace Go.Proofs.Ytfchondipjiicaa.nn
open Go.RowKit

/-- all blocks but b and rows of bytes are as they were -/
def Kq (b : Nat) (w w' : World) : Prop := ∀ k cs T, k ≠ b → T ≠ 5 → w.heap[k]? = some (.cells cs T (0, 0)) → w'.heap[k]? = some (.cells cs T (0, 0))
theorem Kq.refl (b : Nat) (w : World) : Kq b w w := fun _ _ _ _ _ h => h
theorem Kq.trans {b : Nat} {w w' w2 : World} (h : Kq b w w') (k : Kq b w' w2) : Kq b w w2 := fun i cs T h1 h2 h3 => k i cs T h1 h2 (h i cs T h1 h2 h3)
theorem Kq.set {b : Nat} {w w' : World} (h : Kq b w w') (j : Nat) (v : Value) : Kq b w (w'.setCell ⟨b, j, none⟩ v) := fun i cs T h1 h2 h3 => (Below.heap_setCell _ _ _ _ (fun e => h1 (by simp [e]))).trans (h i cs T h1 h2 h3)
theorem Kq.of_below {b : Nat} {w w' : World} (h : Below w.heap.size w w') : Kq b w w' := fun i _ _ _ _ h3 => (h.block i (lt_of_block h3)).trans h3
theorem Kq.grown {b : Nat} {w w' w2 : World} {v : Value} {B n : Nat} {xs : List Value} (h : Kq b w w') (hg : w'.grownBy w2 v.ownBlock) (hown : w'.ownsRow B 5 1 v n xs) : Kq b w w2 := fun i cs T h1 h2 h3 => by
  have h4 := h i cs T h1 h2 h3
  exact (hg.block i (lt_of_block h4) (fun e => Lib.ownBlock_ne hown h4 h2 e.symm)).trans h4
theorem Kq.alloc {b : Nat} {w w' : World} (h : Kq b w w') (o : Obj) : Kq b w (w'.alloc o) := h.trans (.of_below ((Below.refl _ _).alloc (Nat.le_refl _) o))
theorem Kq.drew {b : Nat} {w w' : World} (h : Kq b w w') : Kq b w w'.drew := h
/-- the block of a writer, before its slice is stored -/
def Pbk (B b : Nat) (v0 v : Value) (l : List UInt8) (w : World) : Prop := B ≤ b ∧ w.heap[b]? = some (.cells #[v0] 45 (0, 0)) ∧ w.ownsRow B 5 1 v l.length (Lib.byteCells l)
/-- the writer in block b has written l -/
def Pw (B b : Nat) (l : List UInt8) (w : World) : Prop := ∃ v, Pbk B b v v l w
section
variable {B b : Nat} {v0 v : Value} {l : List UInt8} {w w' : World}
theorem Pbk.c0 (h : Pbk B b v0 v l w) : w.cell? ⟨b, 0, none⟩ = some v0 := cell_of_row _ _ 0 _ _ _ h.2.1
theorem Pbk.f0 (h : Pbk B b v0 v l w) : w.frozen? ⟨b, 0, none⟩ = false := by simp [World.frozen?, h.2.1]
theorem Pbk.lt (h : Pbk B b v0 v l w) : b < w.heap.size := lt_of_block h.2.1
theorem Pbk.ne (h : Pbk B b v0 v l w) : v.ownBlock ≠ some b := Lib.ownBlock_ne h.2.2 h.2.1 (by decide)
theorem Pbk.put (h : Pbk B b v0 v l w) : Pw B b l (w.setCell ⟨b, 0, none⟩ v) := by
  have hne := h.ne
  obtain ⟨hB, hb, hown⟩ := h
  refine ⟨v, hB, ?_, ?_⟩
  · simp [World.setCell, Array.getElem?_modify, hb]
  · exact hown.kept (row := some b) ⟨rfl, rfl, rfl, by simp [World.setCell], fun k _ hk => Below.heap_setCell _ _ _ _ (fun e => hk (by simp [e]))⟩ (Or.inr hne)
theorem Pbk.below (h : Pbk B b v0 v l w) (hb : Below w.heap.size w w') : Pbk B b v0 v l w' := ⟨h.1, (hb.block b h.lt).trans h.2.1, own_below h.2.2 hb⟩
theorem Pw.below (h : Pw B b l w) (hb : Below w.heap.size w w') : Pw B b l w' := by
  obtain ⟨v, h⟩ := h
  exact ⟨v, h.below hb⟩
theorem Pw.lt (h : Pw B b l w) : b < w.heap.size := by
  obtain ⟨v, h⟩ := h
  exact h.lt
end
theorem infoP8 : (Try.prog.info? 5).map (fun i => (i.zero, i.size, i.bytes)) = some (some (.int .u8 0), 1, 1) := by kernel_rfl
-- an append of bytes that can be read
set_option maxRecDepth 100000 in
theorem run_appP (B b : Nat) (v : Value) (l M : List UInt8) (w : World) (ty : TypeId) (h : Pbk B b v v l w) (A : Option Addr) (m c : Nat) (hm : m = M.length) (hr : Rd w .u8 A m (gL M)) (hle : l.length + M.length ≤ 140737488355328) (hbase : B ≤ w.heap.size) :
    ∃ v' w', (Builtin.append_ #[26, 26] ty #[v, .slice A m c]).run Try.prog w = .ok v' w' ∧ Pbk B b v v' (l ++ M) w' ∧ Below B w w' ∧ Kq b w w' := by
  obtain ⟨i0, hi, hz0, hz1, hz2⟩ := info_parts infoP8
  obtain ⟨hB, hb, hown⟩ := h
  have hne : v.ownBlock ≠ some b := Lib.ownBlock_ne hown hb (by decide)
  subst hm
  rcases A with _ | ad
  · have h0 : M = [] := by
      rcases M with _ | ⟨x, M⟩
      · rfl
      · obtain ⟨b, off, e, _⟩ := hr (by simp)
        cases e
    subst h0
    refine ⟨v, w, ?_, ⟨hB, hb, by rw [List.append_nil]; exact hown⟩, Below.refl _ _, Kq.refl _ _⟩
    rcases hown.2 with ⟨rfl, e0⟩ | ⟨g, cap, cur, rfl, _, _, hnc, _⟩
    · rw [List.length_eq_zero_iff] at e0
      subst e0
      simp [Builtin.append_, run_underlying Try.underlying26, sizeOf, typeInfo, hi, Builtin.lenOf, Builtin.firstCells]
    · simp [Builtin.append_, run_underlying Try.underlying26, sizeOf, typeInfo, hi, Builtin.lenOf, Builtin.firstCells, hnc, storeCells]
  · have hcells : ∀ j u, (vl .u8 (gL M) M.length)[j]? = some u → w.cell? (ad.add j) = some u := by
      intro j u hu
      have hj : j < M.length := by
        have := (List.getElem?_eq_some_iff.1 hu).1
        rwa [vl_length] at this
      obtain ⟨b, off, e1, _, hc⟩ := hr (by omega)
      injection e1 with e1
      subst e1
      rw [vl_at .u8 (gL M) hj] at hu
      injection hu with hu
      subst hu
      have hadd : (⟨b, off, none⟩ : Addr).add j = ⟨b, off + j, none⟩ := by unfold Addr.add; split <;> simp_all
      rw [hadd]
      exact hc j hj
    obtain ⟨v', w', hrun, h2, h3, _⟩ := run_append_own_at (P := Try.prog) w B 26 ty 5 i0 (.int .u8 0) 1 1 Try.underlying26 hi hz0 hz1 hz2 rfl (by omega) v l.length _ hown ad M.length c (vl .u8 (gL M) M.length) (by rw [vl_length, Nat.mul_one]) hcells (vl_one .u8 (gL M) M.length) (by unfold maxLen; omega) (by omega) hbase
    rw [← bc_vl, ← Lib.byteCells_append] at h2
    refine ⟨v', w', hrun, ⟨hB, (h3.block b (lt_of_block hb) (fun e => hne e.symm)).trans hb, by rw [List.length_append]; exact h2⟩, (Below.refl B w).grown h3 hbase (fun k hk => (hown.lt k hk).1), (Kq.refl b w).grown h3 hown⟩
section
variable {w : World}
theorem wp_appP {oo : Oper} {a : Act} {R : Act → World → Prop} {Q : Exit → Act → World → Prop} (s x : Operand)
    (ho : oo.op = .call { callee := .builtin .append, args := #[s, x], argTypes := #[26, 26] })
    (B b : Nat) (v : Value) (l M : List UInt8) (hs : a.eval s = v) (h : Pbk B b v v l w) (A : Option Addr) (m c : Nat) (hm : m = M.length) (hx : a.eval x = .slice A m c) (hr : Rd w .u8 A m (gL M)) (hle : l.length + M.length ≤ 140737488355328) (hbase : B ≤ w.heap.size)
    (k : ∀ v' w', Pbk B b v v' (l ++ M) w' → Below B w w' → Kq b w w' → R (a.put oo.dst v') w') : oo.wp Try.prog a w R Q := by
  obtain ⟨v', w', hrun, h2, h3, h4⟩ := run_appP B b v l M w oo.type h A m c hm hr hle hbase
  unfold Oper.wp execOp
  simp only [ho, resolve, invoke, builtin, Sem.run_bind, Sem.run_pure, Result.andThen_ok, List.map_toArray, List.map_cons, List.map_nil, hs, hx, hrun]
  exact k v' w' h2 h3 h4
theorem wpList_appP {ops : Array Oper} {rest : List Oper} {oo : Oper} {a : Act} {Q : Exit → Act → World → Prop} (hgd : oo.guard = none) (s x : Operand)
    (ho : oo.op = .call { callee := .builtin .append, args := #[s, x], argTypes := #[26, 26] })
    (B b : Nat) (v : Value) (l M : List UInt8) (hs : a.eval s = v) (h : Pbk B b v v l w) (A : Option Addr) (m c : Nat) (hm : m = M.length) (hx : a.eval x = .slice A m c) (hr : Rd w .u8 A m (gL M)) (hle : l.length + M.length ≤ 140737488355328) (hbase : B ≤ w.heap.size)
    (k : ∀ v' w', Pbk B b v v' (l ++ M) w' → Below B w w' → Kq b w w' → wpList Try.prog ops Q rest (a.put oo.dst v') w') : wpList Try.prog ops Q (oo :: rest) a w :=
  wpList_plain hgd fun _ hK => wp_appP s x ho B b v l M hs h A m c hm hx hr hle hbase fun v' w' h2 h3 h4 => hK _ _ (k v' w' h2 h3 h4)
theorem step_appP {ops : Array Oper} {oo : Oper} {a : Act} {R : Act → World → Prop} {Q : Exit → Act → World → Prop} {E : Prop} (hgd : oo.guard = none) (s x : Operand)
    (ho : oo.op = .call { callee := .builtin .append, args := #[s, x], argTypes := #[26, 26] })
    (B b : Nat) (v : Value) (l M : List UInt8) (hs : a.eval s = v) (h : Pbk B b v v l w) (A : Option Addr) (m c : Nat) (hm : m = M.length) (hx : a.eval x = .slice A m c) (hr : Rd w .u8 A m (gL M)) (hle : l.length + M.length ≤ 140737488355328) (hbase : B ≤ w.heap.size)
    (k : ∀ v' w', Pbk B b v v' (l ++ M) w' → Below B w w' → Kq b w w' → R (a.put oo.dst v') w') :
    if Region.wanted oo (yielded ops a.tmps) = true then Oper.wp Try.prog oo a w R Q else E := by
  have hw : Region.wanted oo (yielded ops a.tmps) = true := by simp [Region.wanted, hgd]
  rw [if_pos hw]
  exact wp_appP s x ho B b v l M hs h A m c hm hx hr hle hbase k
/-- an append of a text -/
theorem wpList_appPS {ops : Array Oper} {rest : List Oper} {oo : Oper} {a : Act} {Q : Exit → Act → World → Prop} (hgd : oo.guard = none) (s x : Operand)
    (ho : oo.op = .call { callee := .builtin .append, args := #[s, x], argTypes := #[26, 9] })
    (B b : Nat) (v : Value) (l : List UInt8) (T : ByteArray) (hs : a.eval s = v) (h : Pbk B b v v l w) (hx : a.eval x = .string T) (hle : l.length + T.size ≤ 140737488355328) (hbase : B ≤ w.heap.size)
    (k : ∀ v' w', Pbk B b v v' (l ++ T.data.toList) w' → Below B w w' → Kq b w w' → wpList Try.prog ops Q rest (a.put oo.dst v') w') : wpList Try.prog ops Q (oo :: rest) a w := by
  obtain ⟨i0, hi, hz0, hz1, hz2⟩ := info_parts infoP8
  have hne := h.ne
  obtain ⟨hB, hb, hown⟩ := h
  refine Lib.wpList_append_own_string w hgd s x 26 9 ho B 5 i0 Try.underlying26 Try.underlying9 hi hz0 hz1 hz2 v l.length _ hs hown T hx (by unfold maxLen; omega) hle hbase fun v' w' h1 h2 _ => k v' w' ⟨hB, (h2.block b (lt_of_block hb) (fun e => hne e.symm)).trans hb, ?_⟩ ((Below.refl B w).grown h2 hbase (fun k hk => (hown.lt k hk).1)) ((Kq.refl b w).grown h2 hown)
  rw [Lib.byteCells_append, ← Lib.strCells_eq, List.length_append, Array.length_toList]
  exact h1
end
end Go.Proofs.Ytfchondipjiicaa.nn
namespace Go.Proofs.Ytfchondipjiicaa.nn
open Go.RowKit

theorem pu8_of {d : Nat} (h : d < 256) : (UInt8.ofNat d).toNat = d := by
  rw [UInt8.toNat_ofNat']
  exact Nat.mod_eq_of_lt h
theorem prd_b1 (w : World) {d : Nat} (h : d < 256) (e : TypeId) : Rd (w.alloc (.cells #[.int .u8 (d : Int)] e)) .u8 (some ⟨w.heap.size, 0, none⟩) 1 (gL [UInt8.ofNat d]) :=
  (rd_one w .u8 d e).congr fun i hi => by
    obtain rfl : i = 0 := by omega
    exact (pu8_of h).symm
theorem lsF_succ6 (f : Nat → Nat) (n : Nat) : lsF f (n + 1) = lsF f n ++ [UInt8.ofNat (f n)] := by simp [lsF, List.range_succ]
theorem Pbk.form {B b : Nat} {v0 v : Value} {l : List UInt8} {w : World} (h : Pbk B b v0 v l w) : ∃ A n c, v = .slice A n c := by
  rcases h.2.2.2 with ⟨rfl, _⟩ | ⟨g, cap, cur, hv, _⟩
  · exact ⟨_, _, _, rfl⟩
  · exact ⟨_, _, cap, hv⟩
/-- what a call of the writer's answers -/
def PwAns (B b : Nat) (l : List UInt8) (w : World) (e : Ending) (w' : World) : Prop := e = .returned (.tuple #[]) ∧ Pw B b l w' ∧ Below B w w' ∧ Kq b w w'
set_option maxRecDepth 100000 in
set_option maxHeartbeats 1000000 in
theorem pfirst_any (B b : Nat) (l : List UInt8) (d : Nat) (w : World) (h : Pw B b l w) (hd256 : d < 256) (hle : l.length + 1 ≤ 140737488355328) (hBw : B ≤ w.heap.size) :
    Calls Try.prog 26 #[.pointer (some ⟨b, 0, none⟩), .int .u8 (d : Int)] w (PwAns B b (l ++ [UInt8.ofNat d]) w) := by
  obtain ⟨v, hb⟩ := h
  have c0 := hb.c0
  have HB := Lib.hid hb
  have HR := Lib.hid (prd_b1 w hd256 5)
  have HA := Lib.hid (hb.below ((Below.refl _ _).alloc (Nat.le_refl _) (.cells #[.int .u8 (d : Int)] 5)))
  have HBL := Lib.hid ((Below.refl B w).alloc hBw (.cells #[.int .u8 (d : Int)] 5))
  have HKW := Lib.hid ((Kq.refl b w).alloc (.cells #[.int .u8 (d : Int)] 5))
  have hsz : B ≤ (w.alloc (.cells #[.int .u8 (d : Int)] 5)).heap.size := by simp; omega
  clear hb hBw
  go_enter Try.func26, Try.ntmps26
  go_wp2_with (at_builtin; refine wpList_appP rfl _ _ rfl B b v l [UInt8.ofNat d] rfl HA.out (some ⟨w.heap.size, 0, none⟩) 1 1 rfl rfl HR.out hle hsz ?_; intro v' w2 h2 hb2 hk2; have d0 := h2.c0; have f0 := h2.f0; have HB2 := Lib.hid h2; have HL2 := Lib.hid hb2; have HK2 := Lib.hid hk2; obtain ⟨A2, n2, c2, rfl⟩ := h2.form; clear h2 hb2 hk2 c0)
  go_end0
  exact ⟨rfl, HB2.out.put, (HBL.out.trans HL2.out).setCell (p := ⟨b, 0, none⟩) HB.out.1 _, (HKW.out.trans HK2.out).set 0 _⟩
set_option maxRecDepth 100000 in
set_option maxHeartbeats 8000000 in
theorem plow_any (B b : Nat) (l : List UInt8) (n q : Nat) (w : World) (h : Pw B b l w) (_ : n < 18446744073709551616) (hq0 : 0 < q) (hq : q ≤ 8) (hle : l.length + 8 ≤ 140737488355328) (hBw : B ≤ w.heap.size) :
    Calls Try.prog 21 #[.pointer (some ⟨b, 0, none⟩), .int .u64 (n : Int), .int .i64 (q : Int)] w (PwAns B b (l ++ lwP n q) w) := by
  have HL : Hid (Pw B b l w ∧ Below B w w ∧ Kq b w w ∧ B ≤ w.heap.size) := Lib.hid ⟨h, Below.refl _ _, Kq.refl _ _, hBw⟩
  obtain ⟨T, hT⟩ : ∃ T, l ++ lwP n q = T := ⟨_, rfl⟩
  have HT := Lib.hid hT
  unfold lwP at HT
  rw [hT]
  clear hT h hBw
  go_enter Try.func21, Try.ntmps21
  go_wp2_with fail
  go_loopw [6] (fun s6 wr => ∃ j : Nat, j ≤ q ∧ s6 = .int .i64 ((q : Int) - 1 - (j : Int)) ∧ Hid (Pw B b (l ++ lsF (fun i => n / 256 ^ (q - 1 - i) % 256) j) wr ∧ Below B w wr ∧ Kq b w wr ∧ B ≤ wr.heap.size)) (fun s6 _ => ((intOf s6) + 1).toNat)
  case atStart => exact ⟨0, Nat.zero_le _, congrArg (Value.int .i64) (by omega), Lib.hid ⟨by rw [show lsF (fun i => n / 256 ^ (q - 1 - i) % 256) 0 = [] from rfl, List.append_nil]; exact HL.out.1, HL.out.2⟩⟩
  case round =>
    obtain ⟨j, hj, rfl, hO⟩ := hrel
    by_cases hlt : j < q
    · obtain ⟨i, hii⟩ : ∃ i : Nat, (q : Int) - 1 - (j : Int) = (i : Int) := ⟨q - 1 - j, by omega⟩
      rw [hii]
      have h8 : i = 0 ∨ i = 1 ∨ i = 2 ∨ i = 3 ∨ i = 4 ∨ i = 5 ∨ i = 6 ∨ i = 7 := by omega
      obtain ⟨d, hd⟩ : ∃ d, n / 256 ^ i % 256 = d := ⟨_, rfl⟩
      have hd256 : d < 256 := by rw [← hd]; exact Nat.mod_lt _ (by decide)
      have HDJ : Hid (lsF (fun i => n / 256 ^ (q - 1 - i) % 256) (j + 1) = lsF (fun i => n / 256 ^ (q - 1 - i) % 256) j ++ [UInt8.ofNat d]) := Lib.hid (by rw [lsF_succ6, show q - 1 - j = i by omega, hd])
      have U1 : Hid (∀ N : Nat, N = 256 ^ i → IntKind.u8.wrap ((n : Int) / (N : Int)) = (d : Int)) := Lib.hid (fun N hN => by
        rw [IntKind.wrap_u8, ← hd, hN]
        simp)
      obtain ⟨v, hv⟩ := hO.out.1
      obtain ⟨P, hP⟩ : ∃ P, l ++ lsF (fun i => n / 256 ^ (q - 1 - i) % 256) j = P := ⟨_, rfl⟩
      have hPl : P.length = l.length + j := by rw [← hP, List.length_append, lsF_len]
      rw [hP] at hv
      have HP := Lib.hid hP
      have c0 := hv.c0
      have HV := Lib.hid hv
      have HR : Hid (∀ W : World, Rd (W.alloc (.cells #[.int .u8 (d : Int)] 5)) .u8 (some ⟨W.heap.size, 0, none⟩) 1 (gL [UInt8.ofNat d])) := Lib.hid fun W => prd_b1 W hd256 _
      have HA : Hid (Pbk B b v v P (wr.drew.alloc (.cells #[.int .u8 (d : Int)] 5))) := Lib.hid (hv.below ((Below.drew (Below.refl _ _)).alloc (Nat.le_refl _) _))
      have HB2 : Hid (Below B w (wr.drew.alloc (.cells #[.int .u8 (d : Int)] 5)) ∧ Kq b w (wr.drew.alloc (.cells #[.int .u8 (d : Int)] 5))) := Lib.hid ⟨(hO.out.2.1.trans (Below.drew (Below.refl _ _))).alloc hO.out.2.2.2 _, (hO.out.2.2.1.trans (Kq.drew (Kq.refl _ _))).alloc _⟩
      have hsz : B ≤ (wr.drew.alloc (.cells #[.int .u8 (d : Int)] 5)).heap.size := by have := hO.out.2.2.2; simp; omega
      have hln : P.length + 1 ≤ 140737488355328 := by omega
      have c1 : (wr.alloc (.cells #[.int .u8 (d : Int)] 5)).cell? ⟨b, 0, none⟩ = some v := HA.out.c0
      clear hd hv hP hPl
      have k0 : IntKind.i64.wrap 0 = 0 := by decide
      have k1 : IntKind.i64.wrap 8 = 8 := by decide
      have k2 : IntKind.i64.wrap 16 = 16 := by decide
      have k3 : IntKind.i64.wrap 24 = 24 := by decide
      have k4 : IntKind.i64.wrap 32 = 32 := by decide
      have k5 : IntKind.i64.wrap 40 = 40 := by decide
      have k6 : IntKind.i64.wrap 48 = 48 := by decide
      have k7 : IntKind.i64.wrap 56 = 56 := by decide
      rcases h8 with rfl | rfl | rfl | rfl | rfl | rfl | rfl | rfl
      all_goals
        first
          | (have u2 : IntKind.u8.wrap (n : Int) = (d : Int) := by have := U1.out 1 (by decide); rw [show ((1 : Nat) : Int) = 1 from rfl, Int.ediv_one] at this; exact this)
          | (have u2 : IntKind.u8.wrap ((n : Int) / 256) = (d : Int) := U1.out 256 (by decide))
          | (have u2 : IntKind.u8.wrap ((n : Int) / 65536) = (d : Int) := U1.out 65536 (by decide))
          | (have u2 : IntKind.u8.wrap ((n : Int) / 16777216) = (d : Int) := U1.out 16777216 (by decide))
          | (have u2 : IntKind.u8.wrap ((n : Int) / 4294967296) = (d : Int) := U1.out 4294967296 (by decide))
          | (have u2 : IntKind.u8.wrap ((n : Int) / 1099511627776) = (d : Int) := U1.out 1099511627776 (by decide))
          | (have u2 : IntKind.u8.wrap ((n : Int) / 281474976710656) = (d : Int) := U1.out 281474976710656 (by decide))
          | (have u2 : IntKind.u8.wrap ((n : Int) / 72057594037927936) = (d : Int) := U1.out 72057594037927936 (by decide))
        clear U1
        go_upto_region 3 with fail
        go_region_law (refine step_appP rfl (.tmp 17) (.tmp 23) rfl B b v P [UInt8.ofNat d] rfl HA.out _ 1 1 rfl rfl (HR.out _) hln hsz ?_; intro v2 w2 h2 hb2 hk2; have d0 := h2.c0; have f0 := h2.f0; obtain ⟨A2, n2, c2, rfl⟩ := h2.form)
        all_goals
          have HN := Lib.hid (And.intro h2.put (And.intro ((HB2.out.1.trans hb2).setCell (p := ⟨b, 0, none⟩) HV.out.1 (.slice A2 n2 c2)) (And.intro ((HB2.out.2.trans hk2).set 0 (.slice A2 n2 c2)) (Nat.le_trans hsz hb2.size))))
          clear h2 hb2 hk2 d0 f0 c0 c1
          go_wp2_with fail
          go_roundw
          case rel => exact ⟨j + 1, by omega, congrArg (Value.int .i64) (by omega), Lib.hid ⟨by rw [HDJ.out, ← List.append_assoc, HP.out]; exact HN.out.1, HN.out.2.1, HN.out.2.2.1, by simpa using HN.out.2.2.2⟩⟩
          case measure => simp [intOf]
    · obtain rfl : j = q := by omega
      have hneg : ((j : Int) - 1 - (j : Int)) = -1 := by omega
      rw [hneg]
      clear hneg
      go_wp2_with fail
      go_end0
      exact ⟨rfl, by rw [← HT.out]; exact hO.out.1, hO.out.2.1, hO.out.2.2.1⟩
set_option maxRecDepth 100000 in
set_option maxHeartbeats 4000000 in
/-- how many bytes have room, and the first byte for so many -/
theorem pleast_any (f w0 n : Nat) (W : World) (hf : f + 3 < 256) (hw : w0 = 1 ∨ w0 = 2) (hn : n < 18446744073709551616) :
    Calls Try.prog 45 #[.int .u8 (f : Int), .int .i64 (w0 : Int), .int .u64 (n : Int)] W fun e w' => e = .returned (.tuple #[.int .u8 ((f + lsK n w0 : Nat) : Int), .int .i64 ((w0 * 2 ^ lsK n w0 : Nat) : Int)]) ∧ W = w' := by
  have HK : Hid (∀ j, j ≤ lsK n w0 → (n / 256 ^ (w0 * 2 ^ j) = 0 ↔ j = lsK n w0)) := Lib.hid (by
    intro j hj
    have e : n / 256 ^ (w0 * 2 ^ j) = 0 ↔ n < 256 ^ (w0 * 2 ^ j) := by
      rw [Nat.div_eq_zero_iff]
      have : 0 < 256 ^ (w0 * 2 ^ j) := Nat.pow_pos (by decide)
      omega
    rw [e]
    have h4 := lsK_le n w0
    have hj4 : j = 0 ∨ j = 1 ∨ j = 2 ∨ j = 3 := by omega
    rcases hw with rfl | rfl
    · have hx : (n < 256 ∧ lsK n 1 = 0) ∨ (256 ≤ n ∧ n < 65536 ∧ lsK n 1 = 1) ∨ (65536 ≤ n ∧ n < 4294967296 ∧ lsK n 1 = 2) ∨ (4294967296 ≤ n ∧ lsK n 1 = 3) := by
        unfold lsK
        simp only [Nat.reducePow, Nat.reduceMul]
        by_cases h1 : n < 256
        · exact .inl ⟨h1, if_pos h1⟩
        · by_cases h2 : n < 65536
          · exact .inr (.inl ⟨by omega, h2, by rw [if_neg h1, if_pos h2]⟩)
          · by_cases h3 : n < 4294967296
            · exact .inr (.inr (.inl ⟨by omega, h3, by rw [if_neg h1, if_neg h2, if_pos h3]⟩))
            · exact .inr (.inr (.inr ⟨by omega, by rw [if_neg h1, if_neg h2, if_neg h3]⟩))
      rcases hj4 with rfl | rfl | rfl | rfl <;> simp only [Nat.reducePow, Nat.reduceMul] <;> omega
    · have hx : (n < 65536 ∧ lsK n 2 = 0) ∨ (65536 ≤ n ∧ n < 4294967296 ∧ lsK n 2 = 1) ∨ (4294967296 ≤ n ∧ lsK n 2 = 2) := by
        unfold lsK
        simp only [Nat.reducePow, Nat.reduceMul]
        by_cases h1 : n < 65536
        · exact .inl ⟨h1, if_pos h1⟩
        · by_cases h2 : n < 4294967296
          · exact .inr (.inl ⟨by omega, h2, by rw [if_neg h1, if_pos h2]⟩)
          · exact .inr (.inr ⟨by omega, by rw [if_neg h1, if_neg h2, if_pos hn]⟩)
      rcases hj4 with rfl | rfl | rfl | rfl <;> simp only [Nat.reducePow, Nat.reduceMul] <;> omega)
  have h4 := lsK_le n w0
  have hw2 : w0 = 2 → lsK n w0 ≤ 2 := by
    rintro rfl
    unfold lsK
    simp only [Nat.reducePow, Nat.reduceMul]
    by_cases h1 : n < 65536
    · rw [if_pos h1]; omega
    · by_cases h2 : n < 4294967296
      · rw [if_neg h1, if_pos h2]; omega
      · rw [if_neg h1, if_neg h2, if_pos hn]; omega
  obtain ⟨K, hK⟩ : ∃ K, lsK n w0 = K := ⟨_, rfl⟩
  rw [hK] at HK h4 hw2 ⊢
  clear hK
  go_enter Try.func45, Try.ntmps45
  go_wp2_with fail
  go_loopw [0, 1] (fun s0 s1 wr => ∃ j : Nat, j ≤ K ∧ s0 = .int .u8 ((f + j : Nat) : Int) ∧ s1 = .int .i64 ((w0 * 2 ^ j : Nat) : Int) ∧ Hid (W = wr)) (fun s0 _ _ => f + 4 - (intOf s0).toNat)
  case atStart => exact ⟨0, Nat.zero_le _, rfl, by simp, Lib.hid rfl⟩
  case round =>
    obtain ⟨j, hj, rfl, rfl, HW⟩ := hrel
    have hz := HK.out j hj
    have hWd : w0 * 2 ^ j = 1 ∨ w0 * 2 ^ j = 2 ∨ w0 * 2 ^ j = 4 ∨ w0 * 2 ^ j = 8 := by
      have hj4 : j = 0 ∨ j = 1 ∨ j = 2 ∨ j = 3 := by omega
      rcases hw with rfl | rfl
      · rcases hj4 with rfl | rfl | rfl | rfl <;> simp
      · rcases hj4 with rfl | rfl | rfl | rfl <;> simp <;> omega
    obtain ⟨d, hd⟩ : ∃ d, w0 * 2 ^ j = d := ⟨_, rfl⟩
    obtain ⟨g, hg⟩ : ∃ g, f + j = g := ⟨_, rfl⟩
    have hg2 : g + 1 < 256 ∨ j = K := by omega
    have HD : Hid (w0 * 2 ^ (j + 1) = d * 2) := Lib.hid (by rw [Nat.pow_succ, ← Nat.mul_assoc, hd])
    rw [hd] at hz hWd ⊢
    rw [hg]
    have hwa : g + 1 < 256 → IntKind.u8.wrap ((g : Int) + 1) = ((g + 1 : Nat) : Int) := fun h => by rw [IntKind.wrap_u8]; omega
    clear HK hw2
    by_cases hjK : j = K
    · have h0 := hz.2 hjK
      have e1 : (n : Int) / ((256 ^ d : Nat) : Int) = 0 := by rw [← Int.natCast_ediv, h0]; rfl
      have HE : Hid (g = f + K ∧ d = w0 * 2 ^ K) := Lib.hid ⟨by omega, by rw [← hjK]; exact hd.symm⟩
      clear hz hd hg hg2 HD hwa h0 hw hf
      rcases hWd with rfl | rfl | rfl | rfl
      · have e2 : (n : Int) / 256 = 0 := e1
        go_wp2_with fail
        exact bodyPost_ret (v := .tuple #[.int .u8 (g : Int), .int .i64 1]) (by simp [results, Try.results45, go_sem]) rfl ⟨by rw [← HE.out.1, ← HE.out.2]; rfl, HW.out⟩
      · have e2 : (n : Int) / 65536 = 0 := e1
        go_wp2_with fail
        exact bodyPost_ret (v := .tuple #[.int .u8 (g : Int), .int .i64 2]) (by simp [results, Try.results45, go_sem]) rfl ⟨by rw [← HE.out.1, ← HE.out.2]; rfl, HW.out⟩
      · have e2 : (n : Int) / 4294967296 = 0 := e1
        go_wp2_with fail
        exact bodyPost_ret (v := .tuple #[.int .u8 (g : Int), .int .i64 4]) (by simp [results, Try.results45, go_sem]) rfl ⟨by rw [← HE.out.1, ← HE.out.2]; rfl, HW.out⟩
      · have e2 : (n : Int) / 18446744073709551616 = 0 := e1
        go_wp2_with fail
        exact bodyPost_ret (v := .tuple #[.int .u8 (g : Int), .int .i64 8]) (by simp [results, Try.results45, go_sem]) rfl ⟨by rw [← HE.out.1, ← HE.out.2]; rfl, HW.out⟩
    · have h0 : ¬ n / 256 ^ d = 0 := fun h => hjK (hz.1 h)
      have e1 : (0 : Int) < (n : Int) / ((256 ^ d : Nat) : Int) := by rw [← Int.natCast_ediv]; exact Int.natCast_pos.2 (Nat.pos_of_ne_zero h0)
      have hgl : g ≤ f + 3 := by omega
      have hgw := hwa (by omega)
      have HR : Hid (g + 1 = f + (j + 1)) := Lib.hid (by omega)
      have hj1 : j + 1 ≤ K := by omega
      clear hz hd hg hg2 hwa h0 hw hf hjK
      rcases hWd with rfl | rfl | rfl | rfl
      · have e2 : (0 : Int) < (n : Int) / 256 := e1
        have e3 : decide ((0 : Int) < (n : Int) / 256) = true := decide_eq_true e2
        clear e1
        go_wp2_with fail
        go_roundw
        case rel => exact ⟨j + 1, hj1, by rw [← HR.out]; rfl, by rw [HD.out]; rfl, HW⟩
        case measure => simp [intOf]; omega
      · have e2 : (0 : Int) < (n : Int) / 65536 := e1
        have e3 : decide ((0 : Int) < (n : Int) / 65536) = true := decide_eq_true e2
        clear e1
        go_wp2_with fail
        go_roundw
        case rel => exact ⟨j + 1, hj1, by rw [← HR.out]; rfl, by rw [HD.out]; rfl, HW⟩
        case measure => simp [intOf]; omega
      · have e2 : (0 : Int) < (n : Int) / 4294967296 := e1
        have e3 : decide ((0 : Int) < (n : Int) / 4294967296) = true := decide_eq_true e2
        clear e1
        go_wp2_with fail
        go_roundw
        case rel => exact ⟨j + 1, hj1, by rw [← HR.out]; rfl, by rw [HD.out]; rfl, HW⟩
        case measure => simp [intOf]; omega
      · exfalso
        have e2 : (0 : Int) < (n : Int) / 18446744073709551616 := e1
        omega
set_option maxRecDepth 100000 in
set_option maxHeartbeats 1000000 in
theorem phead_any (B b : Nat) (l : List UInt8) (f w0 n : Nat) (w : World) (h : Pw B b l w) (hf : f + 3 < 256) (hw : w0 = 1 ∨ w0 = 2) (hn : n < 18446744073709551616) (hk8 : w0 * 2 ^ lsK n w0 ≤ 8) (hle : l.length + 9 ≤ 140737488355328) (hBw : B ≤ w.heap.size) :
    Calls Try.prog 28 #[.pointer (some ⟨b, 0, none⟩), .int .u8 (f : Int), .int .i64 (w0 : Int), .int .u64 (n : Int)] w (PwAns B b (l ++ phP f w0 n) w) := by
  have HLS := Lib.hid (pleast_any f w0 n w hf hw hn)
  have h3 := lsK_le n w0
  have h1 : 1 ≤ w0 * 2 ^ lsK n w0 := Nat.mul_pos (by omega) (Nat.pow_pos (by decide))
  have hT : l ++ phP f w0 n = (l ++ [UInt8.ofNat (f + lsK n w0)]) ++ lwP n (w0 * 2 ^ lsK n w0) := by unfold phP; rw [List.append_cons]
  rw [hT]
  obtain ⟨K, hK⟩ : ∃ K, f + lsK n w0 = K := ⟨_, rfl⟩
  obtain ⟨q, hq⟩ : ∃ q, w0 * 2 ^ lsK n w0 = q := ⟨_, rfl⟩
  rw [hK, hq] at HLS ⊢
  rw [hq] at hk8 h1
  have H1 := Lib.hid (pfirst_any B b l K w h (by omega) (by omega) hBw)
  have H2 : Hid (∀ w', Pw B b (l ++ [UInt8.ofNat K]) w' → B ≤ w'.heap.size → Calls Try.prog 21 #[.pointer (some ⟨b, 0, none⟩), .int .u64 (n : Int), .int .i64 (q : Int)] w' (PwAns B b ((l ++ [UInt8.ofNat K]) ++ lwP n q) w')) := Lib.hid fun w' h' hB' => plow_any B b _ n q w' h' hn h1 hk8 (by simp; omega) hB'
  have HBw := Lib.hid hBw
  clear hT hK hq h h3 hf hw hle hBw
  go_enter Try.func28, Try.ntmps28
  go_wp2_with fail
  refine HLS.out.mono ?_
  rintro e w1 ⟨rfl, rfl⟩
  go_wp2_with fail
  refine H1.out.mono ?_
  rintro e w1 ⟨rfl, h1', hb1, hk1⟩
  have HH := Lib.hid (And.intro h1' (And.intro hb1 hk1))
  clear h1' hb1 hk1
  go_wp2_with fail
  refine (H2.out _ HH.out.1 (Nat.le_trans HBw.out HH.out.2.1.size)).mono ?_
  rintro e w2 ⟨rfl, h2, hb2, hk2⟩
  have HH2 := Lib.hid (And.intro h2 (And.intro (HH.out.2.1.trans hb2) (HH.out.2.2.trans hk2)))
  clear h2 hb2 hk2
  go_wp2_with fail
  go_end0
  exact ⟨rfl, HH2.out⟩
end Go.Proofs.Ytfchondipjiicaa.nn
namespace Go.Proofs.Ytfchondipjiicaa.nn
open Go.RowKit

theorem ofInt_64 (a : Nat) (ha : a < 9223372036854775808) : (BitVec.ofInt 64 (a : Int)).toNat = a := by
  rw [BitVec.ofInt_natCast, BitVec.toNat_ofNat]
  exact Nat.mod_eq_of_lt (by omega)
theorem wrapi64_nat {n : Nat} (h : n < 9223372036854775808) : IntKind.i64.wrap (n : Int) = (n : Int) := IntWalk.i64_in _ ⟨by omega, by omega⟩
theorem i64_and_nat (a b : Nat) (ha : a < 9223372036854775808) (hb : b < 9223372036854775808) : bits .and .i64 (a : Int) (b : Int) = ((a &&& b : Nat) : Int) := by
  have hx : a &&& b < 2 ^ 63 := Nat.and_lt_two_pow _ (by omega)
  show IntKind.i64.wrap ((BitVec.ofInt 64 (a : Int) &&& BitVec.ofInt 64 (b : Int)).toNat : Int) = _
  rw [BitVec.toNat_and, ofInt_64 a ha, ofInt_64 b hb, wrapi64_nat (by omega)]
theorem and_mask (x k : Nat) : x &&& (2 ^ k - 1) = x % 2 ^ k := Nat.and_two_pow_sub_one_eq_mod x k
end Go.Proofs.Ytfchondipjiicaa.nn
namespace Go.Proofs.Ytfchondipjiicaa.nn
open Go.RowKit

theorem neI {c k : Int} (h : c ≠ k) : (c == k) = false := by rw [beq_eq_false_iff_ne]; exact h
end Go.Proofs.Ytfchondipjiicaa.nn
namespace Go.Proofs.Ytfchondipjiicaa.nn
open Go.RowKit

theorem hd_up {v b : Nat} (hv : v * 256 + b < 18446744073709551616) (hb : b < 256) : bits BinOp.or IntKind.u64 ((v : Int) * 256) (b : Int) = ((v * 256 + b : Nat) : Int) := by
  have e : (v : Int) * 256 = ((v * 256 : Nat) : Int) := by omega
  have h1 : v * 256 < 18446744073709551616 := Nat.lt_of_le_of_lt (Nat.le_add_right _ _) hv
  have h2 : b < 18446744073709551616 := Nat.lt_of_le_of_lt (Nat.le_add_left _ _) hv
  rw [e, u64_or_nat (v * 256) b h1 h2, nat_join 8 (v * 256) b (Nat.mul_mod_left v 256) hb]
theorem be_lt10 {b : Nat → Nat} {n : Nat} (h : ∀ i, i < n → b i < 256) : be b n < 256 ^ n := by
  induction n with
  | zero => simp [be]
  | succ n ih =>
    have h1 := ih fun i hi => h i (by omega)
    have h2 := h n (by omega)
    rw [be, Nat.pow_succ]
    omega
theorem be_64 {b : Nat → Nat} {n : Nat} (h : ∀ i, i < n → b i < 256) (hn : n ≤ 8) : be b n < 18446744073709551616 :=
  Nat.lt_of_lt_of_le (be_lt10 h) (Nat.le_trans (Nat.pow_le_pow_right (by decide) hn) (by decide +kernel))
end Go.Proofs.Ytfchondipjiicaa.nn
namespace Go.Proofs.Ytfchondipjiicaa.nn
open Go.RowKit

/-- a byte of a text -/
def sb (s : ByteArray) (i : Nat) : Nat := if h : i < s.size then s[i].toNat else 0
theorem sb_at {s : ByteArray} {i : Nat} (h : i < s.size) : sb s i = s[i].toNat := dif_pos h
theorem sb_lt (s : ByteArray) (i : Nat) : sb s i < 256 := by
  unfold sb
  split
  · exact UInt8.toNat_lt _
  · decide
/-- the number that a text's bytes tell, the highest first -/
def nS (s : ByteArray) : Nat := be (sb s) s.size
theorem nS_lt {s : ByteArray} (h : s.size ≤ 8) : nS s < 18446744073709551616 := be_64 (fun i _ => sb_lt s i) h
section
variable {w : World}
set_option maxRecDepth 100000 in
set_option maxHeartbeats 2000000 in
theorem pnumber_any (s : ByteArray) (hs : s.size ≤ 8) : Calls Try.prog 19 #[.string s] w fun e w' => e = .returned (.int .u64 (nS s : Int)) ∧ w = w' := by
  go_enter Try.func19, Try.ntmps19
  go_wp2_with fail
  go_loop [3, 7] (fun s2 s5 => ∃ i : Nat, i ≤ s.size ∧ s2 = .int .u64 ((be (sb s) i : Nat) : Int) ∧ s5 = .int .i64 (i : Int)) (fun _ s5 => s.size - (intOf s5).toNat)
  case atStart => exact ⟨0, Nat.zero_le _, rfl, rfl⟩
  case round =>
    obtain ⟨i, hi, rfl, rfl⟩ := hrel
    by_cases hlt : i < s.size
    · have hv : be (sb s) (i + 1) < 18446744073709551616 := be_64 (fun j _ => sb_lt s j) (by omega)
      rw [be] at hv
      have hb := sb_lt s i
      have ho := sb_at hlt
      obtain ⟨v, hvv⟩ : ∃ v, be (sb s) i = v := ⟨_, rfl⟩
      have hv2 : be (sb s) (i + 1) = v * 256 + s[i].toNat := by rw [be, hvv, ho]
      rw [hvv, ho] at hv
      rw [ho] at hb
      rw [hvv]
      have hor := Lib.hid (show bits BinOp.or IntKind.u64 (IntKind.u64.wrap ((v : Int) * 256)) (s[i].toNat : Int) = ((v * 256 + s[i].toNat : Nat) : Int) by rw [IntKind.wrap_u64, show (v : Int) * 256 % 18446744073709551616 = (v : Int) * 256 by omega, hd_up hv hb])
      have HV2 := Lib.hid hv2
      clear hv2 hvv hv ho
      go_wp2_with fail
      go_round
      case rel => exact ⟨i + 1, hlt, by rw [HV2.out]; exact congrArg (Value.int .u64) hor.out, by go_num⟩
      case measure => simp [intOf]; omega
    · obtain rfl : i = s.size := by omega
      go_wp2_with fail
      exact bodyPost_ret (v := .int .u64 (be (sb s) s.size : Int)) (by simp [results, Try.results19, go_sem]) rfl ⟨by unfold nS; rfl, by first | rfl | trivial⟩
set_option maxRecDepth 100000 in
set_option maxHeartbeats 2000000 in
theorem rnumber_any (s : ByteArray) (hs : s.size ≤ 8) : Calls Try.prog 20 #[.string s] w fun e w' => e = .returned (.int .u64 (nS s : Int)) ∧ w = w' := by
  go_enter Try.func20, Try.ntmps20
  go_wp2_with fail
  go_loop [3, 4] (fun s2 s3 => ∃ i : Nat, i ≤ s.size ∧ s2 = .int .u64 ((be (sb s) i : Nat) : Int) ∧ s3 = .int .i64 (i : Int)) (fun _ s3 => s.size - (intOf s3).toNat)
  case atStart => exact ⟨0, Nat.zero_le _, rfl, rfl⟩
  case round =>
    obtain ⟨i, hi, rfl, rfl⟩ := hrel
    by_cases hlt : i < s.size
    · have hv : be (sb s) (i + 1) < 18446744073709551616 := be_64 (fun j _ => sb_lt s j) (by omega)
      rw [be] at hv
      have hb := sb_lt s i
      have ho := sb_at hlt
      obtain ⟨v, hvv⟩ : ∃ v, be (sb s) i = v := ⟨_, rfl⟩
      have hv2 : be (sb s) (i + 1) = v * 256 + s[i].toNat := by rw [be, hvv, ho]
      rw [hvv, ho] at hv
      rw [ho] at hb
      rw [hvv]
      have hor := Lib.hid (show bits BinOp.or IntKind.u64 (IntKind.u64.wrap ((v : Int) * 256)) (s[i].toNat : Int) = ((v * 256 + s[i].toNat : Nat) : Int) by rw [IntKind.wrap_u64, show (v : Int) * 256 % 18446744073709551616 = (v : Int) * 256 by omega, hd_up hv hb])
      have HV2 := Lib.hid hv2
      clear hv2 hvv hv ho
      go_wp2_with fail
      go_round
      case rel => exact ⟨i + 1, hlt, by rw [HV2.out]; exact congrArg (Value.int .u64) hor.out, by go_num⟩
      case measure => simp [intOf]; omega
    · obtain rfl : i = s.size := by omega
      go_wp2_with fail
      exact bodyPost_ret (v := .int .u64 (be (sb s) s.size : Int)) (by simp [results, Try.results20, go_sem]) rfl ⟨by unfold nS; rfl, by first | rfl | trivial⟩
end
end Go.Proofs.Ytfchondipjiicaa.nn
namespace Go.Proofs.Ytfchondipjiicaa.nn
open Go.RowKit

theorem xor_max {n : Nat} (h : n < 18446744073709551616) : 18446744073709551615 ^^^ n = 18446744073709551615 - n := by
  have h1 : (BitVec.allOnes 64 ^^^ BitVec.ofNat 64 n) = ~~~ (BitVec.ofNat 64 n) := BitVec.allOnes_xor
  have h2 := congrArg BitVec.toNat h1
  rw [BitVec.toNat_xor, BitVec.toNat_not, BitVec.toNat_allOnes, BitVec.toNat_ofNat, Nat.mod_eq_of_lt h] at h2
  exact h2
theorem u64_not {n : Nat} (h : n < 18446744073709551616) : bits .xor .u64 IntKind.u64.max (n : Int) = ((18446744073709551615 - n : Nat) : Int) := by
  rw [← xor_max h]
  exact u64_xor_nat 18446744073709551615 n (by decide) h
/-- an append of a text as a step of a region -/
theorem step_appPS {w : World} {ops : Array Oper} {oo : Oper} {a : Act} {R : Act → World → Prop} {Q : Exit → Act → World → Prop} {E : Prop} (hgd : oo.guard = none) (s x : Operand)
    (ho : oo.op = .call { callee := .builtin .append, args := #[s, x], argTypes := #[26, 9] })
    (B b : Nat) (v : Value) (l : List UInt8) (T : ByteArray) (hs : a.eval s = v) (h : Pbk B b v v l w) (hx : a.eval x = .string T) (hle : l.length + T.size ≤ 140737488355328) (hbase : B ≤ w.heap.size)
    (k : ∀ v' w', Pbk B b v v' (l ++ T.data.toList) w' → Below B w w' → Kq b w w' → R (a.put oo.dst v') w') :
    if Region.wanted oo (yielded ops a.tmps) = true then Oper.wp Try.prog oo a w R Q else E := by
  have hw : Region.wanted oo (yielded ops a.tmps) = true := by simp [Region.wanted, hgd]
  rw [if_pos hw]
  obtain ⟨i0, hi, hz0, hz1, hz2⟩ := info_parts infoP8
  have hne := h.ne
  obtain ⟨hB, hb, hown⟩ := h
  obtain ⟨v', w', hr, h1, h2, _⟩ := Lib.run_append_own_string (P := Try.prog) w B 26 9 oo.type 5 i0 Try.underlying26 Try.underlying9 hi hz0 hz1 hz2 v l.length _ hown T (by unfold maxLen; omega) hle hbase
  unfold Oper.wp execOp
  simp only [ho, resolve, invoke, builtin, Sem.run_bind, Sem.run_pure, Result.andThen_ok, List.map_toArray, List.map_cons, List.map_nil, hs, hx, hr]
  refine k v' w' ⟨hB, (h2.block b (lt_of_block hb) (fun e => hne e.symm)).trans hb, ?_⟩ ((Below.refl B w).grown h2 hbase (fun k hk => (hown.lt k hk).1)) ((Kq.refl b w).grown h2 hown)
  rw [Lib.byteCells_append, ← Lib.strCells_eq, List.length_append, Array.length_toList]
  exact h1
/-- what a call that writes an item answers: ok: may it be said -/
def ItP (B b : Nat) (L : List UInt8) (ok : Bool) (w : World) (e : Ending) (w' : World) : Prop :=
  (Below B w w' ∧ Kq b w w') ∧ ((ok = true ∧ e = .returned (.int .i64 0) ∧ Pw B b L w') ∨ (ok = false ∧ e = .returned (.int .i64 10)))
section
variable {B b : Nat} {l l1 : List UInt8} {w w1 : World}
set_option maxRecDepth 100000 in
set_option maxHeartbeats 2000000 in
theorem ptext_any (s : ByteArray) (h : Pw B b l w) (hle : l.length + s.size + 20 ≤ 140737488355328) (hBw : B ≤ w.heap.size) :
    Calls Try.prog 29 #[.pointer (some ⟨b, 0, none⟩), .string s] w (PwAns B b (l ++ ptP s) w) := by
  obtain ⟨P, hP⟩ : ∃ P : List UInt8, P = (if s.size < 32 then [UInt8.ofNat (160 + s.size)] else phP 217 1 s.size) := ⟨_, rfl⟩
  have hPl : P.length ≤ 9 := by
    have := phP1_le 217 s.size
    rw [hP]
    split
    · simp
    · omega
  have HT : Hid (l ++ ptP s = (l ++ P) ++ s.data.toList) := Lib.hid (by rw [hP]; unfold ptP; rw [List.append_assoc])
  have hln : (l ++ P).length + s.size ≤ 140737488355328 := by rw [List.length_append]; omega
  rw [HT.out]
  by_cases hs : s.size < 32
  · rw [if_pos hs] at hP
    have H1 := pfirst_any B b l (160 + s.size) w h (by omega) (by omega) hBw
    rw [← hP] at H1
    obtain ⟨m, hm⟩ : ∃ m, 160 + s.size = m := ⟨_, rfl⟩
    rw [hm] at H1
    have HH1 := Lib.hid H1
    have u1 : IntKind.u8.wrap (s.size : Int) = (s.size : Int) := by rw [IntKind.wrap_u8]; omega
    have u2 : IntKind.u8.wrap (160 + (s.size : Int)) = (m : Int) := by rw [IntKind.wrap_u8]; omega
    have i1 : decide (s.size < 32) = true := decide_eq_true hs
    have i2 : decide ((s.size : Int) < 32) = true := decide_eq_true (by omega)
    have HBw := Lib.hid hBw
    clear hP hPl HT h H1 hm hle hBw hs
    go_enter Try.func29, Try.ntmps29
    go_wp2_with fail
    refine HH1.out.mono ?_
    rintro e w1 ⟨rfl, h1, hb1, hk1⟩
    obtain ⟨v, hv⟩ := h1
    have c0 := hv.c0
    have HV := Lib.hid hv
    have HL := Lib.hid (And.intro hb1 hk1)
    have hsz : B ≤ w1.heap.size := Nat.le_trans HBw.out hb1.size
    clear hv hb1 hk1
    go_wp2_with (at_builtin; refine wpList_appPS rfl _ _ rfl B b v (l ++ P) s rfl HV.out rfl hln hsz ?_; intro v' w2 h2 hb2 hk2; have d0 := h2.c0; have f0 := h2.f0; have HB2 := Lib.hid h2; have HL2 := Lib.hid (And.intro hb2 hk2); obtain ⟨A2, n2, c2, rfl⟩ := h2.form; clear h2 hb2 hk2 c0)
    go_end0
    exact ⟨rfl, HB2.out.put, (HL.out.1.trans HL2.out.1).setCell (p := ⟨b, 0, none⟩) HV.out.1 _, (HL.out.2.trans HL2.out.2).set 0 _⟩
  · rw [if_neg hs] at hP
    have hk8 : 1 * 2 ^ lsK s.size 1 ≤ 8 := by have := two_lsK s.size 1; omega
    have H1 := phead_any B b l 217 1 s.size w h (by decide) (.inl rfl) (by omega) hk8 (by omega) hBw
    rw [← hP] at H1
    have HH1 := Lib.hid H1
    have u1 : IntKind.u64.wrap (s.size : Int) = (s.size : Int) := by rw [IntKind.wrap_u64]; omega
    have i1 : decide (s.size < 32) = false := decide_eq_false hs
    have i2 : decide ((s.size : Int) < 32) = false := decide_eq_false (by omega)
    have HBw := Lib.hid hBw
    clear hP hPl HT h H1 hle hBw hs hk8
    go_enter Try.func29, Try.ntmps29
    go_wp2_with fail
    refine HH1.out.mono ?_
    rintro e w1 ⟨rfl, h1, hb1, hk1⟩
    obtain ⟨v, hv⟩ := h1
    have c0 := hv.c0
    have HV := Lib.hid hv
    have HL := Lib.hid (And.intro hb1 hk1)
    have hsz : B ≤ w1.heap.size := Nat.le_trans HBw.out hb1.size
    clear hv hb1 hk1
    go_wp2_with (at_builtin; refine wpList_appPS rfl _ _ rfl B b v (l ++ P) s rfl HV.out rfl hln hsz ?_; intro v' w2 h2 hb2 hk2; have d0 := h2.c0; have f0 := h2.f0; have HB2 := Lib.hid h2; have HL2 := Lib.hid (And.intro hb2 hk2); obtain ⟨A2, n2, c2, rfl⟩ := h2.form; clear h2 hb2 hk2 c0)
    go_end0
    exact ⟨rfl, HB2.out.put, (HL.out.1.trans HL2.out.1).setCell (p := ⟨b, 0, none⟩) HV.out.1 _, (HL.out.2.trans HL2.out.2).set 0 _⟩
set_option maxRecDepth 100000 in
set_option maxHeartbeats 2000000 in
theorem pbelow_any (n : Nat) (h : Pw B b l w) (hn : n < 18446744073709551616) (hle : l.length + 20 ≤ 140737488355328) (hBw : B ≤ w.heap.size) :
    Calls Try.prog 44 #[.pointer (some ⟨b, 0, none⟩), .int .u64 (n : Int)] w (ItP B b (l ++ pnP true n) (decide (n < 9223372036854775808)) w) := by
  by_cases h63 : n < 9223372036854775808
  · have e1 : (n : Int) / 9223372036854775808 = 0 := by omega
    have HD : Hid (decide (n < 9223372036854775808) = true) := Lib.hid (decide_eq_true h63)
    by_cases h31 : n ≤ 31
    · have i1 : decide (n ≤ 31) = true := decide_eq_true h31
      have i2 : decide ((n : Int) ≤ 31) = true := decide_eq_true (by omega)
      have HT : Hid (pnP true n = lwP (18446744073709551615 - n) 1) := Lib.hid (by unfold pnP; rw [if_pos rfl, if_pos h31])
      obtain ⟨m, hm⟩ : ∃ m, 18446744073709551615 - n = m := ⟨_, rfl⟩
      have u1 : bits .xor .u64 IntKind.u64.max (n : Int) = (m : Int) := by rw [u64_not hn, hm]
      rw [hm] at HT
      have H1 := Lib.hid (plow_any B b l m 1 w h (by omega) (by decide) (by decide) (by omega) hBw)
      clear h hle hBw hm h63 h31 hn
      go_enter Try.func44, Try.ntmps44
      go_wp2_with fail
      refine H1.out.mono ?_
      rintro e w1 ⟨rfl, h1, hb1, hk1⟩
      have HL := Lib.hid (And.intro h1 (And.intro hb1 hk1))
      clear h1 hb1 hk1
      go_wp2_with fail
      exact bodyPost_ret (v := .int .i64 0) (by simp [results, Try.results44, go_sem]) rfl ⟨HL.out.2, .inl ⟨HD.out, rfl, by rw [HT.out]; exact HL.out.1⟩⟩
    · have i1 : decide (n ≤ 31) = false := decide_eq_false h31
      have i2 : decide ((n : Int) ≤ 31) = false := decide_eq_false (by omega)
      have h3 := lsK_le (2 * n) 1
      have h8 := two_lsK (2 * n) 1
      have HT : Hid (l ++ pnP true n = (l ++ [UInt8.ofNat (208 + lsK (2 * n) 1)]) ++ lwP (18446744073709551615 - n) (2 ^ lsK (2 * n) 1)) := Lib.hid (by unfold pnP; rw [if_pos rfl, if_neg h31, List.append_cons])
      have HS := pleast_any 208 1 (2 * n) w (by decide) (.inl rfl) (by omega)
      rw [Nat.one_mul] at HS
      obtain ⟨m, hm⟩ : ∃ m, 18446744073709551615 - n = m := ⟨_, rfl⟩
      obtain ⟨n2, hn2⟩ : ∃ m, 2 * n = m := ⟨_, rfl⟩
      have u1 : bits .xor .u64 IntKind.u64.max (n : Int) = (m : Int) := by rw [u64_not hn, hm]
      have u4 : IntKind.u64.wrap ((n : Int) * 2) = (n2 : Int) := by rw [IntKind.wrap_u64]; omega
      rw [hm, hn2] at HT
      rw [hn2] at HS h3 h8
      obtain ⟨f, hf⟩ : ∃ f, 208 + lsK n2 1 = f := ⟨_, rfl⟩
      obtain ⟨q, hq⟩ : ∃ q, 2 ^ lsK n2 1 = q := ⟨_, rfl⟩
      rw [hf, hq] at HT HS
      rw [hq] at h8
      have HSS := Lib.hid HS
      have H1 := Lib.hid (pfirst_any B b l f w h (by omega) (by omega) hBw)
      have H2 : Hid (∀ w', Pw B b (l ++ [UInt8.ofNat f]) w' → B ≤ w'.heap.size → Calls Try.prog 21 #[.pointer (some ⟨b, 0, none⟩), .int .u64 (m : Int), .int .i64 (q : Int)] w' (PwAns B b ((l ++ [UInt8.ofNat f]) ++ lwP m q) w')) := Lib.hid fun w' h' hB' => plow_any B b _ m q w' h' (by omega) h8.1 h8.2 (by simp; omega) hB'
      have HBw := Lib.hid hBw
      clear h hle hBw hm hn2 hf hq h63 h31 hn h3 h8 HS
      go_enter Try.func44, Try.ntmps44
      go_wp2_with fail
      refine HSS.out.mono ?_
      rintro e w1 ⟨rfl, rfl⟩
      go_wp2_with fail
      refine H1.out.mono ?_
      rintro e w1 ⟨rfl, h1', hb1, hk1⟩
      have HH := Lib.hid (And.intro h1' (And.intro hb1 hk1))
      clear h1' hb1 hk1
      go_wp2_with fail
      refine (H2.out _ HH.out.1 (Nat.le_trans HBw.out HH.out.2.1.size)).mono ?_
      rintro e w2 ⟨rfl, h2, hb2, hk2⟩
      have HL := Lib.hid (And.intro h2 (And.intro (HH.out.2.1.trans hb2) (HH.out.2.2.trans hk2)))
      clear h2 hb2 hk2
      go_wp2_with fail
      exact bodyPost_ret (v := .int .i64 0) (by simp [results, Try.results44, go_sem]) rfl ⟨HL.out.2, .inl ⟨HD.out, rfl, by rw [HT.out]; exact HL.out.1⟩⟩
  · have e1 : (0 : Int) < (n : Int) / 9223372036854775808 := by omega
    have e2 : decide ((0 : Int) < (n : Int) / 9223372036854775808) = true := decide_eq_true e1
    have HD : Hid (decide (n < 9223372036854775808) = false) := Lib.hid (decide_eq_false h63)
    have HB0 : Hid (Below B w w ∧ Kq b w w) := Lib.hid ⟨Below.refl _ _, Kq.refl _ _⟩
    clear h h63 hn hle hBw
    go_enter Try.func44, Try.ntmps44
    go_wp2_with fail
    exact bodyPost_ret (v := .int .i64 10) (by simp [results, Try.results44, go_sem]) rfl ⟨HB0.out, .inr ⟨HD.out, rfl⟩⟩
end
/-- the world in which a value lies in a new block, behind it the writer's -/
structure Ip (w : World) (B b : Nat) (l : List UInt8) (cs : Array Value) (W : World) : Prop where
  wr : Pw B b l W
  bl : Below B w W
  kw : Kq b w W
  sz : B ≤ W.heap.size
  bx : W.heap[w.heap.size]? = some (.cells cs 25 (0, 0))
section
variable {w W W' : World} {B b : Nat} {l l' : List UInt8} {cs : Array Value} {e : Ending} {ok : Bool}
theorem Ip.new (h : Pw B b l w) (hB : B ≤ w.heap.size) (cs : Array Value) : Ip w B b l cs (w.alloc (.cells cs 25)) :=
  ⟨h.below ((Below.refl _ _).alloc (Nat.le_refl _) _), (Below.refl _ _).alloc hB _, (Kq.refl _ _).alloc _, by simp; omega, heap_alloc_last _ _⟩
theorem Ip.cell (h : Ip w B b l cs W) (i : Nat) : W.cell? ⟨w.heap.size, i, none⟩ = cs[i]? := cell_of_row _ _ i _ _ _ h.bx
theorem Ip.step (h : Ip w B b l cs W) (hs : PwAns B b l' W e W') (hb : b < w.heap.size) : Ip w B b l' cs W' :=
  ⟨hs.2.1, h.bl.trans hs.2.2.1, h.kw.trans hs.2.2.2, Nat.le_trans h.sz hs.2.2.1.size, hs.2.2.2 _ _ _ (by omega) (by decide) h.bx⟩
theorem Ip.it (h : Ip w B b l' cs W) (hl : l' = l) : ItP B b l true w (.returned (.int .i64 0)) W := by subst hl; exact ⟨⟨h.bl, h.kw⟩, .inl ⟨rfl, rfl, h.wr⟩⟩
theorem ItP.behind (h : Ip w B b l' cs W) (ha : ItP B b l ok W e W') : ItP B b l ok w e W' := ⟨⟨h.bl.trans ha.1.1, h.kw.trans ha.1.2⟩, ha.2⟩
theorem ItP.of (h : PwAns B b l W e W') : e = .returned (.tuple #[]) ∧ Pw B b l W' ∧ Below B W W' ∧ Kq b W W' := h
end
section
variable {B b : Nat} {l : List UInt8} {w : World}
set_option maxRecDepth 100000 in
set_option maxHeartbeats 2000000 in
/-- a whole number -/
theorem pwhole_any (t : VT) (C : Value) (h : Pw B b l w) (hn : t.n < 18446744073709551616) (hle : l.length + 20 ≤ 140737488355328) (hBw : B ≤ w.heap.size) :
    Calls Try.prog 27 #[.pointer (some ⟨b, 0, none⟩), vv t C] w (ItP B b (l ++ pnP t.g t.n) (!t.g || decide (t.n < 9223372036854775808)) w) := by
  obtain ⟨n, hnn⟩ : ∃ n, t.n = n := ⟨_, rfl⟩
  obtain ⟨g, hgg⟩ : ∃ n, t.g = n := ⟨_, rfl⟩
  have HN := Lib.hid (Ip.new h hBw #[.int .i64 t.k, .bool t.g, .int .u64 (t.n : Int), .string t.s, C])
  unfold vv
  rw [hnn, hgg] at HN ⊢
  rw [hnn] at hn
  have hb := h.lt
  cases g with
  | true =>
    have H1 : Hid (∀ W, Ip w B b l #[.int .i64 t.k, .bool true, .int .u64 (n : Int), .string t.s, C] W → Calls Try.prog 44 #[.pointer (some ⟨b, 0, none⟩), .int .u64 (n : Int)] W (ItP B b (l ++ pnP true n) (decide (n < 9223372036854775808)) w)) := Lib.hid fun W hW => (pbelow_any n hW.wr hn hle hW.sz).mono fun e w' ha => ItP.behind hW ha
    rw [Bool.not_true, Bool.false_or]
    obtain ⟨R, hR⟩ : ∃ R, l ++ pnP true n = R := ⟨_, rfl⟩
    obtain ⟨D, hD⟩ : ∃ D, decide (n < 9223372036854775808) = D := ⟨_, rfl⟩
    rw [hR, hD] at H1 ⊢
    clear h hn hle hBw hnn hgg hb hR hD
    go_enter Try.func27, Try.ntmps27
    go_wp2_with fail
    refine (H1.out _ HN.out).mono ?_
    rintro e w2 ⟨h2a, ⟨hx, rfl, h2c⟩ | ⟨hx, rfl⟩⟩
    · have H2 := Lib.hid (And.intro h2a (And.intro hx h2c))
      clear h2a h2c hx
      go_wp2_with fail
      exact bodyPost_ret (v := .int .i64 0) (by simp [results, Try.results27, go_sem]) rfl ⟨H2.out.1, .inl ⟨H2.out.2.1, rfl, H2.out.2.2⟩⟩
    · have H2 := Lib.hid (And.intro h2a hx)
      clear h2a hx
      go_wp2_with fail
      exact bodyPost_ret (v := .int .i64 10) (by simp [results, Try.results27, go_sem]) rfl ⟨H2.out.1, .inr ⟨H2.out.2, rfl⟩⟩
  | false =>
    rw [Bool.not_false, Bool.true_or]
    by_cases h128 : n < 128
    · have i1 : decide (n < 128) = true := decide_eq_true h128
      have i2 : decide ((n : Int) < 128) = true := decide_eq_true (by omega)
      have u1 : IntKind.u8.wrap (n : Int) = (n : Int) := by rw [IntKind.wrap_u8]; omega
      have HT : Hid (pnP false n = [UInt8.ofNat n]) := Lib.hid (by unfold pnP; rw [if_neg (by decide), if_pos h128])
      have H1 : Hid (∀ W, Ip w B b l #[.int .i64 t.k, .bool false, .int .u64 (n : Int), .string t.s, C] W → Calls Try.prog 26 #[.pointer (some ⟨b, 0, none⟩), .int .u8 (n : Int)] W fun e w' => e = .returned (.tuple #[]) ∧ Ip w B b (l ++ [UInt8.ofNat n]) #[.int .i64 t.k, .bool false, .int .u64 (n : Int), .string t.s, C] w') := Lib.hid fun W hW => (pfirst_any B b l n W hW.wr (by omega) (by omega) hW.sz).mono fun e w' hs => ⟨hs.1, hW.step hs hb⟩
      clear h hn hle hBw hnn hgg hb h128
      go_enter Try.func27, Try.ntmps27
      go_wp2_with fail
      refine (H1.out _ HN.out).mono ?_
      rintro e w1 ⟨rfl, h1⟩
      have HH := Lib.hid h1
      clear h1
      go_wp2_with fail
      exact bodyPost_ret (v := .int .i64 0) (by simp [results, Try.results27, go_sem]) rfl (HH.out.it (by rw [HT.out]))
    · have i1 : decide (n < 128) = false := decide_eq_false h128
      have i2 : decide ((n : Int) < 128) = false := decide_eq_false (by omega)
      have hk8 : 1 * 2 ^ lsK n 1 ≤ 8 := by have := two_lsK n 1; omega
      have HT : Hid (pnP false n = phP 204 1 n) := Lib.hid (by unfold pnP; rw [if_neg (by decide), if_neg h128])
      have H1 : Hid (∀ W, Ip w B b l #[.int .i64 t.k, .bool false, .int .u64 (n : Int), .string t.s, C] W → Calls Try.prog 28 #[.pointer (some ⟨b, 0, none⟩), .int .u8 204, .int .i64 1, .int .u64 (n : Int)] W fun e w' => e = .returned (.tuple #[]) ∧ Ip w B b (l ++ phP 204 1 n) #[.int .i64 t.k, .bool false, .int .u64 (n : Int), .string t.s, C] w') := Lib.hid fun W hW => (phead_any B b l 204 1 n W hW.wr (by decide) (.inl rfl) hn hk8 (by omega) hW.sz).mono fun e w' hs => ⟨hs.1, hW.step hs hb⟩
      clear h hn hle hBw hnn hgg hb h128 hk8
      go_enter Try.func27, Try.ntmps27
      go_wp2_with fail
      refine (H1.out _ HN.out).mono ?_
      rintro e w1 ⟨rfl, h1⟩
      have HH := Lib.hid h1
      clear h1
      go_wp2_with fail
      exact bodyPost_ret (v := .int .i64 0) (by simp [results, Try.results27, go_sem]) rfl (HH.out.it (by rw [HT.out]))
end
end Go.Proofs.Ytfchondipjiicaa.nn
