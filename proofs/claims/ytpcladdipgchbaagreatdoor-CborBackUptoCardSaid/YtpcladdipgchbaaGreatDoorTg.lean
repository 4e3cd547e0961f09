/- Joined texts, what is wanted of them: CbLaid, OpenS, OpenT, OpenO, Open8. -/
import Derived.Test.YtpcladdipgchbaaGreatDoorRows
import Derived.ProofKit
import Derived.SizedLaws
import Derived.ChangeMaps5
import Derived.OpenShut
import Derived.Deep.DeepHandedRow
import Derived.LaidHandle
import Derived.Stop.Joined
import Derived.Deep.Slices
import Derived.Deep.Fields
import Derived.Test.YtpcladdipgchbaaGreatDoorProg
import Derived.WalkKit
import Derived.Lib.Hide
import Derived.WalkSpells
import Derived.Deep.QuietTactic
import Derived.BigQuiet
import Derived.Deep.RegionHeld3
import Derived.Laws.BitsAllLaws
import Derived.Test.YtpcladdipgchbaaGreatDoorShelf
import Derived.Deep.RegionWith
import Derived.IntWalk
import Derived.Deep.CutBlock
import Derived.StillTailTactics
import Derived.Test.YtpcladdipgchbaaGreatDoorSv
import Derived.Test.YtpcladdipgchbaaGreatDoorSa
import Derived.Test.YtpcladdipgchbaaGreatDoorSd
namespace Go.Proofs.YtpcladdipgchbaaGreatDoor.nn
open Go.ChangeShapes Go.WideShapes Go.ChangeAt Go.RowKit

theorem lh_et : Tryz.prog.globalNamed "errors.errorType" = some 0 := by kernel_rfl
theorem lh_rt : (Tryz.prog.cutTypes.find? (·.1 == "internal/reflectlite.rtype")).map (·.2) = some 180 := by kernel_rfl
theorem lh_row : ((List.range Tryz.prog.types.size).filter fun t => Tryz.prog.rowNamed t [101, 114, 114, 111, 114]) = [73] := by kernel_rfl
theorem lh_laid {W : World} (h : laidMetH Tryz.prog [("errors.errorType", Rows.laid_errors_errorType)] W) : Laid W := by
  have h' : laidMet Tryz.prog [] W ∧ handlesMet Tryz.prog [("errors.errorType", Rows.laid_errors_errorType)] W := h
  obtain ⟨name, u, ty, e1, e2, e3, e4, e5⟩ := h'.2 _ (List.mem_singleton.2 rfl)
  have en : name = [101, 114, 114, 111, 114] := (Option.some.inj e1).symm
  subst en
  obtain rfl := Option.some.inj (lh_rt.symm.trans e2)
  have hm : ty ∈ (List.range Tryz.prog.types.size).filter fun t => Tryz.prog.rowNamed t [101, 114, 114, 111, 114] := List.mem_filter.2 ⟨List.mem_range.2 e3, e4⟩
  rw [lh_row] at hm
  obtain rfl := List.mem_singleton.1 hm
  have hh : typeHandle Tryz.prog 73 = .pointer (some ⟨4, 73, none⟩) := by kernel_rfl
  rw [hh] at e5
  have := World.var?_cell lh_et e5 0
  exact this
/-- the settled world, the variable's cell laid -/
noncomputable def laidW (os : Os) : World :=
  { World.holding Tryz.prog os ⟨#[], #[], []⟩ with heap := (World.holding Tryz.prog os ⟨#[], #[], []⟩).heap.modify 0 fun
      | .cells _ t frozen => .cells #[.iface 180 (.agg #[.pointer (some ⟨4, 73, none⟩)])] t frozen
      | o => o }
theorem laidW_met (os : Os) (args : Array Value) : laidMetH Tryz.prog [("errors.errorType", Rows.laid_errors_errorType)] ((laidW os).forCall (fun _ _ => 0) ⟨#[], args, []⟩).memory :=
  laidMetH_of_parts (laidMet_nil _ _) (by kernel_rfl)
end Go.Proofs.YtpcladdipgchbaaGreatDoor.nn
namespace Go.Proofs.YtpcladdipgchbaaGreatDoor.nn
open Go.ChangeShapes Go.WideShapes Go.ChangeAt Go.RowKit

theorem Tryz.own : ownKnob Tryz.prog.godebug = none := by kernel_rfl
theorem Tryz.laidOut : laidOutB Tryz.prog = true := by kernel_rfl
theorem wf_i64 {n : Int} (h : (Lit.int .i64 n).wf = true) : -9223372036854775808 ≤ n ∧ n ≤ 9223372036854775807 := by
  have h1 : IntKind.i64.min = -9223372036854775808 := rfl
  have h2 : IntKind.i64.max = 9223372036854775807 := rfl
  simp only [Lit.wf, Bool.and_eq_true, decide_eq_true_eq] at h
  omega
theorem wf_u8 {n : Int} (h : (Lit.int .u8 n).wf = true) : 0 ≤ n ∧ n < ((256 : Nat) : Int) := by
  have h1 : IntKind.u8.min = 0 := rfl
  have h2 : IntKind.u8.max = 255 := rfl
  simp only [Lit.wf, Bool.and_eq_true, decide_eq_true_eq] at h
  omega
theorem wf_u64 {n : Int} (h : (Lit.int .u64 n).wf = true) : 0 ≤ n ∧ n < ((18446744073709551616 : Nat) : Int) := by
  have h1 : IntKind.u64.min = 0 := rfl
  have h2 : IntKind.u64.max = 18446744073709551615 := rfl
  simp only [Lit.wf, Bool.and_eq_true, decide_eq_true_eq] at h
  omega
end Go.Proofs.YtpcladdipgchbaaGreatDoor.nn
namespace Go.Proofs.YtpcladdipgchbaaGreatDoor.nn
open Go.ChangeShapes Go.WideShapes Go.ChangeAt Go.RowKit

theorem Tryz.cellsV : Tryz.prog.cellsOf 25 = 5 := by kernel_rfl
theorem blk_add (b off i : Nat) : (⟨b, off, none⟩ : Addr).add i = ⟨b, off + i, none⟩ := by unfold Addr.add; split <;> simp_all
theorem bulkAll_app {H : Type} (l r : List (DataW H)) : Rows.uptoBulkAll (l ++ r) = Rows.uptoBulkAll l + Rows.uptoBulkAll r := by
  induction l with
  | nil => simp [Rows.uptoBulkAll]
  | cons x l ih => simp only [List.cons_append, Rows.uptoBulkAll, ih]; omega
theorem bulkAll_at {H : Type} {l : List (DataW H)} {x : DataW H} (h : x ∈ l) : Rows.uptoBulk x ≤ Rows.uptoBulkAll l := by
  induction l with
  | nil => cases h
  | cons y r ih =>
    simp only [Rows.uptoBulkAll]
    rcases List.mem_cons.1 h with rfl | h
    · omega
    · have := ih h; omega
theorem blkL_app (a b : List VT) : blkL (a ++ b) + 1 = blkL a + blkL b := by
  induction a with
  | nil => simp only [List.nil_append, blkL]; omega
  | cons t r ih => simp only [List.cons_append, blkL]; omega
theorem wfL_all {l : List VT} (h : ∀ t ∈ l, wfT t) : wfL l := by
  induction l with
  | nil => trivial
  | cons t r ih => exact ⟨h t (by simp), ih fun x hx => h x (by simp [hx])⟩
section
variable {H : Type} {enc : TypeId × Value → H} {W : World}

set_option maxRecDepth 100000 in
/-- a value's five cells -/
theorem open_cells {fuel : Nat} {cs : List Value} {x : DataW H × List MemPlace} (h : DataW.trod enc Tryz.prog W 0 (fun _ => true) true fuel 25 cs = some x) :
    ∃ (k : Int) (g : Bool) (n : Nat) (s : ByteArray) (C : Value) (y : DataW H × List MemPlace) (f : Nat), cs = [.int .i64 k, .bool g, .int .u64 (n : Int), .string s, C] ∧ (-9223372036854775808 ≤ k ∧ k ≤ 9223372036854775807 ∧ n < 18446744073709551616) ∧
      DataW.trod enc Tryz.prog W 0 (fun _ => true) true f 23 [C] = some y ∧ Rows.uptoBulk x.1 = s.size + Rows.uptoBulk y.1 + 5 ∧ ∀ q ∈ y.2, q ∈ x.2 := by
  obtain ⟨xs, n, _, hx, hlen, hxl, hf⟩ := DataW.trod_struct Tryz.underlying25 h
  rw [Tryz.cellsV] at hlen
  match cs, hlen with
  | [c0, c1, c2, c3, c4], _ =>
    match xs, hxl with
    | [y0, y1, y2, y3, y4], _ =>
      have f0 := hf 0 _ rfl
      have f1 := hf 1 _ rfl
      have f2 := hf 2 _ rfl
      have f3 := hf 3 _ rfl
      have f4 := hf 4 _ rfl
      simp only [List.getElem?_cons_zero, List.getElem?_cons_succ] at f0 f1 f2 f3 f4
      obtain ⟨k, e0, z0, w0⟩ := DataW.trod_int Tryz.underlying3 f0
      obtain ⟨g, e1, z1⟩ := DataW.trod_bool Tryz.underlying4 f1
      obtain ⟨u, e2, z2, w2⟩ := DataW.trod_int Tryz.underlying22 f2
      obtain ⟨s, e3, z3, _⟩ := DataW.trod_string Tryz.underlying9 f3
      have hk := wf_i64 w0
      have hu := wf_u64 w2
      obtain ⟨m, rfl⟩ := Int.eq_ofNat_of_zero_le hu.1
      injection e0 with e0 _
      injection e1 with e1 _
      injection e2 with e2 _
      injection e3 with e3 _
      subst e0 e1 e2 e3 z0 z1 z2 z3 hx
      refine ⟨k, g, m, s, c4, y4, n, rfl, ⟨hk.1, hk.2, by omega⟩, f4, ?_, ?_⟩
      · simp only [List.map_cons, List.map_nil, Rows.uptoBulk, Rows.uptoBulkAll, Array.length_toList]
        show _ = s.data.size + _ + 5
        omega
      · intro q hq
        simp [hq]
theorem open_list (B : Nat) : ∀ (fuel : Nat) (cs : List Value) (x : DataW H × List MemPlace), DataW.trod enc Tryz.prog W 0 (fun _ => true) true fuel 23 cs = some x → Rows.uptoBulk x.1 ≤ B → (∀ q ∈ x.2, q.block < W.heap.size) →
    ∃ (v : Value) (l : List VT), cs = [v] ∧ Lst W v l ∧ blkL l ≤ Rows.uptoBulk x.1 ∧ wfL l := by
  induction B with
  | zero =>
    intro fuel cs x h hB _
    rcases Go.Deep.open_slice Tryz.underlying23 h with ⟨rfl, rfl⟩ | ⟨a, len, cap, m, n, D, Pl, hcs, _, hl, hm, hmm, hx, hi⟩
    · exact ⟨_, [], rfl, .nil_, by simp [blkL, Rows.uptoBulk], trivial⟩
    · subst hx
      simp only [Rows.uptoBulk] at hB
      omega
  | succ B ih =>
    intro fuel cs x h hB hp
    rcases Go.Deep.open_slice Tryz.underlying23 h with ⟨rfl, rfl⟩ | ⟨a, len, cap, m, n, D, Pl, hcs, _, hl, hm, hmm, hx, hi⟩
    · exact ⟨_, [], rfl, .nil_, by simp [blkL, Rows.uptoBulk], trivial⟩
    · subst hcs hx
      simp only [if_true] at hmm
      subst hmm
      rw [Tryz.cellsV] at hi hp
      rcases Nat.eq_zero_or_pos len with h0 | h0
      · subst h0
        exact ⟨_, [], rfl, .nil_, by simp only [blkL, Rows.uptoBulk]; omega, trivial⟩
      · have hc0 : 0 < m := by omega
        obtain ⟨cs0, q1, _⟩ := hi 0 hc0
        obtain ⟨b, off, spot⟩ := a
        obtain ⟨_, ql, qc⟩ := World.cells?_some q1
        have hsp : spot = none := by
          have h1 := qc 0 (by omega)
          rw [show (cs0[0]? : Option Value) = some (cs0[0]'(by omega)) from List.getElem?_eq_getElem (by omega)] at h1
          simpa [Addr.add] using World.cell?_spot h1
        subst hsp
        have hb : b < W.heap.size := hp (.cell b off) (List.mem_append.2 (.inl (MemPlace.mem_row.2 ⟨0, by omega, by simp⟩)))
        simp only [Rows.uptoBulk] at hB
        have key : ∀ i, i < len → ∃ (t : VT) (C : Value), Row W b (off + i * 5) t C ∧ Lst W C t.l ∧ blk t ≤ Rows.uptoBulk (D i) ∧ wfT t := by
          intro i hil
          obtain ⟨cs', h1, h2⟩ := hi i (by omega)
          obtain ⟨_, hcl, hat⟩ := World.cells?_some h1
          obtain ⟨k, g, u, s, C, y, f, rfl, hw, hy, hbk, hpl⟩ := open_cells h2
          dsimp only at hbk
          have hmem : D i ∈ (List.range len).map D := List.mem_map.2 ⟨i, List.mem_range.2 hil, rfl⟩
          have hle := bulkAll_at hmem
          obtain ⟨v, l, hv, hL, hbl, hwl⟩ := ih f [C] y hy (by omega) (fun q hq => hp q (List.mem_append.2 (.inr (List.mem_flatMap.2 ⟨i, List.mem_range.2 (by omega), hpl q hq⟩))))
          simp only [List.cons.injEq, and_true] at hv
          subst hv
          refine ⟨.mk k g u s l, C, ⟨?_, ?_, ?_, ?_, ?_⟩, hL, ?_, (wfT_mk _).2 ⟨hw.1, hw.2.1, hw.2.2, hwl⟩⟩
          · have := hat 0 (by omega)
            rw [blk_add, blk_add] at this
            show W.cell? _ = some (.int .i64 k)
            simpa using this
          · have := hat 1 (by omega)
            rw [blk_add, blk_add] at this
            show W.cell? _ = some (.bool g)
            simpa using this
          · have := hat 2 (by omega)
            rw [blk_add, blk_add] at this
            show W.cell? _ = some (.int .u64 (u : Int))
            simpa using this
          · have := hat 3 (by omega)
            rw [blk_add, blk_add] at this
            show W.cell? _ = some (.string s)
            simpa using this
          · have := hat 4 (by omega)
            rw [blk_add, blk_add] at this
            show W.cell? _ = some (C)
            simpa using this
          · rw [blk_mk]
            show s.size + blkL l + 5 ≤ _
            rw [hbk]
            omega
        have key2 : ∀ i, ∃ (t : VT) (C : Value), i < len → Row W b (off + i * 5) t C ∧ Lst W C t.l ∧ blk t ≤ Rows.uptoBulk (D i) ∧ wfT t := fun i => by
          by_cases hil : i < len
          · obtain ⟨t, C, h⟩ := key i hil
            exact ⟨t, C, fun _ => h⟩
          · exact ⟨VT.mk 0 false 0 ⟨#[]⟩ [], .bool false, fun h => absurd h hil⟩
        obtain ⟨T, hT⟩ := Classical.axiomOfChoice key2
        obtain ⟨CC, hCC⟩ := Classical.axiomOfChoice hT
        have hlen : ((List.range len).map T).length = len := by simp
        have hget : ∀ i (h : i < ((List.range len).map T).length), ((List.range len).map T)[i] = T i := fun i h => by simp
        refine ⟨_, (List.range len).map T, rfl, .at_ (C := CC) hlen hl hb (fun i h => ?_) (fun i h => ?_), ?_, ?_⟩
        · rw [hget i h]; exact (hCC i (by omega)).1
        · rw [hget i h]; exact (hCC i (by omega)).2.1
        · have hs : ∀ j, j ≤ len → blkL ((List.range j).map T) ≤ Rows.uptoBulkAll ((List.range j).map D) + 1 := fun j hj => by
            induction j with
            | zero => simp [blkL, Rows.uptoBulkAll]
            | succ j ihj =>
              have h1 := ihj (by omega)
              have h2 := (hCC j (by omega)).2.2.1
              rw [List.range_succ, List.map_append, List.map_append, bulkAll_app]
              have h3 := blkL_app ((List.range j).map T) [T j]
              have h4 : blkL [T j] = blk (T j) + 1 := rfl
              simp only [List.map_cons, List.map_nil, Rows.uptoBulkAll]
              omega
          have := hs len (Nat.le_refl _)
          simp only [Rows.uptoBulk]
          omega
        · exact wfL_all fun t ht => by
            obtain ⟨i, hi, rfl⟩ := List.mem_map.1 ht
            exact (hCC i (List.mem_range.1 hi)).2.2.2
set_option maxRecDepth 100000 in
/-- an argument that is a tree -/
theorem open_val {base : Nat} {v : Value} {d : DataW H} {p : List MemPlace} (hok : Value.okWide Tryz.prog W .any base 25 v) (h : DataW.Trod enc Tryz.prog W 0 (fun _ => true) true 25 v d p) (hlt : ∀ x ∈ p, x.block < W.heap.size) :
    ∃ (t : VT) (C : Value), v = vv t C ∧ Lst W C t.l ∧ blk t ≤ Rows.uptoBulk d ∧ wfT t := by
  obtain ⟨cs, rfl, hsz⟩ := okWide_struct Tryz.underlying25 hok
  obtain ⟨fuel, hf⟩ := h
  have hcl : (Value.agg cs).cells.toList = cs.toList := by simp [Value.cells]
  rw [hcl] at hf
  obtain ⟨k, g, u, s, C, y, f, hcs, hw, hy, hbk, hpl⟩ := open_cells hf
  obtain ⟨v, l, hv, hL, hbl, hwl⟩ := open_list _ f [C] y hy (Nat.le_refl _) (fun q hq => hlt q (hpl q hq))
  simp only [List.cons.injEq, and_true] at hv
  subst hv
  refine ⟨.mk k g u s l, C, ?_, hL, ?_, (wfT_mk _).2 ⟨hw.1, hw.2.1, hw.2.2, hwl⟩⟩
  · unfold vv
    congr 1
    rw [← Array.toArray_toList (xs := cs), hcs]
    rfl
  · rw [blk_mk]
    show s.size + blkL l + 5 ≤ _
    dsimp only at hbk
    rw [hbk]
    omega
end
end Go.Proofs.YtpcladdipgchbaaGreatDoor.nn
namespace Go.Proofs.YtpcladdipgchbaaGreatDoor.nn
open Go.ChangeShapes Go.WideShapes Go.ChangeAt Go.RowKit

theorem Tryz.cellsO : Tryz.prog.cellsOf 27 = 3 := by kernel_rfl
theorem Tryz.cellsM : Tryz.prog.cellsOf 38 = 3 := by kernel_rfl
section
variable {H : Type} {enc : TypeId × Value → H} {W : World}
set_option maxRecDepth 100000 in
/-- an argument that is an option -/
theorem open_opt {base : Nat} {v : Value} {d : DataW H} {p : List MemPlace} (hok : Value.okWide Tryz.prog W .any base 27 v) (h : DataW.Trod enc Tryz.prog W 0 (fun _ => true) true 27 v d p) :
    ∃ (o : Bool) (x : Int) (y : Bool), v = .agg #[.bool o, .int .i64 x, .bool y] ∧ -9223372036854775808 ≤ x ∧ x ≤ 9223372036854775807 := by
  obtain ⟨cs, rfl, hsz⟩ := okWide_struct Tryz.underlying27 hok
  obtain ⟨fuel, hf0⟩ := h
  have hcl : (Value.agg cs).cells.toList = cs.toList := by simp [Value.cells]
  rw [hcl] at hf0
  obtain ⟨xs, n, _, hx, hlen, hxl, hf⟩ := DataW.trod_struct Tryz.underlying27 hf0
  rw [Tryz.cellsO] at hlen
  obtain ⟨l, hl⟩ : ∃ l, cs.toList = l := ⟨_, rfl⟩
  have hcs : cs = l.toArray := by rw [← hl]
  rw [hl] at hlen hf
  match l, hlen with
  | [c0, c1, c2], _ =>
    match xs, hxl with
    | [y0, y1, y2], _ =>
      have f0 := hf 0 _ rfl
      have f1 := hf 1 _ rfl
      have f2 := hf 2 _ rfl
      simp only [List.getElem?_cons_zero, List.getElem?_cons_succ] at f0 f1 f2
      obtain ⟨g, e0, z0⟩ := DataW.trod_bool Tryz.underlying4 f0
      obtain ⟨k, e1, z1, w1⟩ := DataW.trod_int Tryz.underlying3 f1
      obtain ⟨u, e2, z2⟩ := DataW.trod_bool Tryz.underlying4 f2
      have hk := wf_i64 w1
      injection e0 with e0 _
      injection e1 with e1 _
      injection e2 with e2 _
      subst e0 e1 e2
      exact ⟨g, k, u, by rw [hcs], hk.1, hk.2⟩
set_option maxRecDepth 100000 in
/-- an argument that is limits -/
theorem open_lim {base : Nat} {v : Value} {d : DataW H} {p : List MemPlace} (hok : Value.okWide Tryz.prog W .any base 38 v) (h : DataW.Trod enc Tryz.prog W 0 (fun _ => true) true 38 v d p) :
    ∃ (i k : Int) (o : Bool), v = .agg #[.int .i64 i, .int .i64 k, .bool o] ∧ (-9223372036854775808 ≤ i ∧ i ≤ 9223372036854775807) ∧ (-9223372036854775808 ≤ k ∧ k ≤ 9223372036854775807) := by
  obtain ⟨cs, rfl, hsz⟩ := okWide_struct Tryz.underlying38 hok
  obtain ⟨fuel, hf0⟩ := h
  have hcl : (Value.agg cs).cells.toList = cs.toList := by simp [Value.cells]
  rw [hcl] at hf0
  obtain ⟨xs, n, _, hx, hlen, hxl, hf⟩ := DataW.trod_struct Tryz.underlying38 hf0
  rw [Tryz.cellsM] at hlen
  obtain ⟨l, hl⟩ : ∃ l, cs.toList = l := ⟨_, rfl⟩
  have hcs : cs = l.toArray := by rw [← hl]
  rw [hl] at hlen hf
  match l, hlen with
  | [c0, c1, c2], _ =>
    match xs, hxl with
    | [y0, y1, y2], _ =>
      have f0 := hf 0 _ rfl
      have f1 := hf 1 _ rfl
      have f2 := hf 2 _ rfl
      simp only [List.getElem?_cons_zero, List.getElem?_cons_succ] at f0 f1 f2
      obtain ⟨g, e0, z0, w0⟩ := DataW.trod_int Tryz.underlying3 f0
      obtain ⟨k, e1, z1, w1⟩ := DataW.trod_int Tryz.underlying3 f1
      obtain ⟨u, e2, z2⟩ := DataW.trod_bool Tryz.underlying4 f2
      have hg := wf_i64 w0
      have hk := wf_i64 w1
      injection e0 with e0 _
      injection e1 with e1 _
      injection e2 with e2 _
      subst e0 e1 e2
      exact ⟨g, k, u, by rw [hcs], ⟨hg.1, hg.2⟩, ⟨hk.1, hk.2⟩⟩
end
end Go.Proofs.YtpcladdipgchbaaGreatDoor.nn
namespace Go.Proofs.YtpcladdipgchbaaGreatDoor.nn
open Go.ChangeShapes Go.WideShapes Go.ChangeAt Go.RowKit

theorem Tryz.cells8 : Tryz.prog.cellsOf 5 = 1 := by kernel_rfl
theorem Tryz.bytes8 : Tryz.prog.bytesOf 5 = 1 := by kernel_rfl
set_option maxRecDepth 100000 in
/-- a slice that may be: its address stands at a block's own cells -/
theorem slice_spot {W : World} {base : Nat} {t e : TypeId} {a : Addr} {n c : Nat} (ht : Tryz.prog.underlying t = some (.slice e)) (h : Value.okWide Tryz.prog W .any base t (.slice (some a) n c)) : a.spot = none := by
  simp only [Value.okWide, ht, Cell.okWide, Cell.ok, World.has] at h
  exact h.2.2.2.1
theorem getD_mem8 {zs : List Int} {i : Nat} (h : i < zs.length) : zs.getD i 0 ∈ zs := by
  have : zs.getD i 0 = zs[i] := by simp [List.getD, h]
  rw [this]
  exact List.getElem_mem h
theorem addr_add8 (b off i : Nat) : (⟨b, off, none⟩ : Addr).add i = ⟨b, off + i, none⟩ := by unfold Addr.add; split <;> simp_all
/-- what a reading of a slice holds: so many bytes, so many with the spare ones -/
def Held8 {H : Type} (d : DataW H) (n c : Nat) : Prop := (n = 0 ∧ c = 0) ∨ ∃ e s, d = .slice e s ∧ e.length = n ∧ e.length + s.length = c
section
variable {H : Type} {enc : TypeId × Value → H} {W : World}
set_option maxRecDepth 100000 in
/-- an argument of type []uint8 -/
theorem open_bytes {base : Nat} {v : Value} {d : DataW H} {p : List MemPlace} (hok : Value.okWide Tryz.prog W .any base 28 v) (h : DataW.Trod enc Tryz.prog W 0 (fun _ => true) true 28 v d p) (hlt : ∀ x ∈ p, x.block < W.heap.size) :
    ∃ A n c f, v = .slice A n c ∧ Rd W .u8 A n f ∧ (∀ i, i < n → f i < 256) ∧ n ≤ c ∧ ((A = none ∧ n = 0 ∧ c = 0) ∨ ∃ bb off, A = some ⟨bb, off, none⟩) ∧ Held8 d n c := by
  obtain ⟨a0, len, cap, rfl⟩ := okWide_slice Tryz.underlying28 hok
  obtain ⟨fuel, hf⟩ := h
  rcases open_ints Tryz.underlying28 Tryz.underlying5 Tryz.cells8 hf with ⟨hcs, hx⟩ | ⟨a, len', cap', zs, hcs, _, hl, hm, hz, hx, hcell, hwz⟩
  · simp [Value.cells] at hcs
    obtain ⟨rfl, rfl, rfl⟩ := hcs
    exact ⟨none, 0, 0, fun _ => 0, rfl, Rd.none_, fun _ h => absurd h (by omega), Nat.le_refl _, .inl ⟨rfl, rfl, rfl⟩, .inl ⟨rfl, rfl⟩⟩
  · simp [Value.cells] at hcs
    obtain ⟨rfl, rfl, rfl⟩ := hcs
    simp only [Prod.mk.injEq] at hx
    obtain ⟨rfl, rfl⟩ := hx
    simp only [if_true] at hz
    obtain ⟨b, off, spot⟩ := a
    obtain rfl : spot = none := slice_spot Tryz.underlying28 hok
    refine ⟨some ⟨b, off, none⟩, len, cap, fun i => (zs.getD i 0).toNat, rfl, fun h0 => ⟨b, off, rfl, hlt (.cell b off) (MemPlace.mem_row.2 ⟨0, by omega, by simp⟩), fun i hi => ?_⟩, fun i hi => ?_, hl, .inr ⟨b, off, rfl⟩,
      .inr ⟨_, _, rfl, by simp only [lits, List.length_map, List.length_take]; omega, by simp only [lits, List.length_map, List.length_take, List.length_drop]; omega⟩⟩
    · have h2 := hcell i (by omega)
      rw [addr_add8] at h2
      have h3 := (wf_u8 (hwz _ (getD_mem8 (by omega : i < zs.length)))).1
      rw [h2]
      congr 2
      show zs.getD i 0 = ((zs.getD i 0).toNat : Int)
      omega
    · have h3 := wf_u8 (hwz _ (getD_mem8 (by omega : i < zs.length)))
      show (zs.getD i 0).toNat < 256
      omega
/-- the reach bounds it -/
theorem held_reach {ts : List TypeId} {ds : List (DataW H)} {j n c : Nat} {d : DataW H} (hsz : (DataW.weightsEach Tryz.prog ts ds).all (· ≤ reachBytes) = true) (ht : ts[j]? = some 28) (hd : ds[j]? = some d) (h : Held8 d n c) : c ≤ 140737488351232 := by
  rcases h with ⟨_, h⟩ | ⟨e, s, rfl, _, h⟩
  · omega
  · have := sized_slice hsz ht hd Tryz.underlying28
    rw [Tryz.bytes8] at this
    unfold reachBytes at this
    omega
theorem bulk_pos (d : DataW H) : 1 ≤ Rows.uptoBulk d := by
  cases d with
  | lit l => cases l <;> simp [Rows.uptoBulk]
  | nil => simp [Rows.uptoBulk]
  | ptr d => simp [Rows.uptoBulk]
  | slice elems spare => simp [Rows.uptoBulk]
  | agg parts => simp [Rows.uptoBulk]
  | iface t d => simp [Rows.uptoBulk]
  | map entries => simp [Rows.uptoBulk]
  | held h => simp [Rows.uptoBulk]
theorem bulk_all (l : List (DataW H)) : l.length ≤ Rows.uptoBulkAll l := by
  induction l with
  | nil => simp [Rows.uptoBulkAll]
  | cons x r ih => have := bulk_pos x; simp only [Rows.uptoBulkAll, List.length_cons]; omega
/-- the second form's bound, too -/
theorem held_bulk {d : DataW H} {n c : Nat} (h : Held8 d n c) : c ≤ Rows.uptoBulk d := by
  rcases h with ⟨_, h⟩ | ⟨e, s, rfl, _, h⟩
  · omega
  · have h1 := bulk_all e
    have h2 := bulk_all s
    simp only [Rows.uptoBulk]
    omega
end
end Go.Proofs.YtpcladdipgchbaaGreatDoor.nn
