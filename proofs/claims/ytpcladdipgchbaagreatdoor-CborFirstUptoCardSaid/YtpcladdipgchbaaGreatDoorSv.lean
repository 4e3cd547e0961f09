/- Joined texts, what is wanted of them: CbE1, CbE2, CbE3. -/
import Derived.Test.YtpcladdipgchbaaGreatDoorProg
import Derived.WalkKit
import Derived.LaidEql
import Derived.Stop.Asserts
import Derived.RowKitTokens
import Derived.Lib.Hide
import Derived.Deep.DeepCutAuto
import Derived.Deep.RegionWith
import Derived.Defers
import Derived.Recover
import Derived.Laws.Pointers
import Derived.WalkSpells
import Derived.Deep.QuietTactic
import Derived.BigQuiet
import Derived.Deep.RegionHeld3
import Derived.Laws.BitsAllLaws
import Derived.Test.YtpcladdipgchbaaGreatDoorShelf
import Derived.IntWalk
import Derived.Deep.CutBlock
import Derived.StillTailTactics
import Derived.Test.YtpcladdipgchbaaGreatDoorSd
import Derived.Test.YtpcladdipgchbaaGreatDoorSa
namespace Go.Proofs.YtpcladdipgchbaaGreatDoor.nn
open Go.RowKit Go.Extern.Stop Go.Stop Go.Extern

/-- the variable errors.errorType holds the handle of error -/
def Laid (w : World) : Prop := w.cell? ⟨0, 0, none⟩ = some (.iface 180 (.agg #[.pointer (some ⟨4, 73, none⟩)]))
theorem as_vo (t : Addr) (w : World) : (ReflectliteValue.unpack (.iface 147 (.pointer (some t)))).run Tryz.prog w
    = .ok (.agg #[.pointer (some ⟨4, 147, none⟩), .pointer (some ⟨w.heap.size, 0, none⟩), .int .u64 150]) (w.alloc (.cells #[.pointer (some t)] 147)) := by kernel_rfl
theorem as_ty (a : Addr) (w : World) : (ReflectliteValue.methodAny (ReflectliteValue.valueError "reflectlite.Value.Type" 0) (fun t _ _ _ => ReflectliteType.toType t) #[.agg #[.pointer (some ⟨4, 147, none⟩), .pointer (some a), .int .u64 150]]).run Tryz.prog w
    = .ok (.iface 180 (.agg #[.pointer (some ⟨4, 147, none⟩)])) w := by kernel_rfl
theorem as_mk (n : Nat) (h : Value) (w : World) : (Go.method (n + 1) 180 (.agg #[h]) "Kind").run Tryz.prog w = .ok (263, h) w := by kernel_rfl
theorem as_kp (w : World) : ((ReflectliteType.abiMethod fun t => (fun a : Nat => Value.int IntKind.u8 (a : Int)) <$> Rtype.kind t) #[.pointer (some ⟨4, 147, none⟩)]).run Tryz.prog w = .ok (.int .u8 22) w := by kernel_rfl
theorem as_kr (w : World) : ((ReflectliteType.abiMethod fun t => (fun a : Nat => Value.int IntKind.u8 (a : Int)) <$> Rtype.kind t) #[.pointer (some ⟨4, 94, none⟩)]).run Tryz.prog w = .ok (.int .u8 25) w := by kernel_rfl
theorem as_pp (a : Addr) (w : World) : (ReflectliteValue.parts (.agg #[.pointer (some ⟨4, 147, none⟩), .pointer (some a), .int .u64 150])).run Tryz.prog w = .ok (some (147, a, 150)) w := by kernel_rfl
theorem as_nil (a p : Addr) (W : World) (ha : W.cell? a = some (.pointer (some p))) :
    (ReflectliteValue.method (ReflectliteValue.valueError "reflectlite.Value.IsNil" 0) ReflectliteValue.isNil #[.agg #[.pointer (some ⟨4, 147, none⟩), .pointer (some a), .int .u64 150]]).run Tryz.prog W = .ok (.bool false) W := by
  change Sem.run _ (ReflectliteValue.parts (.agg #[.pointer (some ⟨4, 147, none⟩), .pointer (some a), .int .u64 150]) >>= _) _ = _
  simp only [Sem.run_bind, as_pp, Result.andThen]
  simp [ReflectliteValue.isNil, loadVar, isAgg, underlying, Tryz.underlying147, ha, Result.andThen]
theorem as_me (n : Nat) (h : Value) (w : World) : (Go.method (n + 1) 180 (.agg #[h]) "Elem").run Tryz.prog w = .ok (273, .agg #[h]) w := by kernel_rfl
theorem as_ma (n : Nat) (h : Value) (w : World) : (Go.method (n + 1) 180 (.agg #[h]) "AssignableTo").run Tryz.prog w = .ok (271, .agg #[h]) w := by kernel_rfl
theorem as_mi (n : Nat) (h : Value) (w : World) : (Go.method (n + 1) 180 (.agg #[h]) "Implements").run Tryz.prog w = .ok (274, .agg #[h]) w := by kernel_rfl
theorem as_el (w : World) : (ReflectliteType.method ReflectliteType.elem #[.agg #[.pointer (some ⟨4, 147, none⟩)]]).run Tryz.prog w = .ok (.iface 180 (.agg #[.pointer (some ⟨4, 94, none⟩)])) w := by kernel_rfl
theorem as_im (w : World) : (ReflectliteType.relation "Implements" ReflectliteType.implements_ #[.agg #[.pointer (some ⟨4, 94, none⟩)], .iface 180 (.agg #[.pointer (some ⟨4, 73, none⟩)])]).run Tryz.prog w = .ok (.bool true) w := by kernel_rfl
theorem as_to (v : Value) (w : World) : (ReflectliteType.typeOf #[.iface 94 v]).run Tryz.prog w = .ok (.iface 180 (.agg #[.pointer (some ⟨4, 94, none⟩)])) w := by kernel_rfl
theorem as_as (w : World) : (ReflectliteType.relation "AssignableTo" ReflectliteType.assignableTo #[.agg #[.pointer (some ⟨4, 94, none⟩)], .iface 180 (.agg #[.pointer (some ⟨4, 94, none⟩)])]).run Tryz.prog w = .ok (.bool true) w := by kernel_rfl
theorem as_vr (x y : Value) (w : World) : (ReflectliteValue.unpack (.iface 94 (.agg #[x, y]))).run Tryz.prog w
    = .ok (.agg #[.pointer (some ⟨4, 94, none⟩), .pointer (some ⟨w.heap.size, 0, none⟩), .int .u64 153]) (w.alloc (.cells #[x, y] 94)) := by kernel_rfl
theorem as_eo (w : World) : (Rtype.elem? 147).run Tryz.prog w = .ok (some 94) w := by kernel_rfl
theorem as_mv (p : Addr) (w : World) : (ReflectliteValue.mk 94 p ReflectliteValue.flagAddr).run Tryz.prog w = .ok (.agg #[.pointer (some ⟨4, 94, none⟩), .pointer (some p), .int .u64 409]) w := by kernel_rfl
theorem as_ev (a p : Addr) (W : World) (ha : W.cell? a = some (.pointer (some p))) :
    (ReflectliteValue.method (ReflectliteValue.valueError "reflectlite.Value.Elem" 0) ReflectliteValue.elem #[.agg #[.pointer (some ⟨4, 147, none⟩), .pointer (some a), .int .u64 150]]).run Tryz.prog W
      = .ok (.agg #[.pointer (some ⟨4, 94, none⟩), .pointer (some p), .int .u64 409]) W := by
  change Sem.run _ (ReflectliteValue.parts (.agg #[.pointer (some ⟨4, 147, none⟩), .pointer (some a), .int .u64 150]) >>= _) _ = _
  simp only [Sem.run_bind, as_pp, Result.andThen]
  simp [ReflectliteValue.elem, loadVar, isAgg, underlying, Tryz.underlying147, ha, Result.andThen, as_eo, as_mv]
theorem as_pa (a : Addr) (w : World) : (ReflectliteValue.parts (.agg #[.pointer (some ⟨4, 94, none⟩), .pointer (some a), .int .u64 409])).run Tryz.prog w = .ok (some (94, a, 409)) w := by kernel_rfl
theorem as_pr (a : Addr) (w : World) : (ReflectliteValue.parts (.agg #[.pointer (some ⟨4, 94, none⟩), .pointer (some a), .int .u64 153])).run Tryz.prog w = .ok (some (94, a, 153)) w := by kernel_rfl
theorem as_di (w : World) : (Rtype.directlyAssignable 94 94).run Tryz.prog w = .ok true w := by kernel_rfl
theorem as_set (tb sb : Nat) (p e : Int) (x0 y0 : Value) (W : World) (h0 : W.cell? ⟨sb, 0, none⟩ = some (.int .i64 p)) (h1 : W.cell? ⟨sb, 1, none⟩ = some (.int .i64 e)) (ht : W.heap[tb]? = some (.cells #[x0, y0] 94 (0, 0))) :
    (ReflectliteValue.set #[.agg #[.pointer (some ⟨4, 94, none⟩), .pointer (some ⟨tb, 0, none⟩), .int .u64 409], .agg #[.pointer (some ⟨4, 94, none⟩), .pointer (some ⟨sb, 0, none⟩), .int .u64 153]]).run Tryz.prog W
      = .ok (.tuple #[]) ((W.setCell ⟨tb, 0, none⟩ (.int .i64 p)).setCell ⟨tb, 1, none⟩ (.int .i64 e)) := by
  have t0 : W.cell? ⟨tb, 0, none⟩ = some x0 := cell_of_row _ _ 0 _ _ _ ht
  have t1 : W.cell? ⟨tb, 1, none⟩ = some y0 := cell_of_row _ _ 1 _ _ _ ht
  have f0 : W.frozen? ⟨tb, 0, none⟩ = false := by simp [World.frozen?, ht]
  have f1 : W.frozen? ⟨tb, 1, none⟩ = false := by simp [World.frozen?, ht]
  change Sem.run _ (ReflectliteValue.parts (.agg #[.pointer (some ⟨4, 94, none⟩), .pointer (some ⟨tb, 0, none⟩), .int .u64 409]) >>= fun r => ReflectliteValue.parts (.agg #[.pointer (some ⟨4, 94, none⟩), .pointer (some ⟨sb, 0, none⟩), .int .u64 153]) >>= _) _ = _
  simp only [Sem.run_bind, as_pa, as_pr, Result.andThen]
  simp [ReflectliteValue.flagAddr, loadVar, loadCells, loadCellsFrom, h0, h1, Result.andThen, as_di, storeVar, Value.cells, storeCells, Addr.add]
  rw [run_store Tryz.prog W ⟨tb, 0, none⟩ _ _ (by rfl)]
  simp only [t0, f0, Bool.false_eq_true, if_false]
  have u1 : (W.setCell ⟨tb, 0, none⟩ (.int .i64 p)).cell? ⟨tb, 1, none⟩ = some y0 := (World.cell?_setCell_other _ _ _ _ (by simp)).trans t1
  have g1 : (W.setCell ⟨tb, 0, none⟩ (.int .i64 p)).frozen? ⟨tb, 1, none⟩ = false := (World.frozen?_setCell _ _ _ _).trans f1
  rw [run_store Tryz.prog (W.setCell ⟨tb, 0, none⟩ (.int .i64 p)) ⟨tb, 1, none⟩ _ _ (by rfl)]
  simp only [u1, g1, Bool.false_eq_true, if_false]
/-- the world behind errors.As of a refusal, the target in block tb -/
def asW (tb : Nat) (p e : Int) (w : World) : World :=
  ((((((w.alloc (.cells #[.pointer (some ⟨tb, 0, none⟩)] 147)).alloc (.cells #[.pointer (some ⟨4, 147, none⟩), .pointer (some ⟨w.heap.size, 0, none⟩), .int .u64 150] 204)).alloc (.cells #[.pointer (some ⟨4, 147, none⟩), .pointer (some ⟨w.heap.size, 0, none⟩), .int .u64 150] 204)).alloc (.cells #[.int .i64 p, .int .i64 e] 94)).setCell ⟨tb, 0, none⟩ (.int .i64 p)).setCell ⟨tb, 1, none⟩ (.int .i64 e))
set_option maxRecDepth 100000 in
set_option maxHeartbeats 4000000 in
theorem as_hit (tb : Nat) (p e : Int) (x0 y0 : Value) (w : World) (hg : Laid w) (ht : w.heap[tb]? = some (.cells #[x0, y0] 94 (0, 0))) :
    Calls Tryz.prog 101 #[.iface 94 (.agg #[.int .i64 p, .int .i64 e]), .iface 147 (.pointer (some ⟨tb, 0, none⟩))] w fun ev w' => ev = .returned (.bool true) ∧ w' = asW tb p e w := by
  have h6 := @run_callFunc_extern Tryz.prog 138 _ (fun args => ReflectliteValue.unpack (args.getD 0 (.tuple #[]))) Tryz.func138 (by kernel_rfl) (by kernel_rfl) (by kernel_rfl) (by kernel_rfl)
  have h7 := @run_callFunc_extern Tryz.prog 139 _ (ReflectliteValue.methodAny (ReflectliteValue.valueError "reflectlite.Value.Type" 0) (fun t _ _ _ => ReflectliteType.toType t)) Tryz.func139 (by kernel_rfl) (by kernel_rfl) (by kernel_rfl) (by kernel_rfl)
  have h8 := @run_callFunc_extern Tryz.prog 140 _ (ReflectliteValue.method (ReflectliteValue.valueError "reflectlite.Value.IsNil" 0) ReflectliteValue.isNil) Tryz.func140 (by kernel_rfl) (by kernel_rfl) (by kernel_rfl) (by kernel_rfl)
  have h27 := @run_callFunc_extern Tryz.prog 263 _ (ReflectliteType.abiMethod fun t => do pure (.int .u8 (← Rtype.kind t))) Tryz.func263 (by kernel_rfl) (by kernel_rfl) (by kernel_rfl) (by kernel_rfl)
  have h37 := @run_callFunc_extern Tryz.prog 273 _ (ReflectliteType.method ReflectliteType.elem) Tryz.func273 (by kernel_rfl) (by kernel_rfl) (by kernel_rfl) (by kernel_rfl)
  have h38 := @run_callFunc_extern Tryz.prog 274 _ (ReflectliteType.relation "Implements" ReflectliteType.implements_) Tryz.func274 (by kernel_rfl) (by kernel_rfl) (by kernel_rfl) (by kernel_rfl)
  have h10 := @run_callFunc_extern Tryz.prog 78 _ ReflectliteType.typeOf Tryz.func78 (by kernel_rfl) (by kernel_rfl) (by kernel_rfl) (by kernel_rfl)
  have h35 := @run_callFunc_extern Tryz.prog 271 _ (ReflectliteType.relation "AssignableTo" ReflectliteType.assignableTo) Tryz.func271 (by kernel_rfl) (by kernel_rfl) (by kernel_rfl) (by kernel_rfl)
  have h11 := @run_callFunc_extern Tryz.prog 179 _ (ReflectliteValue.method (ReflectliteValue.valueError "reflectlite.Value.Elem" 0) ReflectliteValue.elem) Tryz.func179 (by kernel_rfl) (by kernel_rfl) (by kernel_rfl) (by kernel_rfl)
  have h12 := @run_callFunc_extern Tryz.prog 180 _ ReflectliteValue.set Tryz.func180 (by kernel_rfl) (by kernel_rfl) (by kernel_rfl) (by kernel_rfl)
  have tO := as_to
  have mA := as_ma
  have a25 := as_as
  have v25 := as_vr
  have f6 := as_vo
  have f7 := as_ty
  have mK := as_mk
  have mE := as_me
  have mI := as_mi
  have k27 := as_kp
  have k25 := as_kr
  have e27 := as_el
  have i25 := as_im
  unfold asW
  obtain ⟨o1, ho1⟩ : ∃ o, Obj.cells #[.pointer (some ⟨tb, 0, none⟩)] 147 = o := ⟨_, rfl⟩
  obtain ⟨o2, ho2⟩ : ∃ o, Obj.cells #[.pointer (some ⟨4, 147, none⟩), .pointer (some ⟨w.heap.size, 0, none⟩), .int .u64 150] 204 = o := ⟨_, rfl⟩
  have hlt : 0 < w.heap.size := by
    rcases Nat.eq_zero_or_pos w.heap.size with h0 | h
    · simp [Laid, World.cell?, h0] at hg
    · exact h
  have htl : tb < w.heap.size := lt_of_block ht
  have HB : ∀ o, Below w.heap.size w (w.alloc o) := fun o => (Below.refl _ _).alloc (Nat.le_refl _) o
  have HB2 : ∀ o q, Below w.heap.size w ((w.alloc o).alloc q) := fun o q => (HB o).alloc (HB o).size q
  have HB3 : ∀ o q r, Below w.heap.size w (((w.alloc o).alloc q).alloc r) := fun o q r => (HB2 o q).alloc (HB2 o q).size r
  have HB4 : ∀ o q r s, Below w.heap.size w ((((w.alloc o).alloc q).alloc r).alloc s) := fun o q r s => (HB3 o q r).alloc (HB3 o q r).size s
  subst ho1 ho2
  have n8 := as_nil ⟨w.heap.size, 0, none⟩ ⟨tb, 0, none⟩ ((w.alloc (.cells #[.pointer (some ⟨tb, 0, none⟩)] 147)).alloc (.cells #[.pointer (some ⟨4, 147, none⟩), .pointer (some ⟨w.heap.size, 0, none⟩), .int .u64 150] 204)) (by simp)
  have hg2 : ((w.alloc (.cells #[.pointer (some ⟨tb, 0, none⟩)] 147)).alloc (.cells #[.pointer (some ⟨4, 147, none⟩), .pointer (some ⟨w.heap.size, 0, none⟩), .int .u64 150] 204)).cell? ⟨0, 0, none⟩ = some (.iface 180 (.agg #[.pointer (some ⟨4, 73, none⟩)])) := ((HB2 _ _).cell (p := ⟨0, 0, none⟩) hlt).trans hg
  have el := as_ev ⟨w.heap.size, 0, none⟩ ⟨tb, 0, none⟩ (((w.alloc (.cells #[.pointer (some ⟨tb, 0, none⟩)] 147)).alloc (.cells #[.pointer (some ⟨4, 147, none⟩), .pointer (some ⟨w.heap.size, 0, none⟩), .int .u64 150] 204)).alloc (.cells #[.pointer (some ⟨4, 147, none⟩), .pointer (some ⟨w.heap.size, 0, none⟩), .int .u64 150] 204)) (by rw [World.cell?_alloc_lt _ _ ⟨w.heap.size, 0, none⟩ (by simp; omega)]; simp)
  have st := as_set tb (w.heap.size + 1 + 1 + 1) p e x0 y0 ((((w.alloc (.cells #[.pointer (some ⟨tb, 0, none⟩)] 147)).alloc (.cells #[.pointer (some ⟨4, 147, none⟩), .pointer (some ⟨w.heap.size, 0, none⟩), .int .u64 150] 204)).alloc (.cells #[.pointer (some ⟨4, 147, none⟩), .pointer (some ⟨w.heap.size, 0, none⟩), .int .u64 150] 204)).alloc (.cells #[.int .i64 p, .int .i64 e] 94))
    (by rw [World.cell?_alloc_at _ _ _ _ (by simp)]; rfl)
    (by rw [World.cell?_alloc_at _ _ _ _ (by simp)]; rfl)
    (((HB4 _ _ _ _).block tb htl).trans ht)
  clear HB HB2 HB3 HB4
  go_enter Tryz.func101, Tryz.ntmps101
  go_wp2
  refine wp_loop_rounds 1 ?_
  rw [rounds_succ]
  go_wp2
  go_ret
  exact ⟨rfl, rfl⟩
end Go.Proofs.YtpcladdipgchbaaGreatDoor.nn
namespace Go.Proofs.YtpcladdipgchbaaGreatDoor.nn
open Go.RowKit Go.Extern.Stop Go.Stop Go.Extern

theorem lt_of_cell {w : World} {k j : Nat} {v : Value} (h : w.cell? ⟨k, j, none⟩ = some v) : k < w.heap.size := by
  rcases Nat.lt_or_ge k w.heap.size with h1 | h1
  · exact h1
  · simp [World.cell?, Array.getElem?_eq_none h1] at h
def rfV (p e : Int) : Value := .iface 94 (.agg #[.int .i64 p, .int .i64 e])
theorem Laid.below {w w' : World} (h : Laid w) (hb : Below w.heap.size w w') : Laid w' := by
  have hlt : 0 < w.heap.size := by
    rcases Nat.eq_zero_or_pos w.heap.size with h0 | h1
    · simp [Laid, World.cell?, h0] at h
    · exact h1
  exact (hb.cell (p := ⟨0, 0, none⟩) hlt).trans h
theorem asW_below {tb : Nat} {p e : Int} {w : World} {B : Nat} (hB : B ≤ tb) (hs : B ≤ w.heap.size) : Below B w (asW tb p e w) := by
  unfold asW
  have h0 := Below.refl B w
  have h1 := h0.alloc hs (.cells #[.pointer (some ⟨tb, 0, none⟩)] 147)
  have h2 := h1.alloc (Nat.le_trans hs h1.size) (.cells #[.pointer (some ⟨4, 147, none⟩), .pointer (some ⟨w.heap.size, 0, none⟩), .int .u64 150] 204)
  have h3 := h2.alloc (Nat.le_trans hs h2.size) (.cells #[.pointer (some ⟨4, 147, none⟩), .pointer (some ⟨w.heap.size, 0, none⟩), .int .u64 150] 204)
  have h4 := h3.alloc (Nat.le_trans hs h3.size) (.cells #[.int .i64 p, .int .i64 e] 94)
  exact (h4.setCell (p := ⟨tb, 0, none⟩) hB _).setCell (p := ⟨tb, 1, none⟩) hB _
theorem asW_cells {tb : Nat} {p e : Int} {w : World} {x y : Value} {T : TypeId} (ht : w.heap[tb]? = some (.cells #[x, y] T (0, 0))) : (asW tb p e w).heap[tb]? = some (.cells #[.int .i64 p, .int .i64 e] T (0, 0)) := by
  unfold asW
  have hlt := lt_of_block ht
  have h0 := Below.refl w.heap.size w
  have h1 := h0.alloc (Nat.le_refl _) (.cells #[.pointer (some ⟨tb, 0, none⟩)] 147)
  have h2 := h1.alloc h1.size (.cells #[.pointer (some ⟨4, 147, none⟩), .pointer (some ⟨w.heap.size, 0, none⟩), .int .u64 150] 204)
  have h3 := h2.alloc h2.size (.cells #[.pointer (some ⟨4, 147, none⟩), .pointer (some ⟨w.heap.size, 0, none⟩), .int .u64 150] 204)
  have h4 := h3.alloc h3.size (.cells #[.int .i64 p, .int .i64 e] 94)
  have h5 := (h4.block tb hlt).trans ht
  simp [World.setCell, Array.getElem?_modify] at h5 ⊢
  simp [h5]
set_option maxRecDepth 100000 in
set_option maxHeartbeats 2000000 in
theorem told_any (p e : Int) (w : World) (hg : Laid w) :
    Calls Tryz.prog 57 #[rfV p e] w fun r w' => r = .returned (.tuple #[.int .i64 p, .int .i64 e]) ∧ Below w.heap.size w w' := by
  obtain ⟨W1, hW1⟩ : ∃ W1, w.alloc (.cells #[.int .i64 0, .int .i64 0] 94) = W1 := ⟨_, rfl⟩
  have hb1 : Below w.heap.size w W1 := by rw [← hW1]; exact (Below.refl _ _).alloc (Nat.le_refl _) _
  have ht : W1.heap[w.heap.size]? = some (.cells #[.int .i64 0, .int .i64 0] 94 (0, 0)) := by rw [← hW1]; exact heap_alloc_last _ _
  have H1 := Lib.hid (as_hit w.heap.size p e _ _ W1 (hg.below hb1) ht)
  have hc := asW_cells (p := p) (e := e) ht
  have HB := Lib.hid (hb1.trans (asW_below (tb := w.heap.size) (p := p) (e := e) (Nat.le_refl _) hb1.size))
  obtain ⟨W2, hW2⟩ : ∃ W2, asW w.heap.size p e W1 = W2 := ⟨_, rfl⟩
  rw [hW2] at H1 hc HB
  have c0 : W2.cell? ⟨w.heap.size, 0, none⟩ = some (.int .i64 p) := cell_of_row _ _ 0 _ _ _ hc
  have c1 : W2.cell? ⟨w.heap.size, 1, none⟩ = some (.int .i64 e) := cell_of_row _ _ 1 _ _ _ hc
  clear hb1 ht hc hW2 hg
  unfold rfV
  go_enter Tryz.func57, Tryz.ntmps57
  go_upto_region 2 with fail
  first | rw [hW1] | skip
  clear hW1
  go_wp2_with fail
  refine H1.out.mono ?_
  rintro r w2 ⟨rfl, rfl⟩
  go_upto_region 4 with fail
  go_region
  all_goals
    go_wp2_with fail
    exact bodyPost_ret (by simp [results, Tryz.results57, go_sem]) rfl ⟨rfl, Below.drew HB.out⟩
theorem as_err (x : Value) (w : World) : (Instr.typeAssert (.iface 94 x) 20 73 true).run Tryz.prog w = .ok (.tuple #[.iface 94 x, .bool true]) w := by kernel_rfl
set_option maxRecDepth 100000 in
set_option maxHeartbeats 2000000 in
theorem caught_rec (k : Nat) (p e : Int) (x0 y0 : Value) (older : List PanicEntry) (w : World) (hg : Laid w) (h0 : w.cell? ⟨k, 0, none⟩ = some x0) (h1 : w.cell? ⟨k + 1, 0, none⟩ = some y0) (g0 : w.frozen? ⟨k, 0, none⟩ = false) (g1 : w.frozen? ⟨k + 1, 0, none⟩ = false) :
    CallsD Tryz.prog 56 #[.pointer (some ⟨k, 0, none⟩), .pointer (some ⟨k + 1, 0, none⟩)] (.panicking ({ v := rfV p e, recovered := false } :: older)) w fun r u' w' =>
      r = .returned (.tuple #[]) ∧ u' = .panicking ({ v := rfV p e, recovered := true } :: older) ∧ ∃ w1, Below w.heap.size w w1 ∧ w' = (w1.setCell ⟨k, 0, none⟩ (.int .i64 p)).setCell ⟨k + 1, 0, none⟩ (.int .i64 e) := by
  have HT := Lib.hid (told_any p e w hg)
  unfold rfV at HT
  refine callsD_of_wpS Tryz.func56 rfl fun c₀ cs hu => ?_
  apply wpS_seq
  apply wpS_region
  simp [wpOpsS, go_sem, recoverD, hu, Tryz.ntmps56, Exit.thenS, rfV, as_err]
  apply wpS_seq
  apply wpS_region
  simp [wpOpsS, go_sem, Exit.thenS]
  refine wpS_cond (t := true) (by simp [Act.eval, Array.replicate]) ?_
  simp only [if_true]
  refine wpS_of_wp ?_
  refine (fun (H : ∀ Q : Exit → Act → World → Prop, (∀ tm w1, Below w.heap.size w w1 → Q .normal { tmps := tm, defers := [] } ((w1.setCell ⟨k, 0, none⟩ (.int .i64 p)).setCell ⟨k + 1, 0, none⟩ (.int .i64 e))) → Code.wp _ _ Q _ _) => H _ ?_) ?_
  · intro tm w1 hb
    exact ⟨rfl, _, rfl, _, results_none rfl _ _ _, rfl, rfl, w1, hb, rfl⟩
  · clear hu
    intro Q hQ
    have HQ := Lib.hid hQ
    have hk0 : k < w.heap.size := lt_of_cell h0
    have hk1 : k + 1 < w.heap.size := lt_of_cell h1
    clear hQ
    simp [Array.replicate]
    go_wp2_with fail
    refine HT.out.mono ?_
    rintro r w1 ⟨rfl, hb⟩
    have c0 : w1.cell? ⟨k, 0, none⟩ = some x0 := (hb.cell (p := ⟨k, 0, none⟩) hk0).trans h0
    have c1 : w1.cell? ⟨k + 1, 0, none⟩ = some y0 := (hb.cell (p := ⟨k + 1, 0, none⟩) hk1).trans h1
    have f0 : w1.frozen? ⟨k, 0, none⟩ = false := by
      have := hb.block k hk0
      simp only [World.frozen?, this] at g0 ⊢
      exact g0
    have f1 : w1.frozen? ⟨k + 1, 0, none⟩ = false := by
      have := hb.block (k + 1) hk1
      simp only [World.frozen?, this] at g1 ⊢
      exact g1
    have HB := Lib.hid hb
    clear hb h0 h1 g0 g1 hk0 hk1
    go_wp2_with fail
    exact HQ.out _ _ HB.out
set_option maxRecDepth 100000 in
set_option maxHeartbeats 2000000 in
theorem caught_idle (k : Nat) (w : World) : CallsD Tryz.prog 56 #[.pointer (some ⟨k, 0, none⟩), .pointer (some ⟨k + 1, 0, none⟩)] .returning w fun r u' w' => r = .returned (.tuple #[]) ∧ u' = .returning ∧ w' = w := by
  have as0 : ∀ w : World, (Instr.typeAssert .nilIface 20 73 true).run Tryz.prog w = .ok (.tuple #[.nilIface, .bool false]) w := fun _ => by kernel_rfl
  refine callsD_of_wpS Tryz.func56 rfl fun c₀ cs hu => ?_
  apply wpS_seq
  apply wpS_region
  simp [wpOpsS, go_sem, recoverD, hu, Tryz.ntmps56, Exit.thenS, as0]
  apply wpS_seq
  apply wpS_region
  simp [wpOpsS, go_sem, Exit.thenS]
  refine wpS_cond (t := false) (by simp [Act.eval, Array.replicate]) ?_
  simp only [Bool.false_eq_true, if_false]
  refine wpS_of_wp (wp_skip ?_)
  cases c₀
  simp_all [bodyPostS, results, Tryz.results56]
end Go.Proofs.YtpcladdipgchbaaGreatDoor.nn
namespace Go.Proofs.YtpcladdipgchbaaGreatDoor.nn
open Go.RowKit

/-- the world when the work is begun -/
def ctW (w : World) : World := (w.alloc (.cells #[.int .i64 0] 3)).alloc (.cells #[.int .i64 0] 29)
/-- what is there behind the work -/
def ctK (w W : World) : Prop := W.heap[w.heap.size]? = some (.cells #[.int .i64 0] 3 (0, 0)) ∧ W.heap[w.heap.size + 1]? = some (.cells #[.int .i64 0] 29 (0, 0)) ∧ Laid W
/-- what caught answers -/
def CtAns (Q : World → Prop) (Q' : Int → Int → World → Prop) (w : World) (e : Ending) (w' : World) : Prop :=
  ∃ (p n : Int) (W w1 : World), e = .returned (.tuple #[.int .i64 p, .int .i64 n]) ∧ ((Q W ∧ p = 0 ∧ n = 0 ∧ w1 = W) ∨ (Q' p n W ∧ Below W.heap.size W w1)) ∧ w' = (w1.setCell ⟨w.heap.size, 0, none⟩ (.int .i64 p)).setCell ⟨w.heap.size + 1, 0, none⟩ (.int .i64 n)
/-- what a work does -/
def WkAns (Q : World → Prop) (Q' : Int → Int → World → Prop) (e : Ending) (W : World) : Prop :=
  (e = .returned (.tuple #[]) ∧ Q W) ∨ (∃ p n, e = .panicked [{ v := rfV p n, recovered := false }] ∧ Q' p n W)
set_option maxRecDepth 100000 in
set_option maxHeartbeats 2000000 in
theorem caught_enc (c1 c2 : Value) (Q : World → Prop) (Q' : Int → Int → World → Prop) (w : World) (hw : Calls Tryz.prog 35 #[c1, c2] (ctW w) (WkAns Q Q')) (hQ : ∀ W, Q W → ctK w W) (hQ' : ∀ p n W, Q' p n W → ctK w W) :
    Calls Tryz.prog 34 #[.func (.func 35) #[] #[c1, c2]] w (CtAns Q Q' w) := by
  have hmf : ∀ (fn : Fn) (first cap : Array Value) (w : World), (Instr.makeFunc fn first cap).run Tryz.prog w = .ok (.func fn first cap) w := fun _ _ _ _ => rfl
  have HW := Lib.hid hw
  have HQ := Lib.hid hQ
  have HQ' := Lib.hid hQ'
  unfold ctW at HW
  clear hw hQ hQ'
  go_enter_defers Tryz.func34, Tryz.ntmps34
  go_wp2_with fail
  refine HW.out.mono ?_
  rintro e W (⟨rfl, hq⟩ | ⟨p, n, rfl, hq⟩)
  · obtain ⟨k0, k1, _⟩ := HQ.out _ hq
    have c0 : W.cell? ⟨w.heap.size, 0, none⟩ = some (.int .i64 0) := cell_of_row _ _ 0 _ _ _ k0
    have c1' : W.cell? ⟨w.heap.size + 1, 0, none⟩ = some (.int .i64 0) := cell_of_row _ _ 0 _ _ _ k1
    have f0 : W.frozen? ⟨w.heap.size, 0, none⟩ = false := by simp [World.frozen?, k0]
    have f1 : W.frozen? ⟨w.heap.size + 1, 0, none⟩ = false := by simp [World.frozen?, k1]
    have HH := Lib.hid hq
    clear hq k0 k1
    go_wp2_with fail
    refine leaves_cons (f := 56) (args := #[.pointer (some ⟨w.heap.size, 0, none⟩), .pointer (some ⟨w.heap.size + 1, 0, none⟩)]) (by simp) (by simp [go_sem]) ?_
    refine (caught_idle w.heap.size _).mono ?_
    rintro e u' w'' ⟨rfl, rfl, rfl⟩
    simp [Leaves, settle, results, Tryz.results34, go_sem, c0, c1']
    exact ⟨0, 0, W, W, rfl, .inl ⟨HH.out, rfl, rfl, rfl⟩, rfl⟩
  · obtain ⟨k0, k1, kl⟩ := HQ'.out _ _ _ hq
    have c0 : W.cell? ⟨w.heap.size, 0, none⟩ = some (.int .i64 0) := cell_of_row _ _ 0 _ _ _ k0
    have c1' : W.cell? ⟨w.heap.size + 1, 0, none⟩ = some (.int .i64 0) := cell_of_row _ _ 0 _ _ _ k1
    have f0 : W.frozen? ⟨w.heap.size, 0, none⟩ = false := by simp [World.frozen?, k0]
    have f1 : W.frozen? ⟨w.heap.size + 1, 0, none⟩ = false := by simp [World.frozen?, k1]
    go_wp2_with fail
    refine leaves_cons (f := 56) (args := #[.pointer (some ⟨w.heap.size, 0, none⟩), .pointer (some ⟨w.heap.size + 1, 0, none⟩)]) (by simp) (by simp [go_sem]) ?_
    refine (caught_rec w.heap.size p n _ _ [] W kl c0 c1' f0 f1).mono ?_
    rintro e u' w'' ⟨rfl, rfl, w1, hb, rfl⟩
    have d0 : w1.cell? ⟨w.heap.size, 0, none⟩ = some (.int .i64 0) := (hb.cell (p := ⟨w.heap.size, 0, none⟩) (lt_of_block k0)).trans c0
    have d1 : w1.cell? ⟨w.heap.size + 1, 0, none⟩ = some (.int .i64 0) := (hb.cell (p := ⟨w.heap.size + 1, 0, none⟩) (lt_of_block k1)).trans c1'
    simp [Leaves, settle, results, Tryz.results34, go_sem, d0, d1]
    exact ⟨p, n, W, w1, rfl, .inr ⟨hq, hb⟩, rfl⟩
end Go.Proofs.YtpcladdipgchbaaGreatDoor.nn
