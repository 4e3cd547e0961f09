/- Joined texts, what is wanted of them: OpenE. -/
import Derived.Test.YthlpiaoofijfpaaProg
import Derived.WalkKit
import Derived.Lib.Hide
import Derived.Deep.CutBlock
import Derived.Lib.MinMax
import Derived.IntWalk
import Derived.BigQuiet
import Derived.Deep.QuietTactic
import Derived.StillTailTactics
import Derived.Deep.RegionHeld3
import Derived.Test.YthlpiaoofijfpaaJa
import Derived.Test.YthlpiaoofijfpaaJi
import Derived.Test.YthlpiaoofijfpaaJk
namespace Go.Proofs.Ythlpiaoofijfpaa.nn
open Go.ChangeShapes Go.WideShapes Go.ChangeAt Go.RowKit

theorem Try.cellsE : Try.prog.cellsOf 47 = 4 := by kernel_rfl
/-- an event's numbers are as they are handed over -/
def evOk (e : Ev) : Prop := -9223372036854775808 ≤ e.k ∧ e.k ≤ 9223372036854775807 ∧ e.n < 18446744073709551616
section
variable {H : Type} {enc : TypeId × Value → H} {W : World}
set_option maxRecDepth 100000 in
/-- an event's four cells -/
theorem open_ecells {fuel : Nat} {cs : List Value} {x : DataW H × List MemPlace} (h : DataW.trod enc Try.prog W 0 (fun _ => true) true fuel 47 cs = some x) :
    ∃ e : Ev, cs = evC e ∧ evOk e ∧ Rows.uptoBulk x.1 = e.s.size + 5 ∧ e.s.size ≤ maxLen := by
  obtain ⟨xs, n, _, hx, hlen, hxl, hf⟩ := DataW.trod_struct Try.underlying47 h
  rw [Try.cellsE] at hlen
  match cs, hlen with
  | [c0, c1, c2, c3], _ =>
    match xs, hxl with
    | [y0, y1, y2, y3], _ =>
      have f0 := hf 0 _ rfl
      have f1 := hf 1 _ rfl
      have f2 := hf 2 _ rfl
      have f3 := hf 3 _ rfl
      simp only [List.getElem?_cons_zero, List.getElem?_cons_succ] at f0 f1 f2 f3
      obtain ⟨k, e0, z0, w0⟩ := DataW.trod_int Try.underlying3 f0
      obtain ⟨g, e1, z1⟩ := DataW.trod_bool Try.underlying4 f1
      obtain ⟨u, e2, z2, w2⟩ := DataW.trod_int Try.underlying22 f2
      obtain ⟨s, e3, z3, w3⟩ := DataW.trod_string Try.underlying9 f3
      have hk := wf_i64 w0
      have hu := wf_u64 w2
      obtain ⟨m, rfl⟩ := Int.eq_ofNat_of_zero_le hu.1
      injection e0 with e0 _
      injection e1 with e1 _
      injection e2 with e2 _
      injection e3 with e3 _
      subst e0 e1 e2 e3 z0 z1 z2 z3 hx
      refine ⟨⟨k, g, m, s⟩, rfl, ⟨hk.1, hk.2, by show m < _; omega⟩, ?_, ?_⟩
      · simp only [List.map_cons, List.map_nil, Rows.uptoBulk, Rows.uptoBulkAll, Array.length_toList]
        show _ = s.data.size + 5
        omega
      · exact w3
set_option maxRecDepth 100000 in
/-- an argument that is an event -/
theorem open_ev {base : Nat} {v : Value} {d : DataW H} {p : List MemPlace} (hok : Value.okWide Try.prog W .any base 47 v) (h : DataW.Trod enc Try.prog W 0 (fun _ => true) true 47 v d p) :
    ∃ e : Ev, v = evv e ∧ evOk e ∧ e.s.size + 5 ≤ Rows.uptoBulk d ∧ e.s.size ≤ maxLen := by
  obtain ⟨cs, rfl, hsz⟩ := okWide_struct Try.underlying47 hok
  obtain ⟨fuel, hf⟩ := h
  have hcl : (Value.agg cs).cells.toList = cs.toList := by simp [Value.cells]
  rw [hcl] at hf
  obtain ⟨e, hcs, hw, hbk, hs⟩ := open_ecells hf
  refine ⟨e, ?_, hw, ?_, hs⟩
  · unfold evv
    congr 1
    rw [← Array.toArray_toList (xs := cs), hcs]
    rfl
  · dsimp only at hbk
    omega
end
end Go.Proofs.Ythlpiaoofijfpaa.nn
