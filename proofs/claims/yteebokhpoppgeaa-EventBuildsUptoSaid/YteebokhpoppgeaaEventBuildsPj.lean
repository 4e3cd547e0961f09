/- For all arguments of its types of bulk at most 1048576 the law EventBuilds returns true, and its arguments read behind the call as they read before. The condition: the bound of the second form alone. -/
import Derived.Test.YteebokhpoppgeaaJa
import Derived.Test.YteebokhpoppgeaaJg
import Derived.Test.YteebokhpoppgeaaJe
import Derived.Test.YteebokhpoppgeaaJk
import Derived.Test.YteebokhpoppgeaaJc
import Derived.Test.YteebokhpoppgeaaJn
import Derived.Test.YteebokhpoppgeaaJx
import Derived.Test.YteebokhpoppgeaaJo
import Derived.Test.YteebokhpoppgeaaJh
import Derived.Test.YteebokhpoppgeaaJb
import Derived.Test.YteebokhpoppgeaaJy
import Derived.Test.YteebokhpoppgeaaJq
import Derived.Test.YteebokhpoppgeaaJp
import Derived.Test.YteebokhpoppgeaaJz
import Derived.Test.YteebokhpoppgeaaJba
import Derived.Test.YteebokhpoppgeaaJr
import Derived.Test.YteebokhpoppgeaaJu
import Derived.Test.YteebokhpoppgeaaJd
import Derived.Test.YteebokhpoppgeaaJi
import Derived.Test.YteebokhpoppgeaaJs
import Derived.Test.YteebokhpoppgeaaJbc

import Derived.OpenShut
import Derived.JoinedCond
namespace Go.Proofs.Yteebokhpoppgeaa
open Go.ChangeShapes Go.WideShapes Go.ChangeAt Go.RowKit Go.ChangeMaps nn

set_option maxRecDepth 100000 in
theorem nn.builds9_contract (H : Type) (enc : TypeId × Value → H) (W : World) (base : Nat) (args : Array Value) (ds gs : List (DataW H)) (before : List MemPlace)
    (hval0 : ∀ (j : Nat) t v, Try.f3.params[j]? = some t → args[j]? = some v → Value.okWide Try.prog W .any base t v)
    (hW : DataW.Whole enc Try.prog Try.f3.params.toList Rows.eventBuildsSpec.vars false W args.toList ds gs before) (hk : Rows.uptoSmall H (ds ++ gs) = true) :
    Calls Try.prog 3 args W fun e W' => ∃ v, e = .returned v ∧ Rows.eventBuildsSpec.post enc Try.prog Try.f3 false true false false W args v W' := by
  have hval : ∀ (j : Nat) t v, Try.f3.params[j]? = some t → args[j]? = some v → Value.okWide Try.prog W .any base t v := hval0
  have hW' := hW
  obtain ⟨p, q, hA0, hV, rfl, _, _⟩ := hW
  have hA : DataW.TrodAll enc Try.prog W 0 (fun _ => true) true Try.f3.params.toList args.toList ds p := hA0
  rw [Try.params3] at hA hval
  obtain ⟨v0, v1, d0, d1, p0, p1, rfl, rfl, rfl, h0, h1⟩ := trodAll_two hA
  obtain ⟨rfl, rfl⟩ := trodVars_none hV
  clear hA0 hval0 hA hV
  simp only [List.append_nil] at hW' hk
  obtain ⟨i0, rfl, rfl, rfl, w0⟩ := open_int Try.underlying3 (hval 0 3 v0 rfl rfl) h0
  have z0 := wf_i64 w0
  have l1 : ∀ x ∈ p1, x.block < W.heap.size := fun x hx => hW'.lt x (by simp [hx])
  obtain ⟨A1, L1, c1, rfl, hR1, hbl1, hw1⟩ := open_evs (okWide_slice Try.underlying22 (hval 1 22 v1 rfl rfl)) h1 l1
  have hb0 := of_decide_eq_true hk
  simp only [Rows.uptoBulkAll, Rows.uptoBulk] at hb0
  refine (builds9_any i0 z0.1 z0.2 A1 L1 c1 W hR1 (by omega) hw1).mono fun e W' ⟨he, hb⟩ => ?_
  subst he
  have r1 := Below.trod Try.laidOut (by kernel_rfl) (of_decide_eq_true (by kernel_rfl)) h1 hb l1
  exact ⟨_, rfl, _, _, _, [], _, [], hW', trodAll_mk1 (shut_bool Try.underlying4 _), trodAll_mk2 (shut_int Try.underlying3 w0) r1, rfl, hb.frame _, fun h => by cases h⟩

set_option maxRecDepth 100000 in
theorem nn.builds9_lifted (os : Os) (started : os.Started) (H : Type) (enc : TypeId × Value → H) (F : Stop.Interp) :
    ReturnsInHanded {} Try.checked os 3 .any ((Rows.OpenSpec.upto Rows.eventBuildsSpec).pre6 enc Try.prog Try.f3 Rows.eventBuildsUptoRow.domain false) (((Rows.OpenSpec.upto Rows.eventBuildsSpec).at F).post enc Try.prog Try.f3 false true false false) := by
  refine returnsInHanded_of_cond (C := Try.checked) (s := Rows.OpenSpec.upto Rows.eventBuildsSpec) (k := Rows.uptoSmall) rfl Try.own started (by kernel_rfl) Try.func3
    (OpenSpec.witness (enc := enc) (C := Try.checked) (s := Rows.OpenSpec.upto Rows.eventBuildsSpec) (k := Rows.uptoSmall) rfl false ⟨#[], #[.int .i64 0, .slice none 0 0], []⟩ 8 (by kernel_rfl) (by kernel_rfl) (by kernel_rfl)
      (x := ([.lit (.int .i64 0), .nil], [], [])) (by kernel_rfl) rfl (by kernel_rfl)) ?_
  intro W base args ds gs before hval hW _ hk _
  exact nn.builds9_contract H enc W base args ds gs before hval hW hk

theorem builds9_holds : Rows.EventBuildsUptoSaid :=
  OpenClaim.holds_of_cond 3 Try.f3 rfl rfl rfl rfl rfl rfl rfl ⟨rfl, rfl, rfl, rfl, rfl⟩ rfl rfl rfl rfl rfl (by kernel_rfl) Try.func3 (by kernel_rfl)
    (of_decide_eq_true (by kernel_rfl)) (by unfold Func.isWrapper; first | (rw [if_pos (by decide +kernel)]; kernel_rfl) | (rw [if_neg (by decide +kernel)]; exact ⟨rfl, rfl⟩))
    (fun os started H enc _ F => nn.builds9_lifted os started H enc F)
end Go.Proofs.Yteebokhpoppgeaa
