/- For all arguments of its type the law NumWhole returns true, and its argument reads behind the call as it read before; the listed tables hold what the program's text lays there. -/
import Derived.Test.YtljbnnpmnoejeaaGreatDoorCards
import Derived.Test.YtljbnnpmnoejeaaGreatDoorTie
import Derived.Test.YtljbnnpmnoejeaaGreatDoorJa
import Derived.Test.YtljbnnpmnoejeaaGreatDoorJb
import Derived.Test.YtljbnnpmnoejeaaGreatDoorJc
import Derived.Test.YtljbnnpmnoejeaaGreatDoorJd
import Derived.Test.YtljbnnpmnoejeaaGreatDoorJk
import Derived.Test.YtljbnnpmnoejeaaGreatDoorJg
import Derived.Test.YtljbnnpmnoejeaaGreatDoorJl
import Derived.Test.YtljbnnpmnoejeaaGreatDoorJm
import Derived.Test.YtljbnnpmnoejeaaGreatDoorJf
import Derived.Test.YtljbnnpmnoejeaaGreatDoorJe
import Derived.Test.YtljbnnpmnoejeaaGreatDoorJh
import Derived.Test.YtljbnnpmnoejeaaGreatDoorJn
import Derived.Test.YtljbnnpmnoejeaaGreatDoorJs
import Derived.Test.YtljbnnpmnoejeaaGreatDoorJq
import Derived.WalkKit
import Derived.ChangeMaps5

namespace Go.Proofs.YtljbnnpmnoejeaaGreatDoor
open Go.ChangeShapes Go.WideShapes Go.ChangeAt Go.RowKit Go.ChangeMaps nn

theorem nn.nwholesL_met (os : Os) : laidMet Tryz.prog Rows.numWholeRow.laid ((laidW os).forCall (fun _ _ => 0) ⟨#[], #[.int .u64 0], []⟩).memory :=
  laidMet_of_run' 8 (by kernel_rfl) (by kernel_rfl)
theorem nn.nwholesL_reads (os : Os) {H : Type} (enc : TypeId × Value → H) : ∃ places, DataW.whole enc Tryz.prog ((laidW os).forCall (fun _ _ => 0) ⟨#[], #[.int .u64 0], []⟩).memory Tryz.f6.params.toList Rows.numWholeSpec.vars false #[(.int .u64 0 : Value)].toList 8 = some ([.lit (.int .u64 0)], [], places) :=
  ⟨[], by kernel_rfl⟩

set_option maxRecDepth 100000 in
theorem nn.nwholesL_lifted (os : Os) (started : os.Started) (H : Type) (enc : TypeId × Value → H) (F : Stop.Interp) :
    ReturnsInHanded {} Tryz.checked os 6 .any ((OpenSpec.ofChange Rows.numWholeSpec).preRow enc Tryz.prog Tryz.f6 Rows.numWholeRow.domain false Rows.numWholeRow.laid) (((OpenSpec.ofChange Rows.numWholeSpec).at F).post enc Tryz.prog Tryz.f6 false true false false) := by
  obtain ⟨places, hx⟩ := nwholesL_reads os enc
  refine returnsInHanded_of_row (C := Tryz.checked) (s := OpenSpec.ofChange Rows.numWholeSpec) Tryz.own started (by kernel_rfl) Tryz.func6
    (witness_row_at (enc := enc) (C := Tryz.checked) false (laidW os) #[.int .u64 0] rfl (by kernel_rfl) (by kernel_rfl) (by kernel_rfl)
      (OpenSpec.preRow_of_cond 8 hx (by kernel_rfl) (fun k hk => by cases hk) (by kernel_rfl) (nwholesL_met os))) ?_
  intro W base args ds gs before hval0 hW _ _ hsz0 _ _ _
  have hsz : (DataW.weightsEach Tryz.prog (Tryz.f6.params.toList ++ Rows.numWholeSpec.plain.varTypes Tryz.prog) (ds ++ gs)).all (· ≤ reachBytes) = true := hsz0
  clear hsz0
  have hval : ∀ (j : Nat) t v, Tryz.f6.params[j]? = some t → args[j]? = some v → Value.okWide Tryz.prog W .any base t v := hval0
  have hW' : DataW.Whole enc Tryz.prog Tryz.f6.params.toList Rows.numWholeSpec.vars false W args.toList ds gs before := hW
  clear hW
  have hW := hW'
  obtain ⟨p, q, hA0, hV, rfl, _, _⟩ := hW
  have hA : DataW.TrodAll enc Tryz.prog W 0 (fun _ => true) true Tryz.f6.params.toList args.toList ds p := hA0
  rw [Tryz.params6] at hA hval hsz
  obtain ⟨v0, d0, rfl, rfl, h0⟩ := trodAll_one hA
  obtain ⟨rfl, rfl⟩ := trodVars_none hV
  clear hA0 hval0 hA hV
  simp only [List.append_nil] at hW'
  obtain ⟨i0, rfl, rfl, rfl, w0⟩ := open_int Tryz.underlying22 (hval 0 22 v0 rfl rfl) h0
  have z0 := wf_u64 w0
  obtain ⟨u0, rfl⟩ := Int.eq_ofNat_of_zero_le z0.1
  refine (nwholesL_any u0 (Int.ofNat_lt.1 z0.2) W).mono fun e W' ⟨he, hb⟩ => ?_
  subst he
  exact ⟨_, rfl, _, _, _, [], _, [], hW', trodAll_mk1 (shut_bool Tryz.underlying4 _), trodAll_mk1 (shut_int Tryz.underlying22 w0), rfl, hb.frame _, fun h => by cases h⟩

theorem nn.nwholesL_said : Rows.NumWholeSaid :=
  OpenClaim.holds_of_cond 6 Tryz.f6 rfl rfl rfl rfl rfl rfl rfl ⟨rfl, rfl, rfl, rfl, rfl⟩ rfl rfl rfl rfl rfl (by kernel_rfl) Tryz.func6 (by kernel_rfl)
    (of_decide_eq_true (by kernel_rfl)) (by unfold Func.isWrapper; first | (rw [if_pos (by decide +kernel)]; kernel_rfl) | (rw [if_neg (by decide +kernel)]; exact ⟨rfl, rfl⟩))
    (fun os started H enc _ F => by rw [OpenClaim.pre_eq_preRow]; exact nn.nwholesL_lifted os started H enc F)

theorem nn.nwholesL_plain (f : FuncId) (fn : Func) (hf : Tryz.pinned.checked.prog.funcNamed "glossator/glossatorlaw07.NumWhole" = some f) (hfn : Tryz.pinned.checked.prog.funcs[f]? = some fn) :
    false = Tryz.pinned.checked.prog.looks [] ∧ ∀ (j : Nat) t, fn.params[j]? = some t → Tryz.pinned.checked.prog.wantsStandIn t = false := by
  obtain rfl : f = 6 := Option.some.inj ((show Tryz.prog.funcNamed "glossator/glossatorlaw07.NumWhole" = some 6 by kernel_rfl).symm.trans hf) |>.symm
  obtain rfl : fn = Tryz.f6 := (Option.some.inj (Tryz.func6.symm.trans hfn)).symm
  refine ⟨by kernel_rfl, fun j t ht => ?_⟩
  rw [Tryz.params6] at ht
  have hm := Array.mem_of_getElem? ht
  simp only [List.mem_toArray, List.mem_cons, List.not_mem_nil, or_false] at hm
  rcases hm with rfl
  exact (show Tryz.prog.wantsStandIn 22 = false by kernel_rfl)

/-- the card -/
theorem whole_card : Rows.NumWholeCardSaid :=
  Claim7.holds_tied_plain_at .later [] _ _ _ _ nn.nwholesL_said (fun _ h => by cases h) (by kernel_rfl) (fun _ h => by cases h) numWhole_row_tie rfl ⟨rfl, rfl⟩ (by kernel_rfl) rfl nn.nwholesL_plain (by kernel_rfl)
end Go.Proofs.YtljbnnpmnoejeaaGreatDoor
