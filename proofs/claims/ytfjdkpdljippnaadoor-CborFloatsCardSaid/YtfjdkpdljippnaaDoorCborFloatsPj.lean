/- For all arguments of its types the law CborFloats returns true, and its arguments read behind the call as they read before. The conditions: the variable errors.errorType holds what the program's text lays there (tied by the card). -/
import Derived.Test.YtfjdkpdljippnaaDoorCards
import Derived.Test.YtfjdkpdljippnaaDoorTie
import Derived.Test.YtfjdkpdljippnaaDoorJs
import Derived.Test.YtfjdkpdljippnaaDoorJa
import Derived.Test.YtfjdkpdljippnaaDoorJe
import Derived.Test.YtfjdkpdljippnaaDoorJl
import Derived.Test.YtfjdkpdljippnaaDoorJk
import Derived.Test.YtfjdkpdljippnaaDoorJc
import Derived.Test.YtfjdkpdljippnaaDoorJm
import Derived.Test.YtfjdkpdljippnaaDoorJq
import Derived.Test.YtfjdkpdljippnaaDoorJn
import Derived.Test.YtfjdkpdljippnaaDoorJo
import Derived.Test.YtfjdkpdljippnaaDoorJp
import Derived.Test.YtfjdkpdljippnaaDoorJr
import Derived.Test.YtfjdkpdljippnaaDoorJf
import Derived.Test.YtfjdkpdljippnaaDoorJh
import Derived.Test.YtfjdkpdljippnaaDoorJb
import Derived.Test.YtfjdkpdljippnaaDoorJt
import Derived.Test.YtfjdkpdljippnaaDoorJu



import Derived.WalkKit
import Derived.ChangeMaps5
namespace Go.Proofs.YtfjdkpdljippnaaDoor
open Go.ChangeShapes Go.WideShapes Go.ChangeAt Go.RowKit Go.ChangeMaps nn

theorem nn.cfloats_reads (os : Os) {H : Type} (enc : TypeId × Value → H) : ∃ places, DataW.whole enc Tryd.prog ((laidW os).forCall (fun _ _ => 0) ⟨#[], #[.int .u64 0, .int .u8 0], []⟩).memory Tryd.f4.params.toList Rows.cborFloatsSpec.vars false #[(.int .u64 0 : Value), (.int .u8 0 : Value)].toList 8 = some ([.lit (.int .u64 0), .lit (.int .u8 0)], [], places) :=
  ⟨[], by kernel_rfl⟩

set_option maxRecDepth 100000 in
theorem nn.cfloats_lifted (os : Os) (started : os.Started) (H : Type) (enc : TypeId × Value → H) (F : Stop.Interp) :
    ReturnsInHanded {} Tryd.checked os 4 .any ((OpenSpec.ofChange Rows.cborFloatsSpec).preRow enc Tryd.prog Tryd.f4 Rows.cborFloatsRow.domain false Rows.cborFloatsRow.laid) (((OpenSpec.ofChange Rows.cborFloatsSpec).at F).post enc Tryd.prog Tryd.f4 false true false false) := by
  obtain ⟨places, hx⟩ := cfloats_reads os enc
  refine returnsInHanded_of_row (C := Tryd.checked) (s := (OpenSpec.ofChange Rows.cborFloatsSpec)) Tryd.own started (by kernel_rfl) Tryd.func4
    (witness_row_at (enc := enc) (C := Tryd.checked) false (laidW os) #[.int .u64 0, .int .u8 0] rfl (by kernel_rfl) (by kernel_rfl) (by kernel_rfl)
      (OpenSpec.preRow_of_cond 8 hx (by kernel_rfl) (fun k hk => by cases hk) (by kernel_rfl) (laidW_met os _))) ?_
  intro W base args ds gs before hval0 hW _ _ _ hL _ _
  have hlaid := lh_laid hL
  have hval : ∀ (j : Nat) t v, Tryd.f4.params[j]? = some t → args[j]? = some v → Value.okWide Tryd.prog W .any base t v := hval0
  have hW' : DataW.Whole enc Tryd.prog Tryd.f4.params.toList Rows.cborFloatsSpec.vars false W args.toList ds gs before := hW
  clear hW
  have hW := hW'
  obtain ⟨p, q, hA0, hV, rfl, _, _⟩ := hW
  have hA : DataW.TrodAll enc Tryd.prog W 0 (fun _ => true) true Tryd.f4.params.toList args.toList ds p := hA0
  rw [Tryd.params4] at hA hval
  obtain ⟨v0, v1, d0, d1, p0, p1, rfl, rfl, rfl, h0, h1⟩ := trodAll_two hA
  obtain ⟨rfl, rfl⟩ := trodVars_none hV
  clear hA0 hval0 hA hV
  simp only [List.append_nil] at hW'
  obtain ⟨i0, rfl, rfl, rfl, w0⟩ := open_int Tryd.underlying22 (hval 0 22 v0 rfl rfl) h0
  have z0 := wf_u64 w0
  obtain ⟨u0, rfl⟩ := Int.eq_ofNat_of_zero_le z0.1
  obtain ⟨i1, rfl, rfl, rfl, w1⟩ := open_int Tryd.underlying5 (hval 1 5 v1 rfl rfl) h1
  have z1 := wf_u8 w1
  obtain ⟨u1, rfl⟩ := Int.eq_ofNat_of_zero_le z1.1
  refine (cfloats_any u0 (Int.ofNat_lt.1 z0.2) u1 (Int.ofNat_lt.1 z1.2) W hlaid).mono fun e W' ⟨he, hb⟩ => ?_
  subst he
  exact ⟨_, rfl, _, _, _, [], _, [], hW', trodAll_mk1 (shut_bool Tryd.underlying4 _), trodAll_mk2 (shut_int Tryd.underlying22 w0) (shut_int Tryd.underlying5 w1), rfl, hb.frame _, fun h => by cases h⟩

theorem nn.cfloats_said : Rows.CborFloatsSaid :=
  OpenClaim.holds_of_cond 4 Tryd.f4 rfl rfl rfl rfl rfl rfl rfl ⟨rfl, rfl, rfl, rfl, rfl⟩ rfl rfl rfl rfl rfl (by kernel_rfl) Tryd.func4 (by kernel_rfl)
    (of_decide_eq_true (by kernel_rfl)) (by unfold Func.isWrapper; first | (rw [if_pos (by decide +kernel)]; kernel_rfl) | (rw [if_neg (by decide +kernel)]; exact ⟨rfl, rfl⟩))
    (fun os started H enc _ F => by rw [OpenClaim.pre_eq_preRow]; exact nn.cfloats_lifted os started H enc F)

theorem nn.cfloats_plain (f : FuncId) (fn : Func) (hf : Tryd.pinned.checked.prog.funcNamed "glossator/glossatorlaw11.CborFloats" = some f) (hfn : Tryd.pinned.checked.prog.funcs[f]? = some fn) :
    true = Tryd.pinned.checked.prog.looks [] ∧ ∀ (j : Nat) t, fn.params[j]? = some t → Tryd.pinned.checked.prog.wantsStandIn t = false := by
  obtain rfl : f = 4 := Option.some.inj ((show Tryd.prog.funcNamed "glossator/glossatorlaw11.CborFloats" = some 4 by kernel_rfl).symm.trans hf) |>.symm
  obtain rfl : fn = Tryd.f4 := (Option.some.inj (Tryd.func4.symm.trans hfn)).symm
  refine ⟨by kernel_rfl, fun j t ht => ?_⟩
  rw [Tryd.params4] at ht
  have hm := Array.mem_of_getElem? ht
  simp only [List.mem_toArray, List.mem_cons, List.not_mem_nil, or_false] at hm
  rcases hm with rfl | rfl
  · exact (show Tryd.prog.wantsStandIn 22 = false by kernel_rfl)
  · exact (show Tryd.prog.wantsStandIn 5 = false by kernel_rfl)

/-- the card -/
theorem floats11_card : Rows.CborFloatsCardSaid :=
  Claim7.holds_tied_plain_at .later [] _ _ _ _ nn.cfloats_said (fun _ h => by cases h) (by kernel_rfl) (fun _ h => by cases h) cborFloats_row_tie rfl ⟨rfl, rfl⟩ (by kernel_rfl) rfl nn.cfloats_plain (by kernel_rfl)
end Go.Proofs.YtfjdkpdljippnaaDoor
