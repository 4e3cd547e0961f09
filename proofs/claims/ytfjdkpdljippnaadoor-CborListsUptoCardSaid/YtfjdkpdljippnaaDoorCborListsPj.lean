/- For all arguments of its types of bulk at most 1048576 the law CborLists returns true, and its arguments read behind the call as they read before. The conditions: the bound of the second form, and the variable errors.errorType holds what the program's text lays there (tied by the card). -/
import Derived.Test.YtfjdkpdljippnaaDoorCards
import Derived.Test.YtfjdkpdljippnaaDoorTie
import Derived.Test.YtfjdkpdljippnaaDoorJs
import Derived.Test.YtfjdkpdljippnaaDoorJa
import Derived.Test.YtfjdkpdljippnaaDoorJe
import Derived.Test.YtfjdkpdljippnaaDoorJl
import Derived.Test.YtfjdkpdljippnaaDoorJk
import Derived.Test.YtfjdkpdljippnaaDoorJc
import Derived.Test.YtfjdkpdljippnaaDoorJm
import Derived.Test.YtfjdkpdljippnaaDoorJq
import Derived.Test.YtfjdkpdljippnaaDoorJn
import Derived.Test.YtfjdkpdljippnaaDoorJo
import Derived.Test.YtfjdkpdljippnaaDoorJp
import Derived.Test.YtfjdkpdljippnaaDoorJr
import Derived.Test.YtfjdkpdljippnaaDoorJf
import Derived.Test.YtfjdkpdljippnaaDoorJh
import Derived.Test.YtfjdkpdljippnaaDoorJb
import Derived.Test.YtfjdkpdljippnaaDoorJt
import Derived.Test.YtfjdkpdljippnaaDoorJv
import Derived.Test.YtfjdkpdljippnaaDoorJu


import Derived.WalkKit
import Derived.ChangeMaps5
namespace Go.Proofs.YtfjdkpdljippnaaDoor
open Go.ChangeShapes Go.WideShapes Go.ChangeAt Go.RowKit Go.ChangeMaps nn

theorem nn.clists_reads (os : Os) {H : Type} (enc : TypeId × Value → H) : ∃ places, DataW.whole enc Tryd.prog ((laidW os).forCall (fun _ _ => 0) ⟨#[], #[.agg #[.int .i64 0, .bool false, .int .u64 0, .string ByteArray.empty, .slice none 0 0], .agg #[.int .i64 0, .bool false, .int .u64 0, .string ByteArray.empty, .slice none 0 0], .bool false], []⟩).memory Tryd.f5.params.toList Rows.cborListsSpec.vars false #[(.agg #[.int .i64 0, .bool false, .int .u64 0, .string ByteArray.empty, .slice none 0 0] : Value), (.agg #[.int .i64 0, .bool false, .int .u64 0, .string ByteArray.empty, .slice none 0 0] : Value), (.bool false : Value)].toList 8 = some ([.agg [.lit (.int .i64 0), .lit (.bool false), .lit (.int .u64 0), .lit (.string []), .nil], .agg [.lit (.int .i64 0), .lit (.bool false), .lit (.int .u64 0), .lit (.string []), .nil], .lit (.bool false)], [], places) :=
  ⟨[], by kernel_rfl⟩

set_option maxRecDepth 100000 in
theorem nn.clists_lifted (os : Os) (started : os.Started) (H : Type) (enc : TypeId × Value → H) (F : Stop.Interp) :
    ReturnsInHanded {} Tryd.checked os 5 .any ((Rows.OpenSpec.upto Rows.cborListsSpec).preRow enc Tryd.prog Tryd.f5 Rows.cborListsUptoRow.domain false Rows.cborListsUptoRow.laid) (((Rows.OpenSpec.upto Rows.cborListsSpec).at F).post enc Tryd.prog Tryd.f5 false true false false) := by
  obtain ⟨places, hx⟩ := clists_reads os enc
  refine returnsInHanded_of_row (C := Tryd.checked) (s := (Rows.OpenSpec.upto Rows.cborListsSpec)) Tryd.own started (by kernel_rfl) Tryd.func5
    (witness_row_at (enc := enc) (C := Tryd.checked) false (laidW os) #[.agg #[.int .i64 0, .bool false, .int .u64 0, .string ByteArray.empty, .slice none 0 0], .agg #[.int .i64 0, .bool false, .int .u64 0, .string ByteArray.empty, .slice none 0 0], .bool false] rfl (by kernel_rfl) (by kernel_rfl) (by kernel_rfl)
      (OpenSpec.preRow_of_cond 8 hx (by kernel_rfl) (fun k hk => by cases hk; kernel_rfl) (by kernel_rfl) (laidW_met os _))) ?_
  intro W base args ds gs before hval0 hW _ hcond _ hL _ _
  have hlaid := lh_laid hL
  have hval : ∀ (j : Nat) t v, Tryd.f5.params[j]? = some t → args[j]? = some v → Value.okWide Tryd.prog W .any base t v := hval0
  have hW' : DataW.Whole enc Tryd.prog Tryd.f5.params.toList Rows.cborListsSpec.vars false W args.toList ds gs before := hW
  clear hW
  have hW := hW'
  obtain ⟨p, q, hA0, hV, rfl, _, _⟩ := hW
  have hA : DataW.TrodAll enc Tryd.prog W 0 (fun _ => true) true Tryd.f5.params.toList args.toList ds p := hA0
  rw [Tryd.params5] at hA hval
  obtain ⟨v0, v1, v2, d0, d1, d2, p0, p1, p2, rfl, rfl, rfl, h0, h1, h2⟩ := trodAll_three hA
  obtain ⟨rfl, rfl⟩ := trodVars_none hV
  have hk : Rows.uptoSmall H _ = true := hcond _ rfl
  clear hA0 hval0 hA hV
  simp only [List.append_nil] at hW' hk
  have l0 : ∀ x ∈ p0, x.block < W.heap.size := fun x hx => hW'.lt x (by simp [hx])
  obtain ⟨t0, C0, rfl, hL0, hbl0, hw0⟩ := open_val (hval 0 25 v0 rfl rfl) h0 l0
  have l1 : ∀ x ∈ p1, x.block < W.heap.size := fun x hx => hW'.lt x (by simp [hx])
  obtain ⟨t1, C1, rfl, hL1, hbl1, hw1⟩ := open_val (hval 1 25 v1 rfl rfl) h1 l1
  obtain ⟨b2, rfl, rfl, rfl⟩ := open_bool Tryd.underlying4 (hval 2 4 v2 rfl rfl) h2
  have hb0 := of_decide_eq_true hk
  simp only [Rows.uptoBulkAll, Rows.uptoBulk] at hb0
  refine (clists_any t0 C0 t1 C1 b2 W hL0 hw0 hL1 hw1 (by omega) hlaid).mono fun e W' ⟨he, hb⟩ => ?_
  subst he
  have r0 := Below.trod Tryd.laidOut (by kernel_rfl) (of_decide_eq_true (by kernel_rfl)) h0 hb l0
  have r1 := Below.trod Tryd.laidOut (by kernel_rfl) (of_decide_eq_true (by kernel_rfl)) h1 hb l1
  exact ⟨_, rfl, _, _, _, [], _, [], hW', trodAll_mk1 (shut_bool Tryd.underlying4 _), trodAll_mk3 r0 r1 (shut_bool Tryd.underlying4 b2), rfl, hb.frame _, fun h => by cases h⟩

theorem nn.clists_said : Rows.CborListsUptoSaid :=
  OpenClaim.holds_of_cond 5 Tryd.f5 rfl rfl rfl rfl rfl rfl rfl ⟨rfl, rfl, rfl, rfl, rfl⟩ rfl rfl rfl rfl rfl (by kernel_rfl) Tryd.func5 (by kernel_rfl)
    (of_decide_eq_true (by kernel_rfl)) (by unfold Func.isWrapper; first | (rw [if_pos (by decide +kernel)]; kernel_rfl) | (rw [if_neg (by decide +kernel)]; exact ⟨rfl, rfl⟩))
    (fun os started H enc _ F => by rw [OpenClaim.pre_eq_preRow]; exact nn.clists_lifted os started H enc F)

theorem nn.clists_plain (f : FuncId) (fn : Func) (hf : Tryd.pinned.checked.prog.funcNamed "glossator/glossatorlaw11.CborLists" = some f) (hfn : Tryd.pinned.checked.prog.funcs[f]? = some fn) :
    true = Tryd.pinned.checked.prog.looks [] ∧ ∀ (j : Nat) t, fn.params[j]? = some t → Tryd.pinned.checked.prog.wantsStandIn t = false := by
  obtain rfl : f = 5 := Option.some.inj ((show Tryd.prog.funcNamed "glossator/glossatorlaw11.CborLists" = some 5 by kernel_rfl).symm.trans hf) |>.symm
  obtain rfl : fn = Tryd.f5 := (Option.some.inj (Tryd.func5.symm.trans hfn)).symm
  refine ⟨by kernel_rfl, fun j t ht => ?_⟩
  rw [Tryd.params5] at ht
  have hm := Array.mem_of_getElem? ht
  simp only [List.mem_toArray, List.mem_cons, List.not_mem_nil, or_false] at hm
  rcases hm with rfl | rfl | rfl
  · exact (show Tryd.prog.wantsStandIn 25 = false by kernel_rfl)
  · exact (show Tryd.prog.wantsStandIn 25 = false by kernel_rfl)
  · exact (show Tryd.prog.wantsStandIn 4 = false by kernel_rfl)

/-- the card -/
theorem lists11_card : Rows.CborListsUptoCardSaid :=
  Claim7.holds_tied_plain_at .later [] _ _ _ _ nn.clists_said (fun _ h => by cases h) (by kernel_rfl) (fun _ h => by cases h) cborListsUpto_row_tie rfl ⟨rfl, rfl⟩ (by kernel_rfl) rfl nn.clists_plain (by kernel_rfl)
end Go.Proofs.YtfjdkpdljippnaaDoor
