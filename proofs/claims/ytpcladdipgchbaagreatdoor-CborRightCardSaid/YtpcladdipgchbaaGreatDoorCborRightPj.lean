/- For all arguments of its types the law CborRight returns true, and its arguments read behind the call as they read before. The conditions: the variable errors.errorType holds what the program's text lays there (tied by the card). -/
import Derived.Test.YtpcladdipgchbaaGreatDoorCards
import Derived.Test.YtpcladdipgchbaaGreatDoorTie
import Derived.Test.YtpcladdipgchbaaGreatDoorSh
import Derived.Test.YtpcladdipgchbaaGreatDoorSd
import Derived.Test.YtpcladdipgchbaaGreatDoorSa
import Derived.Test.YtpcladdipgchbaaGreatDoorSc
import Derived.Test.YtpcladdipgchbaaGreatDoorSi
import Derived.Test.YtpcladdipgchbaaGreatDoorSj
import Derived.Test.YtpcladdipgchbaaGreatDoorSv
import Derived.Test.YtpcladdipgchbaaGreatDoorSe
import Derived.Test.YtpcladdipgchbaaGreatDoorSx
import Derived.Test.YtpcladdipgchbaaGreatDoorSg
import Derived.Test.YtpcladdipgchbaaGreatDoorSo
import Derived.Test.YtpcladdipgchbaaGreatDoorSf
import Derived.Test.YtpcladdipgchbaaGreatDoorSb
import Derived.Test.YtpcladdipgchbaaGreatDoorSp
import Derived.Test.YtpcladdipgchbaaGreatDoorSt
import Derived.Test.YtpcladdipgchbaaGreatDoorSq
import Derived.Test.YtpcladdipgchbaaGreatDoorSr
import Derived.Test.YtpcladdipgchbaaGreatDoorSs
import Derived.Test.YtpcladdipgchbaaGreatDoorSu
import Derived.Test.YtpcladdipgchbaaGreatDoorSw
import Derived.Test.YtpcladdipgchbaaGreatDoorTk
import Derived.Test.YtpcladdipgchbaaGreatDoorTl
import Derived.Test.YtpcladdipgchbaaGreatDoorSl
import Derived.Test.YtpcladdipgchbaaGreatDoorSm
import Derived.Test.YtpcladdipgchbaaGreatDoorSn
import Derived.Test.YtpcladdipgchbaaGreatDoorSz
import Derived.Test.YtpcladdipgchbaaGreatDoorSy
import Derived.Test.YtpcladdipgchbaaGreatDoorTa
import Derived.Test.YtpcladdipgchbaaGreatDoorTb
import Derived.Test.YtpcladdipgchbaaGreatDoorTc
import Derived.Test.YtpcladdipgchbaaGreatDoorTd
import Derived.Test.YtpcladdipgchbaaGreatDoorTe
import Derived.Test.YtpcladdipgchbaaGreatDoorTf
import Derived.Test.YtpcladdipgchbaaGreatDoorTi
import Derived.Test.YtpcladdipgchbaaGreatDoorTg

import Derived.WalkKit
import Derived.ChangeMaps5
namespace Go.Proofs.YtpcladdipgchbaaGreatDoor
open Go.ChangeShapes Go.WideShapes Go.ChangeAt Go.RowKit Go.ChangeMaps nn

theorem nn.cright_reads (os : Os) {H : Type} (enc : TypeId × Value → H) : ∃ places, DataW.whole enc Tryz.prog ((laidW os).forCall (fun _ _ => 0) ⟨#[], #[.slice none 0 0, .agg #[.int .i64 0, .int .i64 0, .bool false]], []⟩).memory Tryz.f4.params.toList Rows.cborRightSpec.vars false #[(.slice none 0 0 : Value), (.agg #[.int .i64 0, .int .i64 0, .bool false] : Value)].toList 8 = some ([.nil, .agg [.lit (.int .i64 0), .lit (.int .i64 0), .lit (.bool false)]], [], places) :=
  ⟨[], by kernel_rfl⟩

set_option maxRecDepth 100000 in
theorem nn.cright_lifted (os : Os) (started : os.Started) (H : Type) (enc : TypeId × Value → H) (F : Stop.Interp) :
    ReturnsInHanded {} Tryz.checked os 4 .any ((OpenSpec.ofChange Rows.cborRightSpec).preRow enc Tryz.prog Tryz.f4 Rows.cborRightRow.domain false Rows.cborRightRow.laid) (((OpenSpec.ofChange Rows.cborRightSpec).at F).post enc Tryz.prog Tryz.f4 false true false false) := by
  obtain ⟨places, hx⟩ := cright_reads os enc
  refine returnsInHanded_of_row (C := Tryz.checked) (s := (OpenSpec.ofChange Rows.cborRightSpec)) Tryz.own started (by kernel_rfl) Tryz.func4
    (witness_row_at (enc := enc) (C := Tryz.checked) false (laidW os) #[.slice none 0 0, .agg #[.int .i64 0, .int .i64 0, .bool false]] rfl (by kernel_rfl) (by kernel_rfl) (by kernel_rfl)
      (OpenSpec.preRow_of_cond 8 hx (by kernel_rfl) (fun k hk => by cases hk) (by kernel_rfl) (laidW_met os _))) ?_
  intro W base args ds gs before hval0 hW _ _ hsz0 hL _ _
  have hlaid := lh_laid hL
  have hval : ∀ (j : Nat) t v, Tryz.f4.params[j]? = some t → args[j]? = some v → Value.okWide Tryz.prog W .any base t v := hval0
  have hW' : DataW.Whole enc Tryz.prog Tryz.f4.params.toList Rows.cborRightSpec.vars false W args.toList ds gs before := hW
  clear hW
  have hW := hW'
  obtain ⟨p, q, hA0, hV, rfl, _, _⟩ := hW
  have hA : DataW.TrodAll enc Tryz.prog W 0 (fun _ => true) true Tryz.f4.params.toList args.toList ds p := hA0
  have hsz : (DataW.weightsEach Tryz.prog (Tryz.f4.params.toList ++ Rows.cborRightSpec.plain.varTypes Tryz.prog) (ds ++ gs)).all (· ≤ reachBytes) = true := hsz0
  rw [Tryz.params4] at hA hval hsz
  obtain ⟨v0, v1, d0, d1, p0, p1, rfl, rfl, rfl, h0, h1⟩ := trodAll_two hA
  obtain ⟨rfl, rfl⟩ := trodVars_none hV
  clear hA0 hval0 hA hV
  simp only [List.append_nil] at hW'
  have l0 : ∀ x ∈ p0, x.block < W.heap.size := fun x hx => hW'.lt x (by simp [hx])
  obtain ⟨a0, n0, c0, f0, rfl, hr0, hf0, hnc0, hfm0, hh0⟩ := open_bytes (hval 0 28 v0 rfl rfl) h0 l0
  have z0 := held_reach hsz (j := 0) rfl rfl hh0
  have l1 : ∀ x ∈ p1, x.block < W.heap.size := fun x hx => hW'.lt x (by simp [hx])
  obtain ⟨i1, k1, o1, rfl, hi1, hk1⟩ := open_lim (hval 1 38 v1 rfl rfl) h1
  refine (cright_any a0 n0 c0 f0 hf0 z0 hnc0 hfm0 i1 k1 o1 hi1 hk1 W hr0 hlaid).mono fun e W' ⟨he, hb⟩ => ?_
  subst he
  have r0 := Below.trod Tryz.laidOut (by kernel_rfl) (of_decide_eq_true (by kernel_rfl)) h0 hb l0
  have r1 := Below.trod Tryz.laidOut (by kernel_rfl) (of_decide_eq_true (by kernel_rfl)) h1 hb l1
  exact ⟨_, rfl, _, _, _, [], _, [], hW', trodAll_mk1 (shut_bool Tryz.underlying4 _), trodAll_mk2 r0 r1, rfl, hb.frame _, fun h => by cases h⟩

theorem nn.cright_said : Rows.CborRightSaid :=
  OpenClaim.holds_of_cond 4 Tryz.f4 rfl rfl rfl rfl rfl rfl rfl ⟨rfl, rfl, rfl, rfl, rfl⟩ rfl rfl rfl rfl rfl (by kernel_rfl) Tryz.func4 (by kernel_rfl)
    (of_decide_eq_true (by kernel_rfl)) (by unfold Func.isWrapper; first | (rw [if_pos (by decide +kernel)]; kernel_rfl) | (rw [if_neg (by decide +kernel)]; exact ⟨rfl, rfl⟩))
    (fun os started H enc _ F => by rw [OpenClaim.pre_eq_preRow]; exact nn.cright_lifted os started H enc F)

theorem nn.cright_plain (f : FuncId) (fn : Func) (hf : Tryz.pinned.checked.prog.funcNamed "glossator/glossatorlaw11.CborRight" = some f) (hfn : Tryz.pinned.checked.prog.funcs[f]? = some fn) :
    true = Tryz.pinned.checked.prog.looks [] ∧ ∀ (j : Nat) t, fn.params[j]? = some t → Tryz.pinned.checked.prog.wantsStandIn t = false := by
  obtain rfl : f = 4 := Option.some.inj ((show Tryz.prog.funcNamed "glossator/glossatorlaw11.CborRight" = some 4 by kernel_rfl).symm.trans hf) |>.symm
  obtain rfl : fn = Tryz.f4 := (Option.some.inj (Tryz.func4.symm.trans hfn)).symm
  refine ⟨by kernel_rfl, fun j t ht => ?_⟩
  rw [Tryz.params4] at ht
  have hm := Array.mem_of_getElem? ht
  simp only [List.mem_toArray, List.mem_cons, List.not_mem_nil, or_false] at hm
  rcases hm with rfl | rfl
  · exact (show Tryz.prog.wantsStandIn 28 = false by kernel_rfl)
  · exact (show Tryz.prog.wantsStandIn 38 = false by kernel_rfl)

/-- the card -/
theorem right11_card : Rows.CborRightCardSaid :=
  Claim7.holds_tied_plain_at .later [] _ _ _ _ nn.cright_said (fun _ h => by cases h) (by kernel_rfl) (fun _ h => by cases h) cborRight_row_tie rfl ⟨rfl, rfl⟩ (by kernel_rfl) rfl nn.cright_plain (by kernel_rfl)
end Go.Proofs.YtpcladdipgchbaaGreatDoor
