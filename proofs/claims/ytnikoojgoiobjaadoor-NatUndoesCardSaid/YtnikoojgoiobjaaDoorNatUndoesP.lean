/- For every three arguments of its types the law NatUndoes returns true, and all arguments read behind the call as they read before; the listed tables hold what the program's text lays there. -/
import Derived.Test.YtnikoojgoiobjaaDoorCards
import Derived.Test.YtnikoojgoiobjaaDoorTie
import Derived.Test.YtnikoojgoiobjaaDoorNatUndoesW
import Derived.Test.YtnikoojgoiobjaaDoorLaid
import Derived.WalkKit
namespace Go.Proofs.YtnikoojgoiobjaaDoor
open Go.ChangeShapes Go.WideShapes Go.ChangeAt Go.RowKit nn

theorem nn.undoes_met (os : Os) : laidMet Tryd.prog Rows.natUndoesRow.laid ((laidWorld os).forCall (fun _ _ => 0) ⟨#[], #[.slice none 0 0, .slice none 0 0, .int .u16 0], []⟩).memory :=
  laidMet_of_run' 8 (by kernel_rfl) (by kernel_rfl)
theorem nn.undoes_reads (os : Os) {H : Type} (enc : TypeId × Value → H) : ∃ places, DataW.whole enc Tryd.prog ((laidWorld os).forCall (fun _ _ => 0) ⟨#[], #[.slice none 0 0, .slice none 0 0, .int .u16 0], []⟩).memory Tryd.f4.params.toList Rows.natUndoesSpec.vars false #[Value.slice none 0 0, Value.slice none 0 0, Value.int .u16 0].toList 8 = some ([.nil, .nil, .lit (.int .u16 0)], [], places) :=
  ⟨[], by kernel_rfl⟩

set_option maxRecDepth 100000 in
theorem nn.undoes_lifted (os : Os) (started : os.Started) (H : Type) (enc : TypeId × Value → H) (F : Stop.Interp) :
    ReturnsInHanded {} Tryd.checked os 4 .any ((OpenSpec.ofChange Rows.natUndoesSpec).preRow enc Tryd.prog Tryd.f4 Rows.natUndoesRow.domain false Rows.natUndoesRow.laid) (((OpenSpec.ofChange Rows.natUndoesSpec).at F).post enc Tryd.prog Tryd.f4 false true false false) := by
  obtain ⟨places, hx⟩ := undoes_reads os enc
  refine returnsInHanded_of_row (C := Tryd.checked) (s := OpenSpec.ofChange Rows.natUndoesSpec) Tryd.own started (by kernel_rfl) Tryd.func4
    (witness_row_at (enc := enc) (C := Tryd.checked) false (laidWorld os) #[.slice none 0 0, .slice none 0 0, .int .u16 0] rfl (by kernel_rfl) (by kernel_rfl) (by kernel_rfl)
      (OpenSpec.preRow_of_cond 8 hx (by kernel_rfl) (fun k hk => by cases hk) (by kernel_rfl) (undoes_met os))) ?_
  intro W base args ds gs before hval0 hW _ _ hsz0 hL _ _
  have hsz : (DataW.weightsEach Tryd.prog (Tryd.f4.params.toList ++ Rows.natUndoesSpec.plain.varTypes Tryd.prog) (ds ++ gs)).all (· ≤ reachBytes) = true := hsz0
  clear hsz0
  have ht : Pow10 W := pow10_of hL
  have hval : ∀ (j : Nat) t v, Tryd.f4.params[j]? = some t → args[j]? = some v → Value.okWide Tryd.prog W .any base t v := hval0
  have hW' : DataW.Whole enc Tryd.prog Tryd.f4.params.toList Rows.natUndoesSpec.vars false W args.toList ds gs before := hW
  clear hW
  have hW := hW'
  obtain ⟨p, q, hA0, hV, rfl, _, _⟩ := hW
  have hA : DataW.TrodAll enc Tryd.prog W 0 (fun _ => true) true Tryd.f4.params.toList args.toList ds p := hA0
  rw [Tryd.params4] at hA hval hsz
  obtain ⟨v0, v1, v2, d0, d1, d2, p0, p1, p2, rfl, rfl, rfl, h0, h1, h2⟩ := trodAll_three hA
  obtain ⟨rfl, rfl⟩ := trodVars_none hV
  clear hA0 hval0 hA hV
  simp only [List.append_nil] at hW'
  have hlt0 : ∀ x ∈ p0, x.block < W.heap.size := fun x hx => hW'.lt x (by simp [hx])
  have hlt1 : ∀ x ∈ p1, x.block < W.heap.size := fun x hx => hW'.lt x (by simp [hx])
  obtain ⟨A, n, c, f, rfl, hr, lf, hn, hc⟩ := open_row (okWide_slice Tryd.underlying22 (hval 0 22 v0 rfl rfl)) h0 hlt0 (fun e s hd => by
    have := sized_slice hsz (j := 0) (t := 22) (e := 45) (elems := e) (spare := s) rfl (by rw [hd]; rfl) Tryd.underlying22
    rw [Tryd.bytes32] at this
    exact this)
  obtain ⟨B, m, d, g, rfl, hs, lg, hm, hd⟩ := open_row (okWide_slice Tryd.underlying22 (hval 1 22 v1 rfl rfl)) h1 hlt1 (fun e s hd => by
    have := sized_slice hsz (j := 1) (t := 22) (e := 45) (elems := e) (spare := s) rfl (by rw [hd]; rfl) Tryd.underlying22
    rw [Tryd.bytes32] at this
    exact this)
  obtain ⟨z, rfl, rfl, rfl, wz⟩ := open_int Tryd.underlying39 (hval 2 39 v2 rfl rfl) h2
  have hz := wf_u16 wz
  obtain ⟨zn, rfl⟩ := Int.eq_ofNat_of_zero_le hz.1
  refine (undoes_any A B n m c d zn f g W hr lf hn hc hs lg hm hd (by omega) ht).mono fun e W' ⟨he, hb⟩ => ?_
  subst he
  have r0 := Below.trod Tryd.laidOut (by kernel_rfl) (of_decide_eq_true (by kernel_rfl)) h0 hb hlt0
  have r1 := Below.trod Tryd.laidOut (by kernel_rfl) (of_decide_eq_true (by kernel_rfl)) h1 hb hlt1
  exact ⟨_, rfl, _, _, _, [], _, [], hW', trodAll_mk1 (shut_bool Tryd.underlying4 _), trodAll_mk3 r0 r1 (shut_int Tryd.underlying39 wz), rfl, hb.frame _, fun h => by cases h⟩

theorem nn.undoes_said : Rows.NatUndoesSaid :=
  OpenClaim.holds_of_cond 4 Tryd.f4 rfl rfl rfl rfl rfl rfl rfl ⟨rfl, rfl, rfl, rfl, rfl⟩ rfl rfl rfl rfl rfl (by kernel_rfl) Tryd.func4 (by kernel_rfl)
    (of_decide_eq_true (by kernel_rfl)) (by unfold Func.isWrapper; first | (rw [if_pos (by decide +kernel)]; kernel_rfl) | (rw [if_neg (by decide +kernel)]; exact ⟨rfl, rfl⟩))
    (fun os started H enc _ F => by rw [OpenClaim.pre_eq_preRow]; exact nn.undoes_lifted os started H enc F)

theorem nn.undoes_plain (f : FuncId) (fn : Func) (hf : Tryd.pinned.checked.prog.funcNamed "glossator/glossatorlaw01.NatUndoes" = some f) (hfn : Tryd.pinned.checked.prog.funcs[f]? = some fn) :
    false = Tryd.pinned.checked.prog.looks [] ∧ ∀ (j : Nat) t, fn.params[j]? = some t → Tryd.pinned.checked.prog.wantsStandIn t = false := by
  obtain rfl : f = 4 := Option.some.inj ((show Tryd.prog.funcNamed "glossator/glossatorlaw01.NatUndoes" = some 4 by kernel_rfl).symm.trans hf) |>.symm
  obtain rfl : fn = Tryd.f4 := (Option.some.inj (Tryd.func4.symm.trans hfn)).symm
  refine ⟨by kernel_rfl, fun j t ht => ?_⟩
  rw [Tryd.params4] at ht
  have hm := Array.mem_of_getElem? ht
  simp only [List.mem_toArray, List.mem_cons, List.not_mem_nil, or_false] at hm
  rcases hm with rfl | rfl | rfl
  · exact (show Tryd.prog.wantsStandIn 22 = false by kernel_rfl)
  · exact (show Tryd.prog.wantsStandIn 22 = false by kernel_rfl)
  · exact (show Tryd.prog.wantsStandIn 39 = false by kernel_rfl)

/-- the card -/
theorem undoes_card : Rows.NatUndoesCardSaid :=
  Claim7.holds_tied_plain_at .later [] _ _ _ _ nn.undoes_said (fun _ h => by cases h) (by kernel_rfl) (fun _ h => by cases h) natUndoes_row_tie rfl ⟨rfl, rfl⟩ (by kernel_rfl) rfl nn.undoes_plain (by kernel_rfl)
end Go.Proofs.YtnikoojgoiobjaaDoor
