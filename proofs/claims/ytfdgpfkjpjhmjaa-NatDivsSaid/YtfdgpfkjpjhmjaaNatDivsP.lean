/- For every three arguments of its types the law NatDivs returns true, and all arguments read behind the call as they read before. No condition. -/
import Derived.Test.YtfdgpfkjpjhmjaaNatDivsW
import Derived.Test.YtfdgpfkjpjhmjaaOpen
namespace Go.Proofs.Ytfdgpfkjpjhmjaa
open Go.ChangeShapes Go.WideShapes Go.ChangeAt Go.RowKit nn

set_option maxRecDepth 100000 in
theorem nn.divs_lifted (os : Os) (started : os.Started) (H : Type) (enc : TypeId × Value → H) :
    ReturnsInHanded {} Try.checked os 6 .any (Rows.natDivsSpec.pre6 enc Try.prog Try.f6 Rows.natDivsRow.domain false) (Rows.natDivsSpec.post enc Try.prog Try.f6 false true false false) := by
  refine returnsInHanded_of_change_sized (C := Try.checked) Try.own started (by kernel_rfl) Try.func6
    (ChangeSpec.witness6 (enc := enc) (C := Try.checked) false ⟨#[], #[.slice none 0 0, .slice none 0 0, .int .u32 0], []⟩ 8 (by kernel_rfl) (by kernel_rfl) (by kernel_rfl) (by kernel_rfl)) ?_
  intro W base args ds gs before hval0 hW _ hsz0 _
  have hsz : (DataW.weightsEach Try.prog (Try.f6.params.toList ++ Rows.natDivsSpec.plain.varTypes Try.prog) (ds ++ gs)).all (· ≤ reachBytes) = true := hsz0
  clear hsz0
  have hval : ∀ (j : Nat) t v, Try.f6.params[j]? = some t → args[j]? = some v → Value.okWide Try.prog W .any base t v := hval0
  have hW' := hW
  obtain ⟨p, q, hA0, hV, rfl, _, _⟩ := hW
  have hA : DataW.TrodAll enc Try.prog W 0 (fun _ => true) true Try.f6.params.toList args.toList ds p := hA0
  rw [Try.params6] at hA hval hsz
  obtain ⟨v0, v1, v2, d0, d1, d2, p0, p1, p2, rfl, rfl, rfl, h0, h1, h2⟩ := trodAll_three hA
  obtain ⟨rfl, rfl⟩ := trodVars_none hV
  clear hA0 hval0 hA hV
  simp only [List.append_nil] at hW'
  have hlt0 : ∀ x ∈ p0, x.block < W.heap.size := fun x hx => hW'.lt x (by simp [hx])
  have hlt1 : ∀ x ∈ p1, x.block < W.heap.size := fun x hx => hW'.lt x (by simp [hx])
  obtain ⟨A, n, c, f, rfl, hr, lf, hn, hc⟩ := open_row (okWide_slice Try.underlying22 (hval 0 22 v0 rfl rfl)) h0 hlt0 (fun e s hd => by
    have := sized_slice hsz (j := 0) (t := 22) (e := 35) (elems := e) (spare := s) rfl (by rw [hd]; rfl) Try.underlying22
    rw [Try.bytes32] at this
    exact this)
  obtain ⟨B, m, d, g, rfl, hs, lg, hm, hd⟩ := open_row (okWide_slice Try.underlying22 (hval 1 22 v1 rfl rfl)) h1 hlt1 (fun e s hd => by
    have := sized_slice hsz (j := 1) (t := 22) (e := 35) (elems := e) (spare := s) rfl (by rw [hd]; rfl) Try.underlying22
    rw [Try.bytes32] at this
    exact this)
  obtain ⟨z, rfl, rfl, rfl, wz⟩ := open_int Try.underlying35 (hval 2 35 v2 rfl rfl) h2
  have hz := wf_u32 wz
  obtain ⟨zn, rfl⟩ := Int.eq_ofNat_of_zero_le hz.1
  refine (divs_any A B n m c d zn f g W hr lf hn hc hs lg hm hd (by omega)).mono fun e W' ⟨he, hb⟩ => ?_
  subst he
  have r0 := Below.trod Try.laidOut (by kernel_rfl) (of_decide_eq_true (by kernel_rfl)) h0 hb hlt0
  have r1 := Below.trod Try.laidOut (by kernel_rfl) (of_decide_eq_true (by kernel_rfl)) h1 hb hlt1
  exact ⟨_, rfl, _, _, _, [], _, [], hW', trodAll_mk1 (shut_bool Try.underlying4 _), trodAll_mk3 r0 r1 (shut_int Try.underlying35 wz), rfl, hb.frame _, fun h => by cases h⟩

theorem divs_holds : Rows.NatDivsSaid :=
  OpenClaim.holds_of_wide 6 Try.f6 rfl rfl rfl rfl rfl rfl rfl ⟨rfl, rfl, rfl, rfl, rfl⟩ rfl rfl rfl rfl rfl (by kernel_rfl) Try.func6 (by kernel_rfl)
    (of_decide_eq_true (by kernel_rfl)) (by unfold Func.isWrapper; first | (rw [if_pos (by decide +kernel)]; kernel_rfl) | (rw [if_neg (by decide +kernel)]; exact ⟨rfl, rfl⟩))
    (fun os started H enc _ => nn.divs_lifted os started H enc)
end Go.Proofs.Ytfdgpfkjpjhmjaa
