/- The walk of FbitsLeast. -/
import Derived.Test.YtkgejncolchobaaFbitsLaws
import Derived.Test.YtkgejncolchobaaFbitsReal3
import Derived.Test.YtkgejncolchobaaFbNum2
namespace Go.Proofs.Ytkgejncolchobaa.nn
open Go.RowKit

theorem pa_ok {k : Int} {x : Nat} (h : fits k x) : paE k x = 0 := if_pos h
theorem le_facts {x : Nat} (hx : x < 18446744073709551616) : ∃ (k : Int) (b : Nat), ((leW x : Nat) : Int) = k ∧ leB x = b ∧ b < 18446744073709551616 ∧ fits k b ∧ wiV k b = x ∧ (clC k b = clC 64 x ∨ clC k b = 1 ∧ clC 64 x = 2) ∧ (k = 16 ∨ (k = 32 ∧ nrO 16 x = false) ∨ (k = 64 ∧ nrO 32 x = false)) := by
  unfold leW leB
  by_cases h1 : nrO 16 x = true
  · rw [if_pos h1, if_pos h1]
    obtain ⟨a1, a2, a3, a4⟩ := nr_forth (k := 16) (by unfold wOk; omega) hx h1
    exact ⟨16, _, rfl, rfl, a1, a2, a3, a4, .inl rfl⟩
  · have e1 : nrO 16 x = false := by simpa using h1
    rw [if_neg h1, if_neg h1]
    by_cases h2 : nrO 32 x = true
    · rw [if_pos h2, if_pos h2]
      obtain ⟨a1, a2, a3, a4⟩ := nr_forth (k := 32) (by unfold wOk; omega) hx h2
      exact ⟨32, _, rfl, rfl, a1, a2, a3, a4, .inr (.inl ⟨rfl, e1⟩)⟩
    · have e2 : nrO 32 x = false := by simpa using h2
      rw [if_neg h2, if_neg h2]
      obtain ⟨a1, a2, a3, a4⟩ := nr_forth (k := 64) (x := x) (by unfold wOk; omega) hx rfl
      exact ⟨64, _, rfl, rfl, a1, a2, a3, a4, .inr (.inr ⟨rfl, e2⟩)⟩
set_option maxRecDepth 100000 in
set_option maxHeartbeats 1000000 in
theorem least_any (x : Nat) (hx : x < 18446744073709551616) (w : World) :
    Calls Try.prog 7 #[.int .u64 (x : Int)] w fun r w' => r = .returned (.bool true) ∧ Below w.heap.size w w' := by
  obtain ⟨k, b, e1, e2, hb, hf, e3, hcl, hk⟩ := le_facts hx
  have H1 := Lib.hid (fun w => fleast_any x w hx)
  have H2 := Lib.hid (fun w => fwiden_any k b w hb)
  have H3 := Lib.hid (fun w => fclass_any k b w hb)
  have H4 := Lib.hid (fun w => fclass_any 64 x w hx)
  have h5 := fun j => Lib.hid (fun w => fnarrow_any j x w hx)
  unfold LeAns at H1
  unfold WiAns at H2
  unfold ClAns at H3 H4
  unfold NrAns at h5
  rw [e1, e2] at H1
  rw [e3, pa_ok hf] at H2
  rw [pa_ok hf] at H3
  rw [pa_ok (fits64 x)] at H4
  obtain ⟨c, hc⟩ : ∃ c, clC k b = c := ⟨_, rfl⟩
  obtain ⟨d, hd⟩ : ∃ d, clC 64 x = d := ⟨_, rfl⟩
  rw [hc] at H3 hcl
  rw [hd] at H4 hcl
  clear hc hd e1 e2 e3 hf
  have hcd : (c = d) ∨ (((c : Int) == (d : Int)) = false ∧ c = 1 ∧ d = 2) := by
    rcases hcl with h | ⟨rfl, rfl⟩
    · exact .inl h
    · exact .inr ⟨rfl, rfl, rfl⟩
  clear hcl
  rcases hk with rfl | ⟨rfl, hn⟩ | ⟨rfl, hn⟩
  · clear h5
    rcases hcd with rfl | ⟨_, rfl, rfl⟩
    all_goals
      go_enter Try.func7, Try.ntmps7
      go_wp2_with fail
      refine (H1.out _).mono ?_
      rintro r w1 ⟨rfl, b1⟩
      go_wp2_with fail
      refine (H2.out _).mono ?_
      rintro r w2 ⟨rfl, b2⟩
      have c2 := Lib.hid (b1.trans (b2.mono b1.size))
      clear b1 b2
      go_wp2_with fail
      refine (H3.out _).mono ?_
      rintro r w3 ⟨rfl, b3⟩
      have c3 := Lib.hid (c2.out.trans (b3.mono c2.out.size))
      clear b3 c2
      go_wp2_with fail
      refine (H4.out _).mono ?_
      rintro r w4 ⟨rfl, b4⟩
      have c4 := Lib.hid (c3.out.trans (b4.mono c3.out.size))
      clear b4 c3
      go_wp2_with fail
      refine (awake5_any _).mono ?_
      rintro r w9 ⟨rfl, b9⟩
      have c9 := Lib.hid (c4.out.trans (b9.mono c4.out.size))
      clear b9 c4
      go_wp2_with fail
      go_ret
      exact ⟨rfl, c9.out⟩
  · have H5 := h5 16
    obtain ⟨v, hv⟩ : ∃ v, nrV 16 x = v := ⟨_, rfl⟩
    rw [hn, hv, show nrE 16 = 0 from rfl] at H5
    clear h5 hv hn
    rcases hcd with rfl | ⟨_, rfl, rfl⟩
    all_goals
      go_enter Try.func7, Try.ntmps7
      go_wp2_with fail
      refine (H1.out _).mono ?_
      rintro r w1 ⟨rfl, b1⟩
      go_wp2_with fail
      refine (H2.out _).mono ?_
      rintro r w2 ⟨rfl, b2⟩
      have c2 := Lib.hid (b1.trans (b2.mono b1.size))
      clear b1 b2
      go_wp2_with fail
      refine (H3.out _).mono ?_
      rintro r w3 ⟨rfl, b3⟩
      have c3 := Lib.hid (c2.out.trans (b3.mono c2.out.size))
      clear b3 c2
      go_wp2_with fail
      refine (H4.out _).mono ?_
      rintro r w4 ⟨rfl, b4⟩
      have c4 := Lib.hid (c3.out.trans (b4.mono c3.out.size))
      clear b4 c3
      go_wp2_with fail
      refine (H5.out _).mono ?_
      rintro r w5 ⟨rfl, b5⟩
      have c5 := Lib.hid (c4.out.trans (b5.mono c4.out.size))
      clear b5 c4
      go_wp2_with fail
      refine (awake5_any _).mono ?_
      rintro r w9 ⟨rfl, b9⟩
      have c9 := Lib.hid (c5.out.trans (b9.mono c5.out.size))
      clear b9 c5
      go_wp2_with fail
      go_ret
      exact ⟨rfl, c9.out⟩
  · have H5 := h5 32
    obtain ⟨v, hv⟩ : ∃ v, nrV 32 x = v := ⟨_, rfl⟩
    rw [hn, hv, show nrE 32 = 0 from rfl] at H5
    clear h5 hv hn
    rcases hcd with rfl | ⟨_, rfl, rfl⟩
    all_goals
      go_enter Try.func7, Try.ntmps7
      go_wp2_with fail
      refine (H1.out _).mono ?_
      rintro r w1 ⟨rfl, b1⟩
      go_wp2_with fail
      refine (H2.out _).mono ?_
      rintro r w2 ⟨rfl, b2⟩
      have c2 := Lib.hid (b1.trans (b2.mono b1.size))
      clear b1 b2
      go_wp2_with fail
      refine (H3.out _).mono ?_
      rintro r w3 ⟨rfl, b3⟩
      have c3 := Lib.hid (c2.out.trans (b3.mono c2.out.size))
      clear b3 c2
      go_wp2_with fail
      refine (H4.out _).mono ?_
      rintro r w4 ⟨rfl, b4⟩
      have c4 := Lib.hid (c3.out.trans (b4.mono c3.out.size))
      clear b4 c3
      go_wp2_with fail
      refine (H5.out _).mono ?_
      rintro r w5 ⟨rfl, b5⟩
      have c5 := Lib.hid (c4.out.trans (b5.mono c4.out.size))
      clear b5 c4
      go_wp2_with fail
      refine (awake5_any _).mono ?_
      rintro r w9 ⟨rfl, b9⟩
      have c9 := Lib.hid (c5.out.trans (b9.mono c5.out.size))
      clear b9 c5
      go_wp2_with fail
      go_ret
      exact ⟨rfl, c9.out⟩
end Go.Proofs.Ytkgejncolchobaa.nn
