/- The walk of FbitsTurns. -/
import Derived.Test.YtkgejncolchobaaFbitsLaws
namespace Go.Proofs.Ytkgejncolchobaa.nn
open Go.RowKit

set_option maxRecDepth 100000 in
theorem turns_any (k : Int) (_ : -9223372036854775808 ≤ k) (_ : k ≤ 9223372036854775807) (x : Nat) (hx : x < 18446744073709551616) (w : World) :
    Calls Try.prog 4 #[.int .i64 k, .int .u64 (x : Int)] w fun r w' => r = .returned (.bool true) ∧ Below w.heap.size w w' := by
  have H1 := Lib.hid (fun w => fwiden_any k x w hx)
  have H2 := Lib.hid (fun w => rwiden_any k x w hx)
  have H3 := Lib.hid (fun w => fnarrow_any k x w hx)
  have H4 := Lib.hid (fun w => rnarrow_any k x w hx)
  unfold WiAns at H1 H2
  unfold NrAns at H3 H4
  obtain ⟨a, ha⟩ : ∃ a, wiV k x = a := ⟨_, rfl⟩
  obtain ⟨b, hb⟩ : ∃ b, paE k x = b := ⟨_, rfl⟩
  obtain ⟨c, hc⟩ : ∃ c, nrV k x = c := ⟨_, rfl⟩
  obtain ⟨d, hd⟩ : ∃ d, nrO k x = d := ⟨_, rfl⟩
  obtain ⟨e, he⟩ : ∃ e, nrE k = e := ⟨_, rfl⟩
  rw [ha, hb] at H1 H2
  rw [hc, hd, he] at H3 H4
  clear ha hb hc hd he
  go_enter Try.func4, Try.ntmps4
  go_wp2_with fail
  refine (H1.out _).mono ?_
  rintro r w1 ⟨rfl, b1⟩
  go_wp2_with fail
  refine (H2.out _).mono ?_
  rintro r w2 ⟨rfl, b2⟩
  go_wp2_with fail
  refine (H3.out _).mono ?_
  rintro r w3 ⟨rfl, b3⟩
  go_wp2_with fail
  refine (H4.out _).mono ?_
  rintro r w4 ⟨rfl, b4⟩
  go_wp2_with fail
  refine (awake5_any _).mono ?_
  rintro r w5 ⟨rfl, b5⟩
  go_wp2_with fail
  go_ret
  have c2 := b1.trans (b2.mono b1.size)
  have c3 := c2.trans (b3.mono c2.size)
  have c4 := c3.trans (b4.mono c3.size)
  exact ⟨rfl, c4.trans (b5.mono c4.size)⟩
end Go.Proofs.Ytkgejncolchobaa.nn
