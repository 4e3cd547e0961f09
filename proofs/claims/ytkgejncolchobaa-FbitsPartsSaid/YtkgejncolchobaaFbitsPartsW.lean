/- The walk of FbitsParts. -/
import Derived.Test.YtkgejncolchobaaFbitsLaws
namespace Go.Proofs.Ytkgejncolchobaa.nn
open Go.RowKit

set_option maxRecDepth 100000 in
theorem parts_any (k : Int) (_ : -9223372036854775808 ≤ k) (_ : k ≤ 9223372036854775807) (x : Nat) (hx : x < 18446744073709551616) (w : World) :
    Calls Try.prog 3 #[.int .i64 k, .int .u64 (x : Int)] w fun r w' => r = .returned (.bool true) ∧ Below w.heap.size w w' := by
  have H1 := Lib.hid (fun w => fclass_any k x w hx)
  have H2 := Lib.hid (fun w => rclass_any k x w hx)
  have H3 := Lib.hid (fun w => fparts_any k x w hx)
  have H4 : Hid (∀ w, Calls Try.prog 13 #[.int .i64 k, .int .u64 (x : Int)] w fun e W' => e = .returned (.tuple #[.bool (paS k x), .int .i64 (paX k x : Int), .int .u64 (paF k x : Int), .int .i64 (paE k x : Int)]) ∧ Below w.heap.size w W') := Lib.hid fun w => (rparts_any k x w hx).mono fun e W' ⟨he, n, hn⟩ => ⟨he, by rw [hn]; exact drewN_below (Below.refl _ _) n⟩
  unfold ClAns at H1 H2
  obtain ⟨a, ha⟩ : ∃ a, clC k x = a := ⟨_, rfl⟩
  obtain ⟨b, hb⟩ : ∃ b, paE k x = b := ⟨_, rfl⟩
  obtain ⟨c, hc⟩ : ∃ c, paS k x = c := ⟨_, rfl⟩
  obtain ⟨d, hd⟩ : ∃ d, paX k x = d := ⟨_, rfl⟩
  obtain ⟨e, he⟩ : ∃ e, paF k x = e := ⟨_, rfl⟩
  rw [ha, hb] at H1 H2
  rw [hb, hc, hd, he] at H3 H4
  clear ha hb hc hd he
  go_enter Try.func3, Try.ntmps3
  go_wp2_with fail
  refine (H1.out _).mono ?_
  rintro r w1 ⟨rfl, b1⟩
  go_wp2_with fail
  refine (H2.out _).mono ?_
  rintro r w2 ⟨rfl, b2⟩
  go_wp2_with fail
  refine (H3.out _).mono ?_
  rintro r w3 ⟨rfl, b3⟩
  go_wp2_with fail
  refine (H4.out _).mono ?_
  rintro r w4 ⟨rfl, b4⟩
  go_wp2_with fail
  refine (awake5_any _).mono ?_
  rintro r w5 ⟨rfl, b5⟩
  go_wp2_with fail
  go_ret
  have c2 := b1.trans (b2.mono b1.size)
  have c3 := c2.trans (b3.mono c2.size)
  have c4 := c3.trans (b4.mono c3.size)
  exact ⟨rfl, c4.trans (b5.mono c4.size)⟩
end Go.Proofs.Ytkgejncolchobaa.nn
