/- The walk of FbitsInts. -/
import Derived.Test.YtkgejncolchobaaFbitsLaws
import Derived.Test.YtkgejncolchobaaFbitsReal3
namespace Go.Proofs.Ytkgejncolchobaa.nn
open Go.RowKit

set_option maxRecDepth 100000 in
theorem ints_any (x : Nat) (hx : x < 18446744073709551616) (neg : Bool) (n : Nat) (hn : n < 18446744073709551616) (w : World) :
    Calls Try.prog 5 #[.int .u64 (x : Int), .bool neg, .int .u64 (n : Int)] w fun r w' => r = .returned (.bool true) ∧ Below w.heap.size w w' := by
  have H1 := Lib.hid (fun w => fexact_any x w hx)
  have H2 := Lib.hid (fun w => rexact_any x w hx)
  have H3 := Lib.hid (fun w => fint_any x w hx)
  have H4 := Lib.hid (fun w => rint_any x w hx)
  have H5 := Lib.hid (fun w => ffromInt_any neg n w hn)
  have H6 := Lib.hid (fun w => rfromInt_any neg n w hn)
  have H7 := Lib.hid (fun w => fleast_any x w hx)
  have H8 := Lib.hid (fun w => rleast_any x w hx)
  unfold XaAns at H1 H2
  unfold InAns at H3 H4
  unfold FiAns at H6
  unfold LeAns at H7 H8
  obtain ⟨a, ha⟩ : ∃ a, xaS x = a := ⟨_, rfl⟩
  obtain ⟨b, hb⟩ : ∃ b, xaM x = b := ⟨_, rfl⟩
  obtain ⟨c, hc⟩ : ∃ c, xaE x = c := ⟨_, rfl⟩
  obtain ⟨d, hd⟩ : ∃ d, xaO x = d := ⟨_, rfl⟩
  obtain ⟨e, he⟩ : ∃ e, (inR x).1 = e := ⟨_, rfl⟩
  obtain ⟨f, hf⟩ : ∃ f, (inR x).2.1 = f := ⟨_, rfl⟩
  obtain ⟨g, hg⟩ : ∃ g, (inR x).2.2 = g := ⟨_, rfl⟩
  obtain ⟨h, hh⟩ : ∃ h, fiV neg (fiN neg n) = h := ⟨_, rfl⟩
  obtain ⟨i, hi⟩ : ∃ i, fiO (fiN neg n) = i := ⟨_, rfl⟩
  obtain ⟨j, hj⟩ : ∃ j, leW x = j := ⟨_, rfl⟩
  obtain ⟨k, hk⟩ : ∃ k, leB x = k := ⟨_, rfl⟩
  rw [ha, hb, hc, hd] at H1 H2
  rw [he, hf, hg] at H3 H4
  rw [hh, hi] at H5 H6
  rw [hj, hk] at H7 H8
  clear ha hb hc hd he hf hg hh hi hj hk
  go_enter Try.func5, Try.ntmps5
  go_wp2_with fail
  refine (H1.out _).mono ?_
  rintro r w1 ⟨rfl, b1⟩
  go_wp2_with fail
  refine (H2.out _).mono ?_
  rintro r w2 ⟨rfl, b2⟩
  have c2 := Lib.hid (b1.trans (b2.mono b1.size))
  clear b1 b2
  go_wp2_with fail
  refine (H3.out _).mono ?_
  rintro r w3 ⟨rfl, b3⟩
  have c3 := Lib.hid (c2.out.trans (b3.mono c2.out.size))
  clear b3 c2
  go_wp2_with fail
  refine (H4.out _).mono ?_
  rintro r w4 ⟨rfl, b4⟩
  have c4 := Lib.hid (c3.out.trans (b4.mono c3.out.size))
  clear b4 c3
  go_wp2_with fail
  refine (H5.out _).mono ?_
  rintro r w5 ⟨rfl, b5⟩
  have c5 := Lib.hid (c4.out.trans (b5.mono c4.out.size))
  clear b5 c4
  go_wp2_with fail
  refine (H6.out _).mono ?_
  rintro r w6 ⟨rfl, rfl⟩
  go_wp2_with fail
  refine (H7.out _).mono ?_
  rintro r w7 ⟨rfl, b7⟩
  have c7 := Lib.hid (c5.out.trans (b7.mono c5.out.size))
  clear b7 c5
  go_wp2_with fail
  refine (H8.out _).mono ?_
  rintro r w8 ⟨rfl, b8⟩
  have c8 := Lib.hid (c7.out.trans (b8.mono c7.out.size))
  clear b8 c7
  go_wp2_with fail
  refine (awake5_any _).mono ?_
  rintro r w9 ⟨rfl, b9⟩
  have c9 := Lib.hid (c8.out.trans (b9.mono c8.out.size))
  clear b9 c8
  go_wp2_with fail
  go_ret
  exact ⟨rfl, c9.out⟩
end Go.Proofs.Ytkgejncolchobaa.nn
