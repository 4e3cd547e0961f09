/- The walk of UtfChecks. -/
import Derived.Test.YtakbahhoiggmhaaWithin
import Derived.Test.YtakbahhoiggmhaaPoint
namespace Go.Proofs.Ytakbahhoiggmhaa.nn
open Go.RowKit

set_option maxRecDepth 100000 in
set_option maxHeartbeats 1000000 in
theorem checks_walk (s : ByteArray) (n : Int) (w : World) (a e c g : Nat)
    (h1 : Hid (∀ w, Calls Try.prog 10 #[.string s] w fun r w' => r = .returned (.tuple #[.int .i64 (a : Int), .int .i64 (e : Int)]) ∧ Below w.heap.size w w'))
    (h2 : Hid (∀ w, Calls Try.prog 11 #[.string s] w fun r w' => r = .returned (.tuple #[.int .i64 (a : Int), .int .i64 (e : Int)]) ∧ Below w.heap.size w w'))
    (h3 : Hid (∀ w, Calls Try.prog 12 #[.string s, .int .i64 n] w fun r w' => r = .returned (.tuple #[.int .i64 (c : Int), .int .i64 (g : Int)]) ∧ Below w.heap.size w w'))
    (h4 : Hid (∀ w, Calls Try.prog 13 #[.string s, .int .i64 n] w fun r w' => r = .returned (.tuple #[.int .i64 (c : Int), .int .i64 (g : Int)]) ∧ Below w.heap.size w w')) :
    Calls Try.prog 3 #[.string s, .int .i64 n] w fun r w' => r = .returned (.bool true) ∧ Below w.heap.size w w' := by
  go_enter Try.func3, Try.ntmps3
  go_wp2_with fail
  refine (h1.out _).mono ?_
  rintro r w1 ⟨rfl, b1⟩
  go_wp2_with fail
  refine (h2.out _).mono ?_
  rintro r w2 ⟨rfl, b2⟩
  go_wp2_with fail
  refine (h3.out _).mono ?_
  rintro r w3 ⟨rfl, b3⟩
  go_wp2_with fail
  refine (h4.out _).mono ?_
  rintro r w4 ⟨rfl, b4⟩
  go_wp2_with fail
  refine (awake_any _).mono ?_
  rintro r w5 ⟨rfl, b5⟩
  go_wp2_with fail
  go_ret
  have c2 := b1.trans (b2.mono b1.size)
  have c3 := c2.trans (b3.mono c2.size)
  have c4 := c3.trans (b4.mono c3.size)
  exact ⟨rfl, c4.trans (b5.mono c4.size)⟩

theorem checks_any (s : ByteArray) (hs : s.size ≤ 140737488351232) (n : Int) (hn : -9223372036854775808 ≤ n) (hn' : n ≤ 9223372036854775807) (w : World) :
    Calls Try.prog 3 #[.string s, .int .i64 n] w fun r w' => r = .returned (.bool true) ∧ Below w.heap.size w w' := by
  have hm : s.size ≤ maxLen := by unfold maxLen; omega
  have hl : n ≤ (maxLen : Int) := by unfold maxLen; omega
  obtain ⟨N, hN⟩ : ∃ N : Nat, max n 0 = (N : Int) := ⟨(max n 0).toNat, by omega⟩
  exact checks_walk s n w _ _ _ _ (Lib.hid fun w => check_any s w hm) (Lib.hid fun w => rcheck_any s w hm)
    (Lib.hid fun w => within_any s n w hm hn hl N _ hN rfl) (Lib.hid fun w => rwithin2_any s n w hm hn hl N _ hN rfl)
end Go.Proofs.Ytakbahhoiggmhaa.nn
