/- The walk of UtfPoints. -/
import Derived.Test.YtakbahhoiggmhaaRefPoint
import Derived.Test.YtakbahhoiggmhaaEncode
namespace Go.Proofs.Ytakbahhoiggmhaa.nn
open Go.RowKit

set_option maxRecDepth 100000 in
set_option maxHeartbeats 1000000 in
theorem points_walk (s : ByteArray) (c : Int) (w : World) (a n : Nat) (E : ByteArray)
    (h1 : Hid (∀ w, Calls Try.prog 15 #[.string s] w fun r w' => r = .returned (.tuple #[.int .i64 (a : Int), .int .i64 (n : Int)]) ∧ Below w.heap.size w w'))
    (h2 : Hid (∀ w, Calls Try.prog 16 #[.string s] w fun r w' => r = .returned (.tuple #[.int .i64 (a : Int), .int .i64 (n : Int)]) ∧ Below w.heap.size w w'))
    (h3 : Hid (∀ w, Calls Try.prog 17 #[.int .i64 c] w fun r w' => r = .returned (.string E) ∧ w = w'))
    (h4 : Hid (∀ w, Calls Try.prog 18 #[.int .i64 c] w fun r w' => r = .returned (.string E) ∧ Below w.heap.size w w')) :
    Calls Try.prog 4 #[.string s, .int .i64 c] w fun r w' => r = .returned (.bool true) ∧ Below w.heap.size w w' := by
  go_enter Try.func4, Try.ntmps4
  go_wp2_with fail
  refine (h1.out _).mono ?_
  rintro r w1 ⟨rfl, b1⟩
  go_wp2_with fail
  refine (h2.out _).mono ?_
  rintro r w2 ⟨rfl, b2⟩
  go_wp2_with fail
  refine (h3.out _).mono ?_
  rintro r w3 ⟨rfl, rfl⟩
  go_wp2_with fail
  refine (h4.out _).mono ?_
  rintro r w4 ⟨rfl, b4⟩
  go_wp2_with fail
  refine (awake_any _).mono ?_
  rintro r w5 ⟨rfl, b5⟩
  go_wp2_with fail
  go_ret
  have c2 := b1.trans (b2.mono b1.size)
  have c4 := c2.trans (b4.mono c2.size)
  exact ⟨rfl, c4.trans (b5.mono c4.size)⟩

theorem points_any (s : ByteArray) (hs : s.size ≤ 140737488351232) (n : Int) (hn : -9223372036854775808 ≤ n) (hn' : n ≤ 9223372036854775807) (w : World) :
    Calls Try.prog 4 #[.string s, .int .i64 n] w fun r w' => r = .returned (.bool true) ∧ Below w.heap.size w w' := by
  have hm : s.size ≤ maxLen := by unfold maxLen; omega
  exact points_walk s n w _ _ _ (Lib.hid fun w => point_any s w hm) (Lib.hid fun w => rpoint_any s w hm)
    (Lib.hid fun w => enc_any n w hn hn') (Lib.hid fun w => renc_any n w hn hn')
end Go.Proofs.Ytakbahhoiggmhaa.nn
