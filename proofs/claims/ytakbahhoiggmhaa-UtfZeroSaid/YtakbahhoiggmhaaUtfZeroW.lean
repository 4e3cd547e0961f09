/- The walk of UtfZero. -/
import Derived.Test.YtakbahhoiggmhaaScan
namespace Go.Proofs.Ytakbahhoiggmhaa.nn
open Go.RowKit

set_option maxRecDepth 100000 in
set_option maxHeartbeats 1000000 in
theorem zero_any (A : Option Addr) (n c : Nat) (w : World) :
    Calls Try.prog 9 #[.slice A n c] w fun r w' => r = .returned (.bool true) ∧ Below w.heap.size w w' := by
  have H1 := Lib.hid ((Below.refl w.heap.size w).alloc (Nat.le_refl _) (.cells #[.int .i64 0, .int .i64 0, .int .i64 0, .int .u8 0, .int .u8 0] 47))
  have HF := Lib.hid (feed_no (.slice A n c) w.heap.size 0 0 t0 _ (Scn.new w) (by omega) (by omega))
  have HC := Lib.hid (close_no w.heap.size 0 0 t0 _ (Scn.new w) (by omega) (by omega))
  have HA := Lib.hid (at_any w.heap.size 0 0 t0 _ (Scn.new w))
  go_enter Try.func9, Try.ntmps9
  go_wp2_with fail
  refine (feed_nil _ _).mono ?_
  rintro r w1 ⟨rfl, rfl⟩
  go_wp2_with fail
  refine HF.out.mono ?_
  rintro r w1 ⟨rfl, rfl⟩
  go_wp2_with fail
  refine (close_nil _).mono ?_
  rintro r w1 ⟨rfl, rfl⟩
  go_wp2_with fail
  refine HC.out.mono ?_
  rintro r w1 ⟨rfl, rfl⟩
  go_wp2_with fail
  refine (at_nil _).mono ?_
  rintro r w1 ⟨rfl, rfl⟩
  go_wp2_with fail
  refine HA.out.mono ?_
  rintro r w1 ⟨rfl, rfl⟩
  go_wp2_with fail
  go_ret
  exact ⟨rfl, H1.out⟩
end Go.Proofs.Ytakbahhoiggmhaa.nn
