/- Joined texts, what is wanted of them: EventEventsW. -/
import Derived.Test.YthlpiaoofijfpaaProg
import Derived.WalkKit
import Derived.Lib.Hide
import Derived.Deep.QuietTactic
import Derived.BigQuiet
import Derived.IntWalk
import Derived.Deep.RegionHeld3
import Derived.Test.YthlpiaoofijfpaaJc
import Derived.Test.YthlpiaoofijfpaaJk
import Derived.Test.YthlpiaoofijfpaaJa
import Derived.Test.YthlpiaoofijfpaaJb
import Derived.Test.YthlpiaoofijfpaaJg
import Derived.Test.YthlpiaoofijfpaaJe
import Derived.Test.YthlpiaoofijfpaaJh
namespace Go.Proofs.Ythlpiaoofijfpaa.nn
open Go.RowKit

theorem events9_any (t : VT) (C : Value) (w : World) (hC : Lst w C t.l) (hB : blk t ≤ 1048576) (hwf : wfT t) :
    Calls Try.prog 3 #[vv t C] w fun r w' => r = .returned (.bool true) ∧ Below w.heap.size w w' := by
  have hcb := cnt_blk t
  have hsb := smx_blk t
  have hmx : (1048576 : Nat) ≤ maxLen := by simp [maxLen]
  exact events_any t C w (by omega) (by omega) hC hwf
end Go.Proofs.Ythlpiaoofijfpaa.nn
