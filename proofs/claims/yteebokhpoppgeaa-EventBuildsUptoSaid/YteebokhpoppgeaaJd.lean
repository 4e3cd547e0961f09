/- Joined texts, what is wanted of them: RefEqual. -/
import Derived.Lib.Hide
import Derived.Deep.QuietTactic
import Derived.BigQuiet
import Derived.IntWalk
import Derived.Deep.RegionHeld3
import Derived.StillTailTactics
import Derived.Test.YteebokhpoppgeaaProg
import Derived.WalkKit
import Derived.Test.YteebokhpoppgeaaJa
namespace Go.Proofs.Yteebokhpoppgeaa.nn
open Go.RowKit

theorem toList_inj {s t : ByteArray} (h : s.toList = t.toList) : s = t := by
  rw [ByteArray.toList_eq, ByteArray.toList_eq] at h
  exact ByteArray.ext (Array.toList_inj.1 h)
end Go.Proofs.Yteebokhpoppgeaa.nn
