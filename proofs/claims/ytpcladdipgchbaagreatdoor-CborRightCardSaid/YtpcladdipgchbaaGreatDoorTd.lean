/- Joined texts, what is wanted of them: CborListsW. -/
import Derived.Test.YtpcladdipgchbaaGreatDoorProg
import Derived.WalkKit
import Derived.Lib.Hide
import Derived.WalkSpells
import Derived.Deep.QuietTactic
import Derived.BigQuiet
import Derived.Deep.RegionHeld3
import Derived.Laws.BitsAllLaws
import Derived.Test.YtpcladdipgchbaaGreatDoorShelf
import Derived.Deep.RegionWith
import Derived.IntWalk
import Derived.Deep.CutBlock
import Derived.StillTailTactics
import Derived.Test.YtpcladdipgchbaaGreatDoorSe
import Derived.Test.YtpcladdipgchbaaGreatDoorSb
import Derived.Test.YtpcladdipgchbaaGreatDoorSd
import Derived.Test.YtpcladdipgchbaaGreatDoorSv
import Derived.Test.YtpcladdipgchbaaGreatDoorSg
import Derived.Test.YtpcladdipgchbaaGreatDoorSa
import Derived.Test.YtpcladdipgchbaaGreatDoorSo
import Derived.Test.YtpcladdipgchbaaGreatDoorSf
import Derived.Test.YtpcladdipgchbaaGreatDoorSw
import Derived.Test.YtpcladdipgchbaaGreatDoorSc
import Derived.Test.YtpcladdipgchbaaGreatDoorSt
import Derived.Test.YtpcladdipgchbaaGreatDoorSs
import Derived.Test.YtpcladdipgchbaaGreatDoorSp
import Derived.Test.YtpcladdipgchbaaGreatDoorSr
import Derived.Test.YtpcladdipgchbaaGreatDoorSq
import Derived.Test.YtpcladdipgchbaaGreatDoorSu
namespace Go.Proofs.YtpcladdipgchbaaGreatDoor.nn
open Go.RowKit

theorem enE_zero {t : VT} : enE t = 0 ↔ chk t = 0 ∧ ext t = false := by
  unfold enE
  by_cases h : chk t = 0
  · rw [if_pos h]
    cases ext t <;> simp [h]
  · rw [if_neg h]
    simp [h]
theorem enL_zero {o : Bool} {t : VT} (h : enE t = 0) : ecL o t = itB o t := by unfold ecL; rw [if_pos (enE_zero.1 h)]
theorem enL_no {o : Bool} {t : VT} (h : enE t ≠ 0) : ecL o t = [] := by unfold ecL; rw [if_neg (fun h2 => h (enE_zero.2 h2))]
end Go.Proofs.YtpcladdipgchbaaGreatDoor.nn
