/- Joined texts, what is wanted of them: RefOne, RefOne2, RefRight, RefChk. -/
import Derived.StillTailTactics
import Derived.Test.YtpcladdipgchbaaGreatDoorProg
import Derived.WalkKit
import Derived.Lib.Hide
import Derived.WalkSpells
import Derived.Deep.QuietTactic
import Derived.BigQuiet
import Derived.Deep.RegionHeld3
import Derived.Laws.BitsAllLaws
import Derived.Test.YtpcladdipgchbaaGreatDoorShelf
import Derived.Deep.RegionWith
import Derived.IntWalk
import Derived.Deep.CutBlock
import Derived.Test.YtpcladdipgchbaaGreatDoorSa
namespace Go.Proofs.YtpcladdipgchbaaGreatDoor.nn
open Go.RowKit

/-- could bytes be a great number's -/
def big (s : ByteArray) : Bool := decide (8 < s.size ∧ s.size ≤ 512 ∧ bt s 0 ≠ 0)
/-- of a tag: is what is within it a great number in another guise -/
def guise (n : Nat) (l : List VT) : Bool := match l with | [c] => decide (n = 2 ∨ n = 3) && (decide (c.k = 9) && big c.s) | _ => false
def sE (t : VT) : Bool := t.s.toList.isEmpty
def nE (t : VT) : Bool := (t.n : Int) == 0
/-- is a value right, whatever stands within it -/
def oneB (t : VT) : Bool :=
  if t.k = 0 ∨ t.k = 2 ∨ t.k = 11 then sE t && nE t && !t.g
  else if t.k = 1 then sE t && !t.g && decide (t.n ≤ 1)
  else if t.k = 3 then sE t && !t.g && decide (t.n ≤ 19 ∨ 32 ≤ t.n ∧ t.n ≤ 255)
  else if t.k = 4 then sE t
  else if t.k = 5 then nE t && big t.s
  else if t.k = 6 then sE t && !t.g && decide (t.n < 65536)
  else if t.k = 7 then sE t && !t.g && decide (t.n < 4294967296)
  else if t.k = 8 then sE t && !t.g
  else if t.k = 9 then nE t && !t.g
  else if t.k = 10 then nE t && !t.g && decide (ckE (bt t.s) t.s.size = 0)
  else if t.k = 12 then sE t && nE t && !t.g && decide (t.l.length % 2 = 0)
  else if t.k = 13 then sE t && !t.g && decide (t.l.length = 1) && !guise t.n t.l
  else if t.k = 14 then !t.g && decide (t.n ≤ 255)
  else false
end Go.Proofs.YtpcladdipgchbaaGreatDoor.nn
namespace Go.Proofs.YtpcladdipgchbaaGreatDoor.nn
open Go.RowKit

theorem ne_int8 {c k : Int} (h : c ≠ k) : (c == k) = false := by simp [h]
end Go.Proofs.YtpcladdipgchbaaGreatDoor.nn
namespace Go.Proofs.YtpcladdipgchbaaGreatDoor.nn
open Go.RowKit

mutual
/-- is all of a tree right -/
def rgt : VT → Bool | .mk k g n s l => oneB (.mk k g n s l) && (!(lf k) || decide (l.length = 0)) && rgtL l
def rgtL : List VT → Bool | [] => true | t :: r => rgt t && rgtL r
end
theorem rgt_mk (t : VT) : rgt t = (oneB t && (!(lf t.k) || decide (t.l.length = 0)) && rgtL t.l) := by cases t; rfl
theorem rgtL_app (a b : List VT) : rgtL (a ++ b) = (rgtL a && rgtL b) := by
  induction a with
  | nil => simp [rgtL]
  | cons t r ih => simp only [List.cons_append, rgtL, ih, Bool.and_assoc]
mutual
/-- the longest text -/
def smx : VT → Nat | .mk _ _ _ s l => max s.size (smxL l)
def smxL : List VT → Nat | [] => 0 | t :: r => max (smx t) (smxL r)
end
theorem smx_mk (t : VT) : smx t = max t.s.size (smxL t.l) := by cases t; rfl
mutual
theorem smx_blk : ∀ t : VT, smx t ≤ blk t
  | .mk _ _ _ s l => by have := smxL_blkL l; simp only [smx, blk]; omega
theorem smxL_blkL : ∀ l : List VT, smxL l ≤ blkL l
  | [] => by simp [smxL]
  | t :: r => by have h1 := smx_blk t; have h2 := smxL_blkL r; simp only [smxL, blkL]; omega
end
end Go.Proofs.YtpcladdipgchbaaGreatDoor.nn
namespace Go.Proofs.YtpcladdipgchbaaGreatDoor.nn
open Go.RowKit

/-- what Check answers of a tree -/
def chk (t : VT) : Nat := if 64 < dep t ∨ 65536 < cnt t then 2 else if rgt t then 0 else 9
end Go.Proofs.YtpcladdipgchbaaGreatDoor.nn
