/- Joined texts, what is wanted of them: EvApp. -/
import Derived.Test.YtpcladdipgchbaaGreatDoorProg
import Derived.WalkKit
import Derived.Lib.Hide
import Derived.WalkSpells
import Derived.Deep.QuietTactic
import Derived.BigQuiet
import Derived.Deep.RegionHeld3
import Derived.Laws.BitsAllLaws
import Derived.Test.YtpcladdipgchbaaGreatDoorShelf
import Derived.Deep.RegionWith
import Derived.IntWalk
import Derived.Deep.CutBlock
import Derived.StillTailTactics
import Derived.Test.YtpcladdipgchbaaGreatDoorSd
import Derived.Test.YtpcladdipgchbaaGreatDoorSi
import Derived.Test.YtpcladdipgchbaaGreatDoorSa
import Derived.Test.YtpcladdipgchbaaGreatDoorSc
namespace Go.Proofs.YtpcladdipgchbaaGreatDoor.nn
open Go.RowKit

/-- what has become of a row of one's own since a world w, and of the box that was made there -/
structure Ap (w : World) (v : Value) (bx : Array Value) (W : World) (v' : Value) : Prop where
  g : w.grownBy W v.ownBlock
  o : v'.ownBlock = v.ownBlock ∨ ∃ k, v'.ownBlock = some k ∧ w.heap.size < k
  b : Bk W w.heap.size 25 bx
  l : ∀ k, v.ownBlock = some k → k < w.heap.size
theorem Ap.new {w : World} {base n : Nat} {e : TypeId} {size : Nat} {v : Value} {xs : List Value} (h : w.ownsRow base e size v n xs) (bx : Array Value) : Ap w v bx (w.alloc (.cells bx 25)) v :=
  ⟨World.grownBy_alloc _ _ _, .inl rfl, heap_alloc_last _ _, fun k hk => (h.lt k hk).2⟩
theorem Ap.step {w W W2 : World} {v v' v2 : Value} {bx : Array Value} (h : Ap w v bx W v') (hg : W.grownBy W2 v'.ownBlock) (ho : v2.ownBlock = v'.ownBlock ∨ ∃ k, v2.ownBlock = some k ∧ W.heap.size ≤ k) : Ap w v bx W2 v2 where
  g := by
    refine ⟨hg.os.trans h.g.os, hg.tape.trans h.g.tape, hg.output.trans h.g.output, Nat.le_trans h.g.size hg.size, fun b hb hne => ?_⟩
    rw [hg.block b (Nat.lt_of_lt_of_le hb h.g.size) fun e => ?_]
    · exact h.g.block b hb hne
    · rcases h.o with o | ⟨k, o, hk⟩
      · rw [o] at e; exact hne e
      · rw [o] at e; injection e with e; omega
  o := by
    have hz := h.b.lt
    rcases ho with ho | ⟨k, ho, hk⟩
    · rw [ho]; exact h.o
    · exact .inr ⟨k, ho, by omega⟩
  b := h.b.grown hg fun e => by
    rcases h.o with o | ⟨k, o, hk⟩
    · rw [o] at e
      have := h.l _ e.symm
      omega
    · rw [o] at e; injection e with e; omega
  l := h.l
theorem Ap.alloc {w W : World} {v v' : Value} {bx : Array Value} (h : Ap w v bx W v') (o : Obj) : Ap w v bx (W.alloc o) v' := h.step (World.grownBy_alloc _ _ _) (.inl rfl)
end Go.Proofs.YtpcladdipgchbaaGreatDoor.nn
