/- The walks of the document's Cmp and of the laws' limbs. -/
import Derived.Test.YtnikoojgoiobjaaDoorRefAdd
namespace Go.Proofs.YtnikoojgoiobjaaDoor.nn
open Go.RowKit

theorem drew_below {B : Nat} {a w : World} (h : Below B a w) (j : Nat) : Below B a (w.drewN j) := ⟨h.os, h.tape, h.output, h.size, h.block⟩

theorem rtrim_at (A : Option Addr) (n c p : Nat) (f : Nat → Nat) (w : World) (hp : tr f n = p) (hA : Rd w .u32 A n f) (hn : n ≤ c) (hreach : n * 4 ≤ 140737488355328) :
    Calls Tryd.prog 26 #[.slice A n c] w fun e w' => ∃ A' c', e = .returned (.slice A' p c') ∧ Rd w' .u32 A' p f ∧ Below w.heap.size w w' := by
  subst hp
  refine (rtrim_any A n c f w hA hn hreach).mono ?_
  rintro e w' ⟨v, rfl, ho, hb⟩
  obtain ⟨A', c', rfl, _, _, hr⟩ := Rd.of_own ho
  exact ⟨A', c', rfl, hr, hb⟩

set_option maxRecDepth 100000 in
set_option maxHeartbeats 400000 in
theorem limbs_any (A B : Option Addr) (n m c d : Nat) (f g : Nat → Nat) (R : Nat) (w : World) (hA : Num w A n c f R) (hB : Num w B m d g R) :
    Calls Tryd.prog 9 #[.slice A n c, .slice B m d] w fun e w' => e = .returned (.bool true) ∧ ∃ j, w' = w.drewN j := by
  obtain rfl : n = m := sm_inj_len (by decide) hA.lt hB.lt hA.trm hB.trm (by rw [hA.val, hB.val])
  have hs := Lib.hid (sm_inj (by decide) hA.lt hB.lt (by rw [hA.val, hB.val]))
  have hn : n ≤ 9223372036854775807 := by have := hA.le; have := hA.cap; unfold maxLen at this; omega
  have hr1 := hA.rd
  have hr2 := hB.rd
  clear hA hB
  go_enter Tryd.func9, Tryd.ntmps9
  go_wp2
  go_loopw [5] (fun s wr => ∃ i : Nat, i ≤ n ∧ s = .int .i64 i ∧ ∃ j, wr = w.drewN j) (fun s _ => n - (intOf s).toNat)
  case atStart => exact ⟨0, Nat.zero_le _, rfl, 0, rfl⟩
  case round =>
    obtain ⟨i, hi, rfl, j, rfl⟩ := hrel
    by_cases hlt : i < n
    · obtain ⟨b, off, rfl, _, hcell⟩ := hr1 (by omega)
      have hx := hcell i hlt
      obtain ⟨b', off', rfl, _, hcell'⟩ := hr2 (by omega)
      have hy := hcell' i hlt
      rw [← hs.out i hlt] at hy
      clear hcell hcell' hr1 hr2
      go_wp2
      go_quiet (fail)
      go_wp2
      go_roundw
      case rel => exact ⟨i + 1, by omega, by go_num, _, rfl⟩
      case measure => simp [intOf]; omega
    · obtain rfl : i = n := by omega
      go_wp2
      go_ret
      exact ⟨rfl, j, rfl⟩
end Go.Proofs.YtnikoojgoiobjaaDoor.nn
