/- The walk of slices.Clone at 32 bits: new memory that reads the same. -/
import Derived.Test.YtnikoojgoiobjaaDoorProg
import Derived.WalkKit
import Derived.WalkSpells
import Derived.Lib.Hide
import Derived.Test.YtnikoojgoiobjaaDoorAppend
namespace Go.Proofs.YtnikoojgoiobjaaDoor.nn
open Go.RowKit

theorem info_u32 : (Tryd.prog.info? 45).map (fun i => (i.zero, i.size, i.bytes)) = some (some (.int .u32 0), 1, 4) := by kernel_rfl

set_option maxHeartbeats 400000 in
theorem clone_any (A : Option Addr) (n c : Nat) (f : Nat → Nat) (w : World) (hA : Rd w .u32 A n f) (hreach : n * 4 ≤ 140737488355328) :
    Calls Tryd.prog 37 #[.slice A n c] w fun e w' => ∃ v, e = .returned v ∧ w'.ownsRow w.heap.size 45 1 v n (vl .u32 f n) ∧ Below w.heap.size w w' := by
  obtain ⟨i0, hi, hz0, hz1, hz2⟩ := info_parts info_u32
  have hn0 := fun (wx : World) => Lib.run_eql_slice_nil (P := Tryd.prog) wx 22 45 A n c 0 0 Tryd.underlying22
  rcases A with _ | ad
  · have hm : n = 0 := by
      rcases Nat.eq_zero_or_pos n with h0 | h0
      · exact h0
      · obtain ⟨b, off, e, _⟩ := hA h0
        cases e
    subst hm
    go_enter Tryd.func37, Tryd.ntmps37
    go_wp2
    go_ret
    exact ⟨_, rfl, World.ownsRow_nil _ _ _ _, Below.refl _ _⟩
  · go_enter Tryd.func37, Tryd.ntmps37
    go_wp2_with (at_builtin; refine wpList_app rfl (.tmp 5) (.tmp 6) _ rfl w.heap.size 45 i0 _ 4 Tryd.underlying22 hi hz0 hz1 hz2 rfl .u32 _ 0 f rfl (World.ownsRow_lit w #[] 0 (Nat.le_refl _) (by simp [maxLen]) rfl) (some ad) n c f rfl (hA.alloc _) ?c1 ?c2 ?c3 ?c4; rotate_left 3; intro v1 w1 hown1 hb1)
    case c1 => unfold maxLen; omega
    case c2 => omega
    case c3 => simp
    go_ret
    refine ⟨v1, rfl, ?_, ((Below.refl _ _).alloc (Nat.le_refl _) _).trans hb1⟩
    rw [jn_zero, Nat.zero_add] at hown1
    exact hown1
end Go.Proofs.YtnikoojgoiobjaaDoor.nn
