/- The walk of slices.Clone at 64 bits. -/
import Derived.Test.YtfdgpfkjpjhmjaaClone
import Derived.Test.YtfdgpfkjpjhmjaaWiden
namespace Go.Proofs.Ytfdgpfkjpjhmjaa.nn
open Go.RowKit

set_option maxHeartbeats 400000 in
theorem clone64_any (A : Option Addr) (n c : Nat) (f : Nat → Nat) (w : World) (hA : Rd w .u64 A n f) (hreach : n * 8 ≤ 140737488355328) :
    Calls Try.prog 61 #[.slice A n c] w fun e w' => ∃ v, e = .returned v ∧ w'.ownsRow w.heap.size 63 1 v n (vl .u64 f n) ∧ Below w.heap.size w w' := by
  obtain ⟨i0, hi, hz0, hz1, hz2⟩ := info_parts info_u64
  have hn0 := fun (wx : World) => Lib.run_eql_slice_nil (P := Try.prog) wx 59 63 A n c 0 0 Try.underlying59
  rcases A with _ | ad
  · have hm : n = 0 := by
      rcases Nat.eq_zero_or_pos n with h0 | h0
      · exact h0
      · obtain ⟨b, off, e, _⟩ := hA h0
        cases e
    subst hm
    go_enter Try.func61, Try.ntmps61
    go_wp2
    go_ret
    exact ⟨_, rfl, World.ownsRow_nil _ _ _ _, Below.refl _ _⟩
  · go_enter Try.func61, Try.ntmps61
    go_wp2_with (at_builtin; refine wpList_app rfl (.tmp 5) (.tmp 6) _ rfl w.heap.size 63 i0 _ 8 Try.underlying59 hi hz0 hz1 hz2 rfl .u64 _ 0 f rfl (World.ownsRow_lit w #[] 0 (Nat.le_refl _) (by simp [maxLen]) rfl) (some ad) n c f rfl (hA.alloc _) ?c1 ?c2 ?c3 ?c4; rotate_left 3; intro v1 w1 hown1 hb1)
    case c1 => unfold maxLen; omega
    case c2 => omega
    case c3 => simp
    go_ret
    refine ⟨v1, rfl, ?_, ((Below.refl _ _).alloc (Nat.le_refl _) _).trans hb1⟩
    rw [jn_zero, Nat.zero_add] at hown1
    exact hown1
end Go.Proofs.Ytfdgpfkjpjhmjaa.nn
