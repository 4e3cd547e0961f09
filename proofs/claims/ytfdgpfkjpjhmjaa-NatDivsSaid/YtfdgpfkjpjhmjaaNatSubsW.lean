/- The walk of the law NatSubs: it returns true. -/
import Derived.Test.YtfdgpfkjpjhmjaaSub
import Derived.Test.YtfdgpfkjpjhmjaaAwake
namespace Go.Proofs.Ytfdgpfkjpjhmjaa.nn
open Go.RowKit

theorem Num.below {w w' : World} {A : Option Addr} {n c : Nat} {f : Nat → Nat} {R : Nat} (h : Num w A n c f R) (hb : Below w.heap.size w w') : Num w' A n c f R :=
  ⟨h.le, h.cap, h.rd.below hb, h.lt, h.trm, h.val⟩

set_option maxHeartbeats 1000000 in
theorem subs_any (A B : Option Addr) (n m c d : Nat) (f g : Nat → Nat) (w : World) (hA : Rd w .u32 A n f) (lf : Lt (2 ^ 32) f n) (hn : n ≤ c) (hc : c * 4 ≤ 140737488351232) (hB : Rd w .u32 B m g) (lg : Lt (2 ^ 32) g m) (hm : m ≤ d) (hd : d * 4 ≤ 140737488351232) :
    Calls Try.prog 4 #[.slice A n c, .slice B m d] w fun e w' => e = .returned (.bool true) ∧ Below w.heap.size w w' := by
  obtain ⟨i0, hi, hz0, hz1, hz2⟩ := info_parts info_u32
  go_enter Try.func4, Try.ntmps4
  go_wp2_with (first
    | (at_builtin; refine wpList_app rfl (.tmp 10) (.tmp 11) _ rfl w.heap.size 35 i0 _ 4 Try.underlying22 hi hz0 hz1 hz2 rfl .u32 _ 0 f rfl (World.ownsRow_lit w #[] 0 (Nat.le_refl _) (by simp [maxLen]) rfl) A n c f rfl (hA.alloc _) (by unfold maxLen; omega) (by omega) (by simp) ?_; intro v1 w1 hown1 hb1))
  rw [jn_zero, Nat.zero_add] at hown1
  obtain ⟨A1, c1, rfl, hc1, hm1, hr1⟩ := Rd.of_own hown1
  have hbw1 : Below w.heap.size w w1 := ((Below.refl _ _).alloc (Nat.le_refl _) _).trans hb1
  refine (sub_any A1 B n m c1 d f g w1 hr1 (hB.below hbw1) lf lg hc1 hm hm1 (by unfold maxLen; omega)).mono ?_
  rintro e w2 ⟨A2, n2, c2, f2, rfl, hnum2, hb2⟩
  have hbw2 : Below w.heap.size w w2 := hbw1.trans (hb2.mono hbw1.size)
  clear hown1 hb1 hb2 hr1
  have hR := Lib.hid (rsub_any A B n m c d f g w2 (hA.below hbw2) (hB.below hbw2) lf lg hn hm hc hd)
  go_wp2_with fail
  refine hR.out.mono ?_
  rintro e w4 ⟨A4, n4, c4, f4, rfl, hnum4, hb4⟩
  have hbw4 : Below w.heap.size w w4 := hbw2.trans (hb4.mono hbw2.size)
  have HL := Lib.hid (limbs_any A2 A4 n2 n4 c2 c4 f2 f4 _ w4 (hnum2.below hb4) hnum4)
  clear hR hb4 hnum2 hnum4 hbw2
  go_wp2_with (first
    | (go_at_call 13; refine HL.out.mono ?_; rintro e w5 ⟨rfl, j5, rfl⟩)
    | (go_at_call 16; refine (awake_any _).mono ?_; rintro e w6 ⟨rfl, hb6⟩))
  go_ret
  have h5 := drew_below hbw4 j5
  exact ⟨rfl, h5.trans (hb6.mono h5.size)⟩
end Go.Proofs.Ytfdgpfkjpjhmjaa.nn
