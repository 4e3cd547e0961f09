/- The walk of the law NatShifts: it returns true. -/
import Derived.Test.YtfdgpfkjpjhmjaaRefShr
import Derived.Test.YtfdgpfkjpjhmjaaNatSubsW
namespace Go.Proofs.Ytfdgpfkjpjhmjaa.nn
open Go.RowKit

theorem Num.drewN {w : World} {A : Option Addr} {n c : Nat} {f : Nat → Nat} {R : Nat} (h : Num w A n c f R) (j : Nat) : Num (w.drewN j) A n c f R := ⟨h.le, h.cap, h.rd.drewN j, h.lt, h.trm, h.val⟩

set_option maxHeartbeats 2000000 in
set_option maxRecDepth 100000 in
theorem shifts_walk (A : Option Addr) (n c K R1 E1 R2 E2 : Nat) (z : Int) (f : Nat → Nat) (w : World) (hA : Rd w .u32 A n f) (hn : n ≤ c) (hc : c * 4 ≤ 140737488351232)
    (HB : Hid (∀ W, Below w.heap.size w W → Calls Try.prog 30 #[.slice A n c] W fun e w' => e = .returned (.int .i64 (K : Nat)) ∧ W = w'))
    (HBr : Hid (∀ W, Below w.heap.size w W → Calls Try.prog 31 #[.slice A n c] W fun e w' => e = .returned (.int .i64 (K : Nat)) ∧ Below W.heap.size W w'))
    (HSL : Hid (∀ W B d, Rd W .u32 B n f → n ≤ d → d ≤ maxLen → Calls Try.prog 26 #[.slice B n d, .int .i64 z] W fun e w' => Res W w' e R1 E1))
    (HSLr : Hid (∀ W, Below w.heap.size w W → Calls Try.prog 27 #[.slice A n c, .int .i64 z] W fun e w' => Res W w' e R1 E1))
    (HSR : Hid (∀ W B d, Rd W .u32 B n f → n ≤ d → d ≤ maxLen → Calls Try.prog 28 #[.slice B n d, .int .i64 z] W fun e w' => Res W w' e R2 E2))
    (HSRr : Hid (∀ W, Below w.heap.size w W → Calls Try.prog 29 #[.slice A n c, .int .i64 z] W fun e w' => Res W w' e R2 E2)) :
    Calls Try.prog 7 #[.slice A n c, .int .i64 z] w fun e w' => e = .returned (.bool true) ∧ Below w.heap.size w w' := by
  obtain ⟨i0, hi, hz0, hz1, hz2⟩ := info_parts info_u32
  go_enter Try.func7, Try.ntmps7
  go_wp2_with (first
    | (at_builtin; refine wpList_app rfl (.tmp 14) (.tmp 15) _ rfl w.heap.size 35 i0 _ 4 Try.underlying22 hi hz0 hz1 hz2 rfl .u32 _ 0 f rfl (World.ownsRow_lit w #[] 0 (Nat.le_refl _) (by simp [maxLen]) rfl) A n c f rfl (hA.alloc _) (by unfold maxLen; omega) (by omega) (by simp) ?_; intro v1 w1 hown1 hb1))
  rw [jn_zero, Nat.zero_add] at hown1
  obtain ⟨A1, c1, rfl, hc1, hm1, hr1⟩ := Rd.of_own hown1
  have hbw1 : Below w.heap.size w w1 := ((Below.refl _ _).alloc (Nat.le_refl _) _).trans hb1
  refine (HSL.out w1 A1 c1 hr1 hc1 hm1).mono ?_
  rintro e w2 ⟨A2, n2, c2, f2, rfl, hnum2, hb2⟩
  have hbw2 : Below w.heap.size w w2 := hbw1.trans (hb2.mono hbw1.size)
  clear hown1 hb1 hb2 hr1 hbw1 hc1 hm1
  go_wp2_with fail
  refine (HSLr.out _ hbw2).mono ?_
  rintro e w3 ⟨A3, n3, c3, f3, rfl, hnum3, hb3⟩
  have hbw3 : Below w.heap.size w w3 := hbw2.trans (hb3.mono hbw2.size)
  have hnum2 := hnum2.below hb3
  have hs3 := hbw3.size
  clear hb3 hbw2
  go_wp2_with (first
    | (at_builtin; refine wpList_app rfl (.tmp 28) (.tmp 29) _ rfl w3.heap.size 35 i0 _ 4 Try.underlying22 hi hz0 hz1 hz2 rfl .u32 _ 0 f rfl (World.ownsRow_lit w3 #[] 0 (Nat.le_refl _) (by simp [maxLen]) rfl) A n c f rfl ((hA.below hbw3).alloc _) (by unfold maxLen; omega) (by omega) (by simp) ?_; intro v4 w4 hown4 hb4))
  rw [jn_zero, Nat.zero_add] at hown4
  obtain ⟨A4, c4, rfl, hc4, hm4, hr4⟩ := Rd.of_own hown4
  have hb34 : Below w3.heap.size w3 w4 := ((Below.refl _ _).alloc (Nat.le_refl _) _).trans hb4
  have hbw4 : Below w.heap.size w w4 := hbw3.trans (hb34.mono hs3)
  refine (HSR.out w4 A4 c4 hr4 hc4 hm4).mono ?_
  rintro e w5 ⟨A5, n5, c5, f5, rfl, hnum5, hb5⟩
  have hb35 : Below w3.heap.size w3 w5 := hb34.trans (hb5.mono hb34.size)
  have hbw5 : Below w.heap.size w w5 := hbw3.trans (hb35.mono hs3)
  have hnum2 := hnum2.below hb35
  have hnum3 := hnum3.below hb35
  clear hown4 hb4 hb5 hr4 hbw4 hc4 hm4 hb34 hb35 hbw3
  go_wp2_with fail
  refine (HSRr.out _ hbw5).mono ?_
  rintro e w6 ⟨A6, n6, c6, f6, rfl, hnum6, hb6⟩
  have hbw6 : Below w.heap.size w w6 := hbw5.trans (hb6.mono hbw5.size)
  have hnum2 := hnum2.below hb6
  have hnum3 := hnum3.below hb6
  have hnum5 := hnum5.below hb6
  have HL1 := Lib.hid (limbs_any A2 A3 n2 n3 c2 c3 f2 f3 _ w6 hnum2 hnum3)
  have HL2 := Lib.hid (fun j => limbs_any A5 A6 n5 n6 c5 c6 f5 f6 _ (w6.drewN j) (hnum5.drewN j) (hnum6.drewN j))
  clear hb6 hnum2 hnum3 hnum5 hnum6 hbw5 hs3
  go_wp2_with fail
  refine HL1.out.mono ?_
  rintro e w7 ⟨rfl, j7, rfl⟩
  go_wp2_with fail
  refine (HL2.out j7).mono ?_
  rintro e w8 ⟨rfl, j8, rfl⟩
  have hbw8 := drew_below hbw6 (j7 + j8)
  go_wp2_with fail
  refine (HB.out _ hbw8).mono ?_
  rintro e w9 ⟨rfl, rfl⟩
  go_wp2_with fail
  refine (HBr.out _ hbw8).mono ?_
  rintro e w10 ⟨rfl, hb10⟩
  have hbw10 := hbw8.trans (hb10.mono hbw8.size)
  go_wp2_with fail
  refine (awake_any _).mono ?_
  rintro e w11 ⟨rfl, hb11⟩
  go_wp2
  go_ret
  exact ⟨rfl, hbw10.trans (hb11.mono hbw10.size)⟩

theorem shifts_any (A : Option Addr) (n c : Nat) (z : Int) (f : Nat → Nat) (w : World) (hA : Rd w .u32 A n f) (lf : Lt (2 ^ 32) f n) (hn : n ≤ c) (hc : c * 4 ≤ 140737488351232) (hz : z ≤ 9223372036854775807) (hzl : -9223372036854775808 ≤ z) :
    Calls Try.prog 7 #[.slice A n c, .int .i64 z] w fun e w' => e = .returned (.bool true) ∧ Below w.heap.size w w' := by
  have hcm : c ≤ maxLen := by unfold maxLen; omega
  exact shifts_walk A n c _ _ _ _ _ z f w hA hn hc
    (Lib.hid fun W hW => bits_any A n c f W (hA.below hW) lf hn hcm (by omega))
    (Lib.hid fun W hW => rbits_any A n c f W (hA.below hW) lf hn (by omega))
    (Lib.hid fun W B d hB hd hdm => shl_any B n d z f W hB lf hd hdm (by omega) hz hzl)
    (Lib.hid fun W hW => rshl_any A n c z f W (hA.below hW) lf hn hc hz hzl)
    (Lib.hid fun W B d hB hd hdm => shr_any B n d z f W hB lf hd hdm hz)
    (Lib.hid fun W hW => rshr_any A n c z f W (hA.below hW) lf hn hc hz hzl)
end Go.Proofs.Ytfdgpfkjpjhmjaa.nn
