/- The walk of Mul: the product, or the error. -/
import Derived.Test.YtfdgpfkjpjhmjaaProduct
import Derived.Test.YtfdgpfkjpjhmjaaSub
namespace Go.Proofs.Ytfdgpfkjpjhmjaa.nn
open Go.RowKit

/-- what Mul answers -/
def mulR (n m : Nat) (f g : Nat → Nat) : Nat := if tl2 n m f g = true then 0 else fitR (sm (2 ^ 32) f n * sm (2 ^ 32) g m)
def mulE (n m : Nat) (f g : Nat → Nat) : Nat := if tl2 n m f g = true then 2 else fitE (sm (2 ^ 32) f n * sm (2 ^ 32) g m)

set_option maxRecDepth 100000 in
set_option maxHeartbeats 1000000 in
theorem mul_any (A B : Option Addr) (n m c d : Nat) (f g : Nat → Nat) (w : World) (hA : Rd w .u32 A n f) (hB : Rd w .u32 B m g) (lf : Lt (2 ^ 32) f n) (lg : Lt (2 ^ 32) g m)
    (hnc : n ≤ c) (hmd : m ≤ d) (hc : c ≤ maxLen) (hd : d ≤ maxLen) :
    Calls Try.prog 19 #[.slice A n c, .slice B m d] w fun e w' => Res w w' e (mulR n m f g) (mulE n m f g) := by
  by_cases hl : tl2 n m f g = true
  · have H1 : Hid (mulR n m f g = 0) := if_pos hl
    have H2 : Hid (mulE n m f g = 2) := if_pos hl
    have HL := Lib.hid (long_two w A B n m c d f g 22 hA hB hnc hmd hc hd true hl)
    clear hl
    unfold maxLen at hc hd
    go_enter Try.func19, Try.ntmps19
    go_wp2_with (go_at_call 33; refine HL.out.mono ?_; rintro e w2 ⟨rfl, rfl⟩)
    go_ret2
    rw [H1.out, H2.out]
    exact ⟨none, 0, 0, _, rfl, num_nil _, (Below.refl _ _).alloc (Nat.le_refl _) _⟩
  · have hl' : tl2 n m f g = false := by cases h : tl2 n m f g <;> simp_all
    have H1 : Hid (mulR n m f g = fitR (sm (2 ^ 32) f n * sm (2 ^ 32) g m)) := if_neg hl
    have H2 : Hid (mulE n m f g = fitE (sm (2 ^ 32) f n * sm (2 ^ 32) g m)) := if_neg hl
    have HL := Lib.hid (long_two w A B n m c d f g 22 hA hB hnc hmd hc hd false hl')
    have lp := lf.mono (tr_le f n)
    have lq := lg.mono (tr_le g m)
    have ep := tr_le f n
    have eq := tr_le g m
    have sp := sm_tr (2 ^ 32) f n
    have sq := sm_tr (2 ^ 32) g m
    obtain ⟨p, hp⟩ : ∃ p, tr f n = p := ⟨_, rfl⟩
    obtain ⟨q, hq⟩ : ∃ q, tr g m = q := ⟨_, rfl⟩
    have h4096 : p ≤ 4096 ∧ q ≤ 4096 := by
      unfold tl2 at hl'
      simp only [Bool.or_eq_false_iff, decide_eq_false_iff_not] at hl'
      omega
    rw [hp] at lp ep sp
    rw [hq] at lq eq sq
    rw [← sp, ← sq] at H1 H2
    have HP := Lib.hid hp
    have HQ := Lib.hid hq
    have HT1 : Hid (∀ W, Below w.heap.size w W → Calls Try.prog 35 #[.slice A n c] W fun e w' => e = .returned (.slice A p c) ∧ W = w') := Lib.hid fun W hW => by
      have := trim_any A n c f W (hA.below hW) hnc hc
      rw [HP.out] at this
      exact this
    have HT2 : Hid (∀ W, Below w.heap.size w W → Calls Try.prog 35 #[.slice B m d] W fun e w' => e = .returned (.slice B q d) ∧ W = w') := Lib.hid fun W hW => by
      have := trim_any B m d g W (hB.below hW) hmd hd
      rw [HQ.out] at this
      exact this
    have hbw1 : Below w.heap.size w (w.alloc (.cells #[.slice A n c, .slice B m d] 22)) := (Below.refl _ _).alloc (Nat.le_refl _) _
    have LP := Lib.hid lp
    have LQ := Lib.hid lq
    clear hl hl' hp hq sp sq lf lg lp lq
    unfold maxLen at hc hd
    go_enter Try.func19, Try.ntmps19
    go_wp2_with fail
    refine HL.out.mono ?_
    rintro e w' ⟨rfl, rfl⟩
    go_wp2_with fail
    refine (HT1.out _ hbw1).mono ?_
    rintro e w' ⟨rfl, rfl⟩
    go_wp2_with fail
    refine (widen_any A p c f _ ((hA.below hbw1).mono ep) LP.out (by omega)).mono ?_
    rintro e w3 ⟨g3, cur3, f3, rfl, hg3, hk3, hs3, hi3, l3, v3, hb3⟩
    have hbw3 : Below w.heap.size w w3 := hbw1.trans (hb3.mono hbw1.size)
    have r3 := hi3.rd hk3
    have L3 := Lib.hid l3
    have V3 := Lib.hid v3
    clear hk3 hi3 hs3 l3 v3 hg3 hb3
    go_wp2_with fail
    refine (HT2.out _ hbw3).mono ?_
    rintro e w' ⟨rfl, rfl⟩
    go_wp2_with fail
    refine (widen_any B q d g _ ((hB.below hbw3).mono eq) LQ.out (by omega)).mono ?_
    rintro e w5 ⟨g5, cur5, f5, rfl, hg5, hk5, hs5, hi5, l5, v5, hb5⟩
    have hbw5 : Below w.heap.size w w5 := hbw3.trans (hb5.mono hbw3.size)
    have r5 := hi5.rd hk5
    have r35 := r3.below hb5
    have L5 := Lib.hid l5
    have V5 := Lib.hid v5
    clear hk5 hi5 hs5 l5 v5 hg5 hb5 r3
    go_wp2_with fail
    refine (product_any _ _ _ _ _ _ f3 f5 w5 r35 r5 L3.out L5.out (by omega) (by omega)).mono ?_
    rintro e w6 ⟨g6, cur6, f6, rfl, hg6, hk6, hs6, hi6, l6, v6, hb6⟩
    have hbw6 : Below w.heap.size w w6 := hbw5.trans (hb6.mono hbw5.size)
    have r6 := hi6.rd hk6
    have L6 := Lib.hid l6
    have V6 := Lib.hid v6
    clear hk6 hi6 hs6 l6 v6 hg6 hb6 r5 r35
    go_wp2_with fail
    refine (narrow_any _ _ _ f6 w6 r6 L6.out (by omega)).mono ?_
    rintro e w7 ⟨A7, n7, c7, f7, rfl, hn7, _, hb7⟩
    have hbw7 : Below w.heap.size w w7 := hbw6.trans (hb7.mono hbw6.size)
    have HB := Lib.hid (bounded_any A7 n7 c7 f7 w7 hn7.rd hn7.le hn7.cap hn7.lt)
    have V7 := Lib.hid hn7.val
    clear hn7 hb7 r6
    go_wp2_with fail
    refine HB.out.mono ?_
    rintro e w8 ⟨A8, n8, c8, f8, rfl, hn8, hb8⟩
    have hv : sm (2 ^ 32) f7 n7 = sm (2 ^ 32) f p * sm (2 ^ 32) g q := by rw [V7.out, V6.out, V3.out, V5.out]
    have HV := Lib.hid hv
    have HN := Lib.hid hn8
    clear hv hn8
    go_wp2
    go_ret2
    rw [H1.out, H2.out, ← HV.out]
    exact ⟨A8, n8, c8, f8, rfl, HN.out, hbw7.trans (hb8.mono hbw7.size)⟩
end Go.Proofs.Ytfdgpfkjpjhmjaa.nn
