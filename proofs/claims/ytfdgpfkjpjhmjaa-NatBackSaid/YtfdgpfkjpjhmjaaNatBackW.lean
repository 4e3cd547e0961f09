/- The walk of the law NatBack: it returns true. -/
import Derived.Test.YtfdgpfkjpjhmjaaDiv
import Derived.Test.YtfdgpfkjpjhmjaaNatOrderW
namespace Go.Proofs.Ytfdgpfkjpjhmjaa.nn
open Go.RowKit

/-- two numbers without an error -/
def Res20 (w w' : World) (e : Ending) (Q R : Nat) : Prop :=
  ∃ A1 n1 c1 f1 A2 n2 c2 f2, e = .returned (.tuple #[.slice A1 n1 c1, .slice A2 n2 c2, .int .i64 0]) ∧ Num w' A1 n1 c1 f1 Q ∧ Num w' A2 n2 c2 f2 R ∧ Below w.heap.size w w'
/-- nothing, and the error 1 -/
def Res21 (w w' : World) (e : Ending) : Prop :=
  ∃ A1 c1 A2 c2, e = .returned (.tuple #[.slice A1 0 c1, .slice A2 0 c2, .int .i64 1]) ∧ c1 ≤ maxLen ∧ c2 ≤ maxLen ∧ Below w.heap.size w w'

theorem num_zero {w : World} {A : Option Addr} {n c : Nat} {f : Nat → Nat} (h : Num w A n c f 0) : n = 0 := by
  rcases Nat.eq_zero_or_pos n with h0 | h0
  · exact h0
  · have h1 := sm_pos (Nat.two_pow_pos 32) h.trm (by omega)
    have h2 := h.val
    omega

set_option maxHeartbeats 1000000 in
theorem back_long (A B : Option Addr) (n m c d : Nat) (w : World) (hn : n ≤ maxLen) (hm : m ≤ maxLen) (h : 4096 < n ∨ 4096 < m) :
    Calls Try.prog 8 #[.slice A n c, .slice B m d] w fun e w' => e = .returned (.bool true) ∧ Below w.heap.size w w' := by
  unfold maxLen at hn hm
  by_cases h1 : 4096 < n
  · clear h
    go_enter Try.func8, Try.ntmps8
    go_wp2_with (go_at_call 16; refine (awake_any _).mono ?_; rintro e w6 ⟨rfl, hb6⟩)
    go_ret
    exact ⟨rfl, hb6⟩
  · have h2 : 4096 < m := by omega
    have h3 : n ≤ 4096 := by omega
    clear h h1
    go_enter Try.func8, Try.ntmps8
    go_wp2_with (go_at_call 16; refine (awake_any _).mono ?_; rintro e w6 ⟨rfl, hb6⟩)
    go_ret
    exact ⟨rfl, hb6⟩

set_option maxHeartbeats 1000000 in
theorem back_zero (A B : Option Addr) (n m c d : Nat) (w : World) (hn : n ≤ 4096) (hm : m ≤ 4096)
    (HD : Hid (Calls Try.prog 24 #[.slice A n c, .slice B m d] w fun e w' => Res21 w w' e))
    (HB : Hid (∀ W, Below w.heap.size w W → Calls Try.prog 30 #[.slice B m d] W fun e w' => e = .returned (.int .i64 0) ∧ W = w')) :
    Calls Try.prog 8 #[.slice A n c, .slice B m d] w fun e w' => e = .returned (.bool true) ∧ Below w.heap.size w w' := by
  go_enter Try.func8, Try.ntmps8
  go_wp2_with fail
  refine HD.out.mono ?_
  rintro e w1 ⟨A1, c1, A2, c2, rfl, hc1, hc2, hb1⟩
  unfold maxLen at hc1 hc2
  go_wp2_with fail
  refine (HB.out _ hb1).mono ?_
  rintro e w' ⟨rfl, rfl⟩
  go_wp2
  go_ret
  exact ⟨rfl, hb1⟩

set_option maxRecDepth 100000 in
set_option maxHeartbeats 2000000 in
theorem back_walk (A B : Option Addr) (n m c d K Q R P S : Nat) (z : Int) (w : World) (hn : n ≤ 4096) (hm : m ≤ 4096) (hK : 0 < K) (hz : z < 0)
    (HD : Hid (Calls Try.prog 24 #[.slice A n c, .slice B m d] w fun e w' => Res20 w w' e Q R))
    (HB : Hid (∀ W, Below w.heap.size w W → Calls Try.prog 30 #[.slice B m d] W fun e w' => e = .returned (.int .i64 (K : Nat)) ∧ W = w'))
    (HM : Hid (∀ W A2 n2 c2 f2, Num W A2 n2 c2 f2 Q → Below w.heap.size w W → Calls Try.prog 19 #[.slice A2 n2 c2, .slice B m d] W fun e w' => Res0 W w' e P))
    (HA : Hid (∀ W A2 n2 c2 f2 A3 n3 c3 f3, Num W A2 n2 c2 f2 P → Num W A3 n3 c3 f3 R → Calls Try.prog 11 #[.slice A2 n2 c2, .slice (some ⟨W.heap.size, 0, none⟩) 1 1] (W.alloc (.cells #[.slice A3 n3 c3] 22)) fun e w' => Res0 (W.alloc (.cells #[.slice A3 n3 c3] 22)) w' e S))
    (HC1 : Hid (∀ W A2 n2 c2 f2, Num W A2 n2 c2 f2 S → Below w.heap.size w W → Calls Try.prog 14 #[.slice A2 n2 c2, .slice A n c] W fun e w' => e = .returned (.int .i64 0) ∧ ∃ j, w' = W.drewN j))
    (HC2 : Hid (∀ W A2 n2 c2 f2, Num W A2 n2 c2 f2 R → Below w.heap.size w W → Calls Try.prog 14 #[.slice A2 n2 c2, .slice B m d] W fun e w' => e = .returned (.int .i64 z) ∧ ∃ j, w' = W.drewN j)) :
    Calls Try.prog 8 #[.slice A n c, .slice B m d] w fun e w' => e = .returned (.bool true) ∧ Below w.heap.size w w' := by
  have k1 : ((K : Int) == 0) = false := by rw [beq_eq_false_iff_ne]; omega
  clear hK
  go_enter Try.func8, Try.ntmps8
  go_wp2_with fail
  refine HD.out.mono ?_
  rintro e w1 ⟨A1, n1, c1, f1, A2, n2, c2, f2, rfl, hq1, hr1, hb1⟩
  have NQ := Lib.hid hq1
  have NR := Lib.hid hr1
  clear hq1 hr1
  go_wp2_with fail
  refine (HB.out _ hb1).mono ?_
  rintro e w' ⟨rfl, rfl⟩
  go_wp2_with fail
  refine (HM.out _ A1 n1 c1 f1 NQ.out hb1).mono ?_
  rintro e w3 ⟨A3, n3, c3, f3, rfl, hp3, hb3⟩
  have hbw3 : Below w.heap.size w w3 := hb1.trans (hb3.mono hb1.size)
  have NR3 : Hid (Num w3 A2 n2 c2 f2 R) := Lib.hid ⟨NR.out.le, NR.out.cap, NR.out.rd.below hb3, NR.out.lt, NR.out.trm, NR.out.val⟩
  have NP := Lib.hid hp3
  clear hp3 hb3 NR NQ
  go_wp2_with fail
  refine (HA.out _ A3 n3 c3 f3 A2 n2 c2 f2 NP.out NR3.out).mono ?_
  rintro e w4 ⟨A4, n4, c4, f4, rfl, hs4, hb4⟩
  have hb34 : Below w3.heap.size w3 w4 := ((Below.refl w3.heap.size w3).alloc (Nat.le_refl _) _).trans (hb4.mono (by rw [hsz]; omega))
  have hbw4 : Below w.heap.size w w4 := hbw3.trans (hb34.mono hbw3.size)
  have NR4 : Hid (Num w4 A2 n2 c2 f2 R) := Lib.hid ⟨NR3.out.le, NR3.out.cap, NR3.out.rd.below hb34, NR3.out.lt, NR3.out.trm, NR3.out.val⟩
  have NS := Lib.hid hs4
  clear hs4 hb4 hb34 NR3 NP
  go_wp2_with fail
  refine (HC1.out _ A4 n4 c4 f4 NS.out hbw4).mono ?_
  rintro e w' ⟨rfl, j1, rfl⟩
  go_wp2_with fail
  refine (HC2.out _ A2 n2 c2 f2 (num_kept NR4.out ?_ ?_) ?_).mono ?_
  · exact Nat.le_refl _
  · intro b o _; rfl
  · (repeat (first | exact hbw4 | refine drew_below ?_ _))
  rintro e w' ⟨rfl, j2, rfl⟩
  go_wp2_with fail
  refine (awake_any _).mono ?_
  rintro e w6 ⟨rfl, hb6⟩
  have hend : Below w.heap.size w w6 := by
    refine Below.trans ?_ (hb6.mono ?_)
    · (repeat (first | exact hbw4 | refine drew_below ?_ _))
    · exact hbw4.size
  go_wp2
  go_ret
  exact ⟨rfl, hend⟩

theorem back_any (A B : Option Addr) (n m c d : Nat) (f g : Nat → Nat) (w : World) (hA : Rd w .u32 A n f) (lf : Lt (2 ^ 32) f n) (hn : n ≤ c) (hc : c * 4 ≤ 140737488351232) (hB : Rd w .u32 B m g) (lg' : Lt (2 ^ 32) g m) (hm : m ≤ d) (hd : d * 4 ≤ 140737488351232) :
    Calls Try.prog 8 #[.slice A n c, .slice B m d] w fun e w' => e = .returned (.bool true) ∧ Below w.heap.size w w' := by
  have hcm : c ≤ maxLen := by unfold maxLen; omega
  have hdm : d ≤ maxLen := by unfold maxLen; omega
  by_cases hlong : 4096 < n ∨ 4096 < m
  · exact back_long A B n m c d w (Nat.le_trans hn hcm) (Nat.le_trans hm hdm) hlong
  · have hn1 : n ≤ 4096 := by omega
    have hm1 : m ≤ 4096 := by omega
    have tf := tr_le f n
    have tg := tr_le g m
    have hfb := trm_short lf hn1
    have htl : tl2 n m f g = false := by unfold tl2; simp only [Bool.or_eq_false_iff, decide_eq_false_iff_not]; omega
    have hdiv := div_any A B n m c d f g w hA hB lf lg' hn hm hcm hd
    have hbits : ∀ W, Below w.heap.size w W → Calls Try.prog 30 #[.slice B m d] W fun e w' => e = .returned (.int .i64 (bl (sm (2 ^ 32) g m))) ∧ W = w' := fun W hW => bits_any B m d g W (hB.below hW) lg' hm hdm (by omega)
    by_cases hz : sm (2 ^ 32) g m = 0
    · have d1 : divQ n m f g = 0 := by unfold divQ; rw [htl, if_neg Bool.false_ne_true, hz]; exact Nat.div_zero _
      have d2 : divR n m f g = 0 := by unfold divR; rw [htl, if_neg Bool.false_ne_true, if_pos hz]
      have d3 : divE n m f g = 1 := by unfold divE; rw [htl, if_neg Bool.false_ne_true, if_pos hz]
      rw [d1, d2, d3] at hdiv
      rw [hz] at hbits
      refine back_zero A B n m c d w hn1 hm1 (Lib.hid (hdiv.mono ?_)) (Lib.hid hbits)
      rintro e w' ⟨A1, n1, c1, f1, A2, n2, c2, f2, rfl, h1, h2, hb⟩
      obtain rfl := num_zero h1
      obtain rfl := num_zero h2
      exact ⟨A1, c1, A2, c2, rfl, h1.cap, h2.cap, hb⟩
    · have d1 : divQ n m f g = sm (2 ^ 32) f n / sm (2 ^ 32) g m := by unfold divQ; rw [htl, if_neg Bool.false_ne_true]
      have d2 : divR n m f g = sm (2 ^ 32) f n % sm (2 ^ 32) g m := by unfold divR; rw [htl, if_neg Bool.false_ne_true, if_neg hz]
      have d3 : divE n m f g = 0 := by unfold divE; rw [htl, if_neg Bool.false_ne_true, if_neg hz]
      rw [d1, d2, d3] at hdiv
      have hdm2 := Nat.div_add_mod (sm (2 ^ 32) f n) (sm (2 ^ 32) g m)
      rw [Nat.mul_comm] at hdm2
      have hrl := Nat.mod_lt (sm (2 ^ 32) f n) (show 0 < sm (2 ^ 32) g m by omega)
      have hqle := Nat.div_le_self (sm (2 ^ 32) f n) (sm (2 ^ 32) g m)
      obtain ⟨Q, hQ⟩ : ∃ Q, sm (2 ^ 32) f n / sm (2 ^ 32) g m = Q := ⟨_, rfl⟩
      obtain ⟨R, hR⟩ : ∃ R, sm (2 ^ 32) f n % sm (2 ^ 32) g m = R := ⟨_, rfl⟩
      rw [hQ] at hdiv hdm2 hqle
      rw [hR] at hdiv hdm2 hrl
      refine back_walk A B n m c d (bl (sm (2 ^ 32) g m)) Q R (Q * sm (2 ^ 32) g m) (sm (2 ^ 32) f n) (-1) w hn1 hm1 (bl_ge hz).2 (by omega) (Lib.hid hdiv) (Lib.hid hbits) (Lib.hid ?_) (Lib.hid ?_) (Lib.hid ?_) (Lib.hid ?_)
      · intro W A2 n2 c2 f2 hN hW
        have hlq := long_iff hN.lt
        rw [hN.val] at hlq
        have htl2 : tl2 n2 m f2 g = false := by unfold tl2; simp only [Bool.or_eq_false_iff, decide_eq_false_iff_not]; exact ⟨fun h => by have := hlq.1 h; omega, by omega⟩
        have m1 : mulR n2 m f2 g = Q * sm (2 ^ 32) g m := by unfold mulR; rw [htl2, if_neg Bool.false_ne_true, hN.val]; exact fitR_lt (by omega)
        have m2 : mulE n2 m f2 g = 0 := by unfold mulE; rw [htl2, if_neg Bool.false_ne_true, hN.val]; exact fitE_lt (by omega)
        have := mul_any A2 B n2 m c2 d f2 g W hN.rd (hB.below hW) hN.lt lg' hN.le hm hN.cap hdm
        rw [m1, m2] at this
        exact this
      · intro W A2 n2 c2 f2 A3 n3 c3 f3 hP hR3
        have hl2 := long_iff hP.lt
        have hl3 := long_iff hR3.lt
        rw [hP.val] at hl2
        rw [hR3.val] at hl3
        have hno : ¬ (4096 < tr f2 n2 ∨ lg (fun _ => n3) (fun _ => f3) 1 = true) := by
          simp only [lg, Bool.false_or, decide_eq_true_eq]
          rintro (h | h)
          · have := hl2.1 h; omega
          · have := hl3.1 h; omega
        have ht1 : tot (fun _ => n3) (fun _ => f3) 1 = R := by simp [tot, hR3.val]
        have a1 : addR n2 f2 1 (fun _ => n3) (fun _ => f3) = sm (2 ^ 32) f n := by unfold addR; rw [if_neg hno, ht1, hP.val, hdm2]; exact fitR_lt hfb
        have a2 : addE n2 f2 1 (fun _ => n3) (fun _ => f3) = 0 := by unfold addE; rw [if_neg hno, ht1, hP.val, hdm2]; exact fitE_lt hfb
        have hP_short : n2 ≤ 4096 := Nat.le_of_not_lt fun h => by
          have h1 := trm_long hP.trm h
          rw [hP.val] at h1
          omega
        have hadd := add_any A2 n2 c2 f2 (some ⟨W.heap.size, 0, none⟩) 1 1 _ _ _ _ _ (hP.rd.alloc (.cells #[.slice A3 n3 c3] 22)) hP.le hP.cap hP.lt (rds_one W A3 n3 c3 f3 22 hR3.rd hR3.le hR3.cap) (Nat.le_refl _) (by simp [maxLen]) (fun _ _ => hR3.lt) (by have : n2 ≤ 4096 := hP_short; omega)
        rw [a1, a2] at hadd
        exact hadd
      · intro W A2 n2 c2 f2 hN hW
        have := Cmp_any A2 A n2 n c2 c f2 f W hN.rd (hA.below hW) hN.lt lf hN.le hn hN.cap hcm
        rw [hN.val, cm_eq rfl] at this
        exact this
      · intro W A2 n2 c2 f2 hN hW
        have := Cmp_any A2 B n2 m c2 d f2 g W hN.rd (hB.below hW) hN.lt lg' hN.le hm hN.cap hdm
        rw [hN.val, cm_lt hrl] at this
        exact this
end Go.Proofs.Ytfdgpfkjpjhmjaa.nn
