/- The walk of the law NatOrder: it returns true. -/
import Derived.Test.YtfdgpfkjpjhmjaaMul
import Derived.Test.YtfdgpfkjpjhmjaaShifts
namespace Go.Proofs.Ytfdgpfkjpjhmjaa.nn
open Go.RowKit

theorem cm_neg (a b : Nat) : cm b a = - cm a b := by
  unfold cm
  by_cases h1 : a < b
  · rw [if_neg (by omega), if_neg (by omega), if_pos h1]; rfl
  · by_cases h2 : b < a
    · rw [if_pos h2, if_neg h1, if_neg (by omega)]
    · rw [if_neg h2, if_pos (by omega), if_neg h1, if_pos (by omega)]; rfl
theorem cm_bd (a b : Nat) : -1 ≤ cm a b ∧ cm a b ≤ 1 := by
  unfold cm
  split
  · omega
  · split <;> omega
theorem cm_ge0 {a b : Nat} (h : b ≤ a) : 0 ≤ cm a b ∧ cm a b ≤ 1 := cm_ge (by omega)

theorem num_kept {w w' : World} {A : Option Addr} {n c : Nat} {f : Nat → Nat} {R : Nat} (h : Num w A n c f R) (hs : w.heap.size ≤ w'.heap.size) (hk : ∀ b o, b < w.heap.size → w'.cell? ⟨b, o, none⟩ = w.cell? ⟨b, o, none⟩) : Num w' A n c f R :=
  ⟨h.le, h.cap, h.rd.keep hs hk, h.lt, h.trm, h.val⟩

/-- an answer without an error -/
def Res0 (w w' : World) (e : Ending) (R : Nat) : Prop :=
  ∃ A n c f, e = .returned (.tuple #[.slice A n c, .int .i64 0]) ∧ Num w' A n c f R ∧ Below w.heap.size w w'
theorem Res.zero {w w' : World} {e : Ending} {R : Nat} (h : Res w w' e R 0) : Res0 w w' e R := h

set_option maxHeartbeats 1000000 in
theorem order_long (A B : Option Addr) (n m c d : Nat) (w : World) (hn : n ≤ maxLen) (hm : m ≤ maxLen) (h : 1000 < n ∨ 1000 < m) :
    Calls Try.prog 9 #[.slice A n c, .slice B m d] w fun e w' => e = .returned (.bool true) ∧ Below w.heap.size w w' := by
  unfold maxLen at hn hm
  by_cases h1 : 1000 < n
  · clear h
    go_enter Try.func9, Try.ntmps9
    go_wp2_with (go_at_call 16; refine (awake_any _).mono ?_; rintro e w6 ⟨rfl, hb6⟩)
    go_ret
    exact ⟨rfl, hb6⟩
  · have h2 : 1000 < m := by omega
    have h3 : n ≤ 1000 := by omega
    clear h h1
    go_enter Try.func9, Try.ntmps9
    go_wp2_with (go_at_call 16; refine (awake_any _).mono ?_; rintro e w6 ⟨rfl, hb6⟩)
    go_ret
    exact ⟨rfl, hb6⟩

set_option maxRecDepth 100000 in
set_option maxHeartbeats 2000000 in
theorem order_walk (A B : Option Addr) (n m c d K S P : Nat) (z t u : Int) (w : World) (hn : n ≤ 1000) (hm : m ≤ 1000) (z0 : -1 ≤ z) (z1 : z ≤ 1) (t0 : 0 ≤ t) (u0 : 0 ≤ u)
    (HADD : Hid (Calls Try.prog 11 #[.slice A n c, .slice (some ⟨w.heap.size, 0, none⟩) 1 1] (w.alloc (.cells #[.slice B m d] 22)) fun e w' => Res0 (w.alloc (.cells #[.slice B m d] 22)) w' e S))
    (HM1 : Hid (∀ W, Below w.heap.size w W → Calls Try.prog 19 #[.slice A n c, .slice B m d] W fun e w' => Res0 W w' e P))
    (HM2 : Hid (∀ W, Below w.heap.size w W → Calls Try.prog 19 #[.slice B m d, .slice A n c] W fun e w' => Res0 W w' e P))
    (HC1 : Hid (∀ W, Below w.heap.size w W → Calls Try.prog 14 #[.slice A n c, .slice B m d] W fun e w' => e = .returned (.int .i64 z) ∧ ∃ j, w' = W.drewN j))
    (HC2 : Hid (∀ W, Below w.heap.size w W → Calls Try.prog 14 #[.slice B m d, .slice A n c] W fun e w' => e = .returned (.int .i64 (-z)) ∧ ∃ j, w' = W.drewN j))
    (HCS : Hid (∀ W A2 n2 c2 f2, Num W A2 n2 c2 f2 S → Below w.heap.size w W → Calls Try.prog 14 #[.slice A2 n2 c2, .slice A n c] W fun e w' => e = .returned (.int .i64 t) ∧ ∃ j, w' = W.drewN j))
    (HB : Hid (∀ W, Below w.heap.size w W → Calls Try.prog 30 #[.slice B m d] W fun e w' => e = .returned (.int .i64 (K : Nat)) ∧ W = w'))
    (HCP : Hid (0 < K → ∀ W A2 n2 c2 f2, Num W A2 n2 c2 f2 P → Below w.heap.size w W → Calls Try.prog 14 #[.slice A2 n2 c2, .slice A n c] W fun e w' => e = .returned (.int .i64 u) ∧ ∃ j, w' = W.drewN j)) :
    Calls Try.prog 9 #[.slice A n c, .slice B m d] w fun e w' => e = .returned (.bool true) ∧ Below w.heap.size w w' := by
  have hbw1 : Below w.heap.size w (w.alloc (.cells #[.slice B m d] 22)) := (Below.refl _ _).alloc (Nat.le_refl _) _
  go_enter Try.func9, Try.ntmps9
  go_wp2_with fail
  refine HADD.out.mono ?_
  rintro e w2 ⟨A2, n2, c2, f2, rfl, hn2, hb2⟩
  have hbw2 : Below w.heap.size w w2 := hbw1.trans (hb2.mono hbw1.size)
  have N2 := Lib.hid hn2
  clear hn2 hb2
  go_wp2_with fail
  refine (HM1.out _ hbw2).mono ?_
  rintro e w3 ⟨A3, n3, c3, f3, rfl, hn3, hb3⟩
  have hbw3 : Below w.heap.size w w3 := hbw2.trans (hb3.mono hbw2.size)
  have N3 := Lib.hid hn3
  clear hn3
  go_wp2_with fail
  refine (HM2.out _ hbw3).mono ?_
  rintro e w4 ⟨A4, n4, c4, f4, rfl, hn4, hb4⟩
  have hbw4 : Below w.heap.size w w4 := hbw3.trans (hb4.mono hbw3.size)
  have hb34 := hb3.trans (hb4.mono hb3.size)
  have N3' : Hid (Num w4 A3 n3 c3 f3 P) := Lib.hid ⟨N3.out.le, N3.out.cap, N3.out.rd.below hb4, N3.out.lt, N3.out.trm, N3.out.val⟩
  have N2' : Hid (Num w4 A2 n2 c2 f2 S) := Lib.hid ⟨N2.out.le, N2.out.cap, N2.out.rd.below hb34, N2.out.lt, N2.out.trm, N2.out.val⟩
  have HL := Lib.hid (limbs_any A3 A4 n3 n4 c3 c4 f3 f4 P w4 N3'.out hn4)
  clear hn4 hb3 hb4 hb34 N2 N3
  go_wp2_with fail
  refine HL.out.mono ?_
  rintro e w' ⟨rfl, j1, rfl⟩
  go_wp2_with fail
  refine (HC1.out _ ?_).mono ?_
  · (repeat (first | exact hbw4 | refine drew_below ?_ _))
  rintro e w' ⟨rfl, j2, rfl⟩
  go_wp2_with fail
  refine (HC2.out _ ?_).mono ?_
  · (repeat (first | exact hbw4 | refine drew_below ?_ _))
  rintro e w' ⟨rfl, j3, rfl⟩
  go_wp2_with fail
  refine (HCS.out _ A2 n2 c2 f2 (num_kept N2'.out ?_ ?_) ?_).mono ?_
  · exact Nat.le_refl _
  · intro b o _; rfl
  · (repeat (first | exact hbw4 | refine drew_below ?_ _))
  rintro e w' ⟨rfl, j4, rfl⟩
  go_wp2_with fail
  refine (HB.out _ ?_).mono ?_
  · (repeat (first | exact hbw4 | refine drew_below ?_ _))
  rintro e w' ⟨rfl, rfl⟩
  rcases Nat.eq_zero_or_pos K with hK | hK
  · have k1 : ((K : Int) == 0) = true := by rw [hK]; rfl
    clear hK
    go_wp2_with fail
    refine (awake_any _).mono ?_
    rintro e w6 ⟨rfl, hb6⟩
    have hend : Below w.heap.size w w6 := by
      refine Below.trans ?_ (hb6.mono ?_)
      · (repeat (first | exact hbw4 | refine drew_below ?_ _))
      · exact hbw4.size
    go_wp2
    go_ret
    exact ⟨rfl, hend⟩
  · have k1 : ((K : Int) == 0) = false := by rw [beq_eq_false_iff_ne]; omega
    have HCP' := Lib.hid (HCP.out hK)
    clear hK
    go_wp2_with fail
    refine (HCP'.out _ A3 n3 c3 f3 (num_kept N3'.out ?_ ?_) ?_).mono ?_
    · exact Nat.le_refl _
    · intro b o _; rfl
    · (repeat (first | exact hbw4 | refine drew_below ?_ _))
    rintro e w' ⟨rfl, j5, rfl⟩
    go_wp2_with fail
    refine (awake_any _).mono ?_
    rintro e w6 ⟨rfl, hb6⟩
    have hend : Below w.heap.size w w6 := by
      refine Below.trans ?_ (hb6.mono ?_)
      · (repeat (first | exact hbw4 | refine drew_below ?_ _))
      · exact hbw4.size
    go_wp2
    go_ret
    exact ⟨rfl, hend⟩
theorem order_any (A B : Option Addr) (n m c d : Nat) (f g : Nat → Nat) (w : World) (hA : Rd w .u32 A n f) (lf : Lt (2 ^ 32) f n) (hn : n ≤ c) (hc : c * 4 ≤ 140737488351232) (hB : Rd w .u32 B m g) (lg' : Lt (2 ^ 32) g m) (hm : m ≤ d) (hd : d * 4 ≤ 140737488351232) :
    Calls Try.prog 9 #[.slice A n c, .slice B m d] w fun e w' => e = .returned (.bool true) ∧ Below w.heap.size w w' := by
  have hcm : c ≤ maxLen := by unfold maxLen; omega
  have hdm : d ≤ maxLen := by unfold maxLen; omega
  by_cases hlong : 1000 < n ∨ 1000 < m
  · exact order_long A B n m c d w (Nat.le_trans hn hcm) (Nat.le_trans hm hdm) hlong
  · have hn1 : n ≤ 1000 := by omega
    have hm1 : m ≤ 1000 := by omega
    have hf := sm_lt lf
    have hg := sm_lt lg'
    have tf := tr_le f n
    have tg := tr_le g m
    have hpf := Nat.pow_pos (n := n) (Nat.two_pow_pos 32)
    have hpg := Nat.pow_pos (n := m) (Nat.two_pow_pos 32)
    have hP : sm (2 ^ 32) f n * sm (2 ^ 32) g m < big := by
      have h1 : sm (2 ^ 32) f n * sm (2 ^ 32) g m < (2 ^ 32) ^ n * (2 ^ 32) ^ m := Nat.mul_lt_mul'' hf hg
      rw [← Nat.pow_add] at h1
      exact Nat.lt_of_lt_of_le h1 (le_big (by omega))
    have hS : sm (2 ^ 32) f n + sm (2 ^ 32) g m < big := by
      have h1 : (2 ^ 32) ^ n ≤ (2 ^ 32) ^ (n + m) := Nat.pow_le_pow_right (Nat.two_pow_pos 32) (by omega)
      have h2 : (2 ^ 32) ^ m ≤ (2 ^ 32) ^ (n + m) := Nat.pow_le_pow_right (Nat.two_pow_pos 32) (by omega)
      have h3 : (2 ^ 32) ^ (n + m) * 2 ^ 32 ≤ big := by rw [← pow_s]; exact le_big (by omega)
      omega
    have htl : tl2 n m f g = false := by unfold tl2; simp only [Bool.or_eq_false_iff, decide_eq_false_iff_not]; omega
    have htl' : tl2 m n g f = false := by unfold tl2; simp only [Bool.or_eq_false_iff, decide_eq_false_iff_not]; omega
    have m1 : mulR n m f g = sm (2 ^ 32) f n * sm (2 ^ 32) g m := by unfold mulR; rw [htl, if_neg Bool.false_ne_true]; exact fitR_lt hP
    have m2 : mulE n m f g = 0 := by unfold mulE; rw [htl, if_neg Bool.false_ne_true]; exact fitE_lt hP
    have hP' : sm (2 ^ 32) g m * sm (2 ^ 32) f n < big := by rw [Nat.mul_comm]; exact hP
    have m3 : mulR m n g f = sm (2 ^ 32) f n * sm (2 ^ 32) g m := by unfold mulR; rw [htl', if_neg Bool.false_ne_true, Nat.mul_comm (sm (2 ^ 32) f n)]; exact fitR_lt hP'
    have m4 : mulE m n g f = 0 := by unfold mulE; rw [htl', if_neg Bool.false_ne_true]; exact fitE_lt hP'
    have hno : ¬ (4096 < tr f n ∨ lg (fun _ => m) (fun _ => g) 1 = true) := by
      simp only [lg, Bool.false_or, decide_eq_true_eq]
      omega
    have ht1 : tot (fun _ => m) (fun _ => g) 1 = sm (2 ^ 32) g m := by simp [tot]
    have a1 : addR n f 1 (fun _ => m) (fun _ => g) = sm (2 ^ 32) f n + sm (2 ^ 32) g m := by unfold addR; rw [if_neg hno, ht1]; exact fitR_lt hS
    have a2 : addE n f 1 (fun _ => m) (fun _ => g) = 0 := by unfold addE; rw [if_neg hno, ht1]; exact fitE_lt hS
    have hadd := add_any A n c f (some ⟨w.heap.size, 0, none⟩) 1 1 _ _ _ _ _ (hA.alloc (.cells #[.slice B m d] 22)) hn hcm lf (rds_one w B m d g 22 hB hm hdm) (Nat.le_refl _) (by simp [maxLen]) (fun _ _ => lg') (by omega)
    rw [a1, a2] at hadd
    obtain ⟨z0, z1⟩ := cm_bd (sm (2 ^ 32) f n) (sm (2 ^ 32) g m)
    obtain ⟨t0, _⟩ := cm_ge0 (a := sm (2 ^ 32) f n + sm (2 ^ 32) g m) (b := sm (2 ^ 32) f n) (by omega)
    have hu : 0 < bl (sm (2 ^ 32) g m) → sm (2 ^ 32) f n ≤ sm (2 ^ 32) f n * sm (2 ^ 32) g m := fun h => by
      have h0 : sm (2 ^ 32) g m ≠ 0 := by intro h0; rw [h0, bl_zero] at h; omega
      exact Nat.le_mul_of_pos_right _ (by omega)
    have hcmp : ∀ W A2 n2 c2 f2 R, Num W A2 n2 c2 f2 R → Below w.heap.size w W → Calls Try.prog 14 #[.slice A2 n2 c2, .slice A n c] W fun e w' => e = .returned (.int .i64 (cm R (sm (2 ^ 32) f n))) ∧ ∃ j, w' = W.drewN j := fun W A2 n2 c2 f2 R hN hW => by
      have := Cmp_any A2 A n2 n c2 c f2 f W hN.rd (hA.below hW) hN.lt lf hN.le hn hN.cap hcm
      rw [hN.val] at this
      exact this
    rcases Nat.eq_zero_or_pos (bl (sm (2 ^ 32) g m)) with hb0 | hb0
    · exact order_walk A B n m c d (bl (sm (2 ^ 32) g m)) _ _ _ _ 0 w hn1 hm1 z0 z1 t0 (by omega) (Lib.hid hadd)
        (Lib.hid fun W hW => by have := mul_any A B n m c d f g W (hA.below hW) (hB.below hW) lf lg' hn hm hcm hdm; rw [m1, m2] at this; exact this)
        (Lib.hid fun W hW => by have := mul_any B A m n d c g f W (hB.below hW) (hA.below hW) lg' lf hm hn hdm hcm; rw [m3, m4] at this; exact this)
        (Lib.hid fun W hW => Cmp_any A B n m c d f g W (hA.below hW) (hB.below hW) lf lg' hn hm hcm hdm)
        (Lib.hid fun W hW => by have := Cmp_any B A m n d c g f W (hB.below hW) (hA.below hW) lg' lf hm hn hdm hcm; rw [cm_neg] at this; exact this)
        (Lib.hid fun W A2 n2 c2 f2 hN hW => hcmp W A2 n2 c2 f2 _ hN hW)
        (Lib.hid fun W hW => bits_any B m d g W (hB.below hW) lg' hm hdm (by omega))
        (Lib.hid fun h => absurd h (by omega))
    · exact order_walk A B n m c d (bl (sm (2 ^ 32) g m)) _ _ _ _ _ w hn1 hm1 z0 z1 t0 (cm_ge0 (hu hb0)).1 (Lib.hid hadd)
        (Lib.hid fun W hW => by have := mul_any A B n m c d f g W (hA.below hW) (hB.below hW) lf lg' hn hm hcm hdm; rw [m1, m2] at this; exact this)
        (Lib.hid fun W hW => by have := mul_any B A m n d c g f W (hB.below hW) (hA.below hW) lg' lf hm hn hdm hcm; rw [m3, m4] at this; exact this)
        (Lib.hid fun W hW => Cmp_any A B n m c d f g W (hA.below hW) (hB.below hW) lf lg' hn hm hcm hdm)
        (Lib.hid fun W hW => by have := Cmp_any B A m n d c g f W (hB.below hW) (hA.below hW) lg' lf hm hn hdm hcm; rw [cm_neg] at this; exact this)
        (Lib.hid fun W A2 n2 c2 f2 hN hW => hcmp W A2 n2 c2 f2 _ hN hW)
        (Lib.hid fun W hW => bits_any B m d g W (hB.below hW) lg' hm hdm (by omega))
        (Lib.hid fun _ W A2 n2 c2 f2 hN hW => hcmp W A2 n2 c2 f2 _ hN hW)
end Go.Proofs.Ytfdgpfkjpjhmjaa.nn
