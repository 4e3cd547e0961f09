/- The walks of the document's bit and Div, of numbers of at most 200 limbs. -/
import Derived.Test.YtfdgpfkjpjhmjaaDiv
import Derived.Test.YtfdgpfkjpjhmjaaRefTwice
import Derived.Test.YtfdgpfkjpjhmjaaRefSub
namespace Go.Proofs.Ytfdgpfkjpjhmjaa.nn
open Go.RowKit

/-- one bit of limbs -/
theorem bit_val {f : Nat → Nat} {n i q r : Nat} (lf : Lt (2 ^ 32) f n) (hi : i = 32 * q + r) (hr : r < 32) (hq : q < n) : f q / 2 ^ r % 2 = sm (2 ^ 32) f n / 2 ^ i % 2 := by
  obtain ⟨m, rfl⟩ : ∃ m, n = q + (m + 1) := ⟨n - q - 1, by omega⟩
  have h1 := sm_lt (lf.mono (by omega : q ≤ q + (m + 1)))
  rw [sm_split, hi, Nat.pow_add, Nat.pow_mul, ← Nat.div_div_eq_div_mul, Nat.add_mul_div_right _ _ (Nat.pow_pos (Nat.two_pow_pos 32)), Nat.div_eq_of_lt h1, Nat.zero_add]
  rw [sm_first (2 ^ 32) f q m]
  generalize sm (2 ^ 32) (fun j => f (q + 1 + j)) m = X
  have e : X * 2 ^ 32 = X * 2 ^ (31 - r) * 2 * 2 ^ r := by
    rw [Nat.mul_assoc, Nat.mul_assoc, ← Nat.pow_succ', ← Nat.pow_add]
    congr 2
    omega
  rw [e, Nat.add_mul_div_right _ _ (Nat.two_pow_pos r)]
  omega

set_option maxHeartbeats 400000 in
theorem bit_any (A : Option Addr) (n c i : Nat) (f : Nat → Nat) (w : World) (hA : Rd w .u32 A n f) (lf : Lt (2 ^ 32) f n) (hn : n ≤ 1000000) (hi : i < 32 * n) :
    Calls Try.prog 51 #[.slice A n c, .int .i64 i] w fun e w' => e = .returned (.int .u32 ((sm (2 ^ 32) f n / 2 ^ i % 2 : Nat) : Int)) ∧ w = w' := by
  obtain ⟨q, hq⟩ : ∃ q, i / 32 = q := ⟨_, rfl⟩
  obtain ⟨r, hr⟩ : ∃ r, i % 32 = r := ⟨_, rfl⟩
  have hv := bit_val (i := i) (q := q) (r := r) lf (by omega) (by omega) (by omega)
  have bq : q < n := by omega
  have br : r < 32 := by omega
  have e1 : (i : Int) / 32 = (q : Int) := by omega
  have e2 : (i : Int) % 32 = (r : Int) := by omega
  obtain ⟨b, off, rfl, _, hcell⟩ := hA (by omega)
  have hx := hcell q bq
  have bx : f q < 4294967296 := lf q bq
  obtain ⟨x, ex⟩ : ∃ x, f q = x := ⟨_, rfl⟩
  rw [ex] at hx bx hv
  have hb : bits BinOp.and IntKind.u32 ((x : Int) / 2 ^ r) 1 = ((x / 2 ^ r % 2 : Nat) : Int) := by
    have c2 : (x : Int) / 2 ^ r = ((x / 2 ^ r : Nat) : Int) := by simp
    have h1 : x / 2 ^ r < 4294967296 := Nat.lt_of_le_of_lt (Nat.div_le_self _ _) bx
    have h2 := u32_and_nat (x / 2 ^ r) 1 h1 (by decide)
    rw [Nat.and_one_is_mod] at h2
    rw [c2]
    exact h2
  have HV := Lib.hid hv
  have HBB := Lib.hid hb
  clear hcell hq hr hv ex lf hb
  go_enter Try.func51, Try.ntmps51
  go_wp2
  go_ret
  rw [← HV.out, ← HBB.out]
  exact ⟨rfl, rfl⟩

theorem dv_ge {M D : Nat} (hD : 0 < D) (h : D ≤ 2 * (M / 2 % D) + M % 2) : 2 * (M / 2 / D) + 1 = M / D ∧ 2 * (M / 2 % D) + M % 2 - D = M % D := by
  have h1 := Nat.div_add_mod (M / 2) D
  have h2 := Nat.mod_lt (M / 2) hD
  have h3 : M = (2 * (M / 2 / D) + 1) * D + (2 * (M / 2 % D) + M % 2 - D) := by
    rw [Nat.add_mul, Nat.mul_assoc, Nat.mul_comm (M / 2 / D) D]
    omega
  have h4 : 2 * (M / 2 % D) + M % 2 - D < D := by omega
  generalize 2 * (M / 2 / D) + 1 = q at *
  generalize 2 * (M / 2 % D) + M % 2 - D = r at *
  rw [h3, Nat.mul_add_div' h4 hD, Nat.mul_add_mod_of_lt' h4 hD]
  exact ⟨rfl, rfl⟩
theorem dv_lt {M D : Nat} (hD : 0 < D) (h : 2 * (M / 2 % D) + M % 2 < D) : 2 * (M / 2 / D) + 0 = M / D ∧ 2 * (M / 2 % D) + M % 2 = M % D := by
  have h1 := Nat.div_add_mod (M / 2) D
  have h3 : M = (2 * (M / 2 / D)) * D + (2 * (M / 2 % D) + M % 2) := by
    rw [Nat.mul_assoc, Nat.mul_comm (M / 2 / D) D]
    omega
  rw [Nat.add_zero]
  generalize 2 * (M / 2 / D) = q at *
  generalize 2 * (M / 2 % D) + M % 2 = r at *
  rw [h3, Nat.mul_add_div' h hD, Nat.mul_add_mod_of_lt' h hD]
  exact ⟨rfl, rfl⟩

/-- what holds when t bits are still to come -/
structure DvRel (w wr : World) (Aq : Option Addr) (nq cq : Nat) (fq : Nat → Nat) (Ar : Option Addr) (nr cr : Nat) (fr : Nat → Nat) (N D t : Nat) : Prop where
  q : Num wr Aq nq cq fq (N / 2 ^ t / D)
  r : Num wr Ar nr cr fr (N / 2 ^ t % D)
  b : Below w.heap.size w wr

theorem half_pow (N i : Nat) : N / 2 ^ (i + 1) = N / 2 ^ i / 2 := by rw [Nat.pow_succ, Nat.div_div_eq_div_mul]

theorem num_short {w : World} {A : Option Addr} {n c m R : Nat} {f : Nat → Nat} (h : Num w A n c f R) (hR : R < (2 ^ 32) ^ m) : n ≤ m := by
  have h1 := h.val
  have h2 := h.trm
  rcases Nat.lt_or_ge m n with c | c
  · obtain ⟨k, rfl⟩ : ∃ k, n = k + 1 := ⟨n - 1, by omega⟩
    rcases h2 with tf | tf
    · omega
    · have a := sm_ge (B := 2 ^ 32) (f := f) (n := k) (by simpa using tf)
      have b : (2 ^ 32) ^ m ≤ (2 ^ 32) ^ k := Nat.pow_le_pow_right (Nat.two_pow_pos 32) (by omega)
      omega
  · exact c

theorem num_bel {w w' : World} {A : Option Addr} {n c R : Nat} {f : Nat → Nat} (h : Num w A n c f R) (hb : Below w.heap.size w w') : Num w' A n c f R := ⟨h.le, h.cap, h.rd.below hb, h.lt, h.trm, h.val⟩

set_option maxRecDepth 100000 in
set_option maxHeartbeats 2000000 in
theorem rdiv_any (A B : Option Addr) (n m c d : Nat) (f g : Nat → Nat) (w : World) (hA : Rd w .u32 A n f) (hB : Rd w .u32 B m g) (lf : Lt (2 ^ 32) f n) (lg : Lt (2 ^ 32) g m)
    (hnc : n ≤ c) (hmd : m ≤ d) (hc : c * 4 ≤ 140737488351232) (hd : d * 4 ≤ 140737488351232) (hn : n ≤ 200) (hm : m ≤ 200) :
    Calls Try.prog 25 #[.slice A n c, .slice B m d] w fun e w' => Res2 w w' e (divQ n m f g) (divR n m f g) (divE n m f g) := by
  have h2 := rds_two w A B n c m d f g 22 hA hnc (by unfold maxLen; omega) hB hmd (by unfold maxLen; omega)
  have hlong := rlong_any _ 2 2 _ _ _ _ _ h2 (by simp [maxLen]) (fun i hi => by
    rcases i with _ | _ | i
    · show n * 4 ≤ _; omega
    · show m * 4 ≤ _; omega
    · omega)
  have tf := tr_le f n
  have tg := tr_le g m
  have htl : tl2 n m f g = false := by unfold tl2; simp only [Bool.or_eq_false_iff, decide_eq_false_iff_not]; omega
  rw [lg_two, show (decide (4096 < tr f n) || decide (4096 < tr g m)) = tl2 n m f g from rfl, htl] at hlong
  have HL := Lib.hid hlong
  have hbw1 : Below w.heap.size w (w.alloc (.cells #[.slice A n c, .slice B m d] 22)) := (Below.refl _ _).alloc (Nat.le_refl _) _
  have HBT : Hid (∀ W, Below w.heap.size w W → Calls Try.prog 31 #[.slice B m d] W fun e w' => e = .returned (.int .i64 (bl (sm (2 ^ 32) g m))) ∧ Below W.heap.size W w') := Lib.hid fun W hW => rbits_any B m d g W (hB.below hW) lg hmd (by omega)
  have HAT : Hid (∀ W, Below w.heap.size w W → Calls Try.prog 31 #[.slice A n c] W fun e w' => e = .returned (.int .i64 (bl (sm (2 ^ 32) f n))) ∧ Below W.heap.size W w') := Lib.hid fun W hW => rbits_any A n c f W (hA.below hW) lf hnc (by omega)
  clear hlong h2 tf tg
  by_cases hz : sm (2 ^ 32) g m = 0
  · have H1 : Hid (divQ n m f g = 0) := Lib.hid (by unfold divQ; rw [htl, if_neg Bool.false_ne_true, hz]; exact Nat.div_zero _)
    have H2 : Hid (divR n m f g = 0) := Lib.hid (by unfold divR; rw [htl, if_neg Bool.false_ne_true, if_pos hz])
    have H3 : Hid (divE n m f g = 1) := Lib.hid (by unfold divE; rw [htl, if_neg Bool.false_ne_true, if_pos hz])
    rw [hz, bl_zero] at HBT
    clear htl hz
    go_enter Try.func25, Try.ntmps25
    go_wp2_with fail
    refine HL.out.mono ?_
    rintro e w2 ⟨rfl, hb2⟩
    have hbw2 : Below w.heap.size w w2 := hbw1.trans (hb2.mono (by rw [hsz]; omega))
    go_wp2_with fail
    refine (HBT.out _ hbw2).mono ?_
    rintro e w3 ⟨rfl, hb3⟩
    have hbw3 : Below w.heap.size w w3 := hbw2.trans (hb3.mono hbw2.size)
    go_wp2
    go_ret3
    rw [H1.out, H2.out, H3.out]
    exact ⟨none, 0, 0, _, none, 0, 0, _, rfl, num_nil _, num_nil _, hbw3⟩
  · have H1 : Hid (divQ n m f g = sm (2 ^ 32) f n / sm (2 ^ 32) g m) := Lib.hid (by unfold divQ; rw [htl, if_neg Bool.false_ne_true])
    have H2 : Hid (divR n m f g = sm (2 ^ 32) f n % sm (2 ^ 32) g m) := Lib.hid (by unfold divR; rw [htl, if_neg Bool.false_ne_true, if_neg hz])
    have H3 : Hid (divE n m f g = 0) := Lib.hid (by unfold divE; rw [htl, if_neg Bool.false_ne_true, if_neg hz])
    have hbpos := (bl_ge hz).2
    have hD0 : 0 < sm (2 ^ 32) g m := by omega
    have hNlt := sm_lt lf
    have hDlt := sm_lt lg
    have hKn : bl (sm (2 ^ 32) f n) ≤ 32 * n := bl_le (by rw [Nat.pow_mul]; exact hNlt)
    have h0 : sm (2 ^ 32) f n / 2 ^ bl (sm (2 ^ 32) f n) = 0 := Nat.div_eq_of_lt (bl_lt _)
    have HBIT : Hid (∀ W i, Below w.heap.size w W → i < 32 * n → Calls Try.prog 51 #[.slice A n c, .int .i64 i] W fun e w' => e = .returned (.int .u32 ((sm (2 ^ 32) f n / 2 ^ i % 2 : Nat) : Int)) ∧ W = w') := Lib.hid fun W i hW hi => bit_any A n c i f W (hA.below hW) lf (by omega) hi
    have HRB : Hid (∀ W, Below w.heap.size w W → Rd W .u32 B m g) := Lib.hid fun W hW => hB.below hW
    have LG := Lib.hid lg
    obtain ⟨L, hL⟩ : ∃ L, bl (sm (2 ^ 32) g m) = L := ⟨_, rfl⟩
    rw [hL] at HBT hbpos
    obtain ⟨N, hN⟩ : ∃ N, sm (2 ^ 32) f n = N := ⟨_, rfl⟩
    rw [hN] at H1 H2 hNlt hKn h0 HBIT HAT
    obtain ⟨D, hDD⟩ : ∃ D, sm (2 ^ 32) g m = D := ⟨_, rfl⟩
    rw [hDD] at H1 H2 hD0 hDlt
    have HDD := Lib.hid hDD
    obtain ⟨K, hK⟩ : ∃ K, bl N = K := ⟨_, rfl⟩
    rw [hK] at HAT hKn h0
    have H0 := Lib.hid h0
    have HNL := Lib.hid hNlt
    have HDL := Lib.hid hDlt
    have hLb : ((L : Int) == 0) = false := by rw [beq_eq_false_iff_ne]; omega
    clear htl hz hbpos hL hN hDD hK h0 hNlt hDlt lf lg hA hB
    go_enter Try.func25, Try.ntmps25
    go_wp2_with fail
    refine HL.out.mono ?_
    rintro e w2 ⟨rfl, hb2⟩
    have hbw2 : Below w.heap.size w w2 := hbw1.trans (hb2.mono (by rw [hsz]; omega))
    go_wp2_with fail
    refine (HBT.out _ hbw2).mono ?_
    rintro e w3 ⟨rfl, hb3⟩
    have hbw3 : Below w.heap.size w w3 := hbw2.trans (hb3.mono hbw2.size)
    go_wp2_with fail
    refine (HAT.out _ hbw3).mono ?_
    rintro e w4 ⟨rfl, hb4⟩
    have hbw4 : Below w.heap.size w w4 := hbw3.trans (hb4.mono hbw3.size)
    clear hb2 hb3 hb4 hbw1 hbw2 hbw3 hLb
    go_wp2
    go_loopw [7, 8, 9] (fun s7 s8 s9 wr => ∃ (t : Nat) (Aq : Option Addr) (nq cq : Nat) (fq : Nat → Nat) (Ar : Option Addr) (nr cr : Nat) (fr : Nat → Nat), t ≤ K ∧ s7 = .slice Aq nq cq ∧ s8 = .slice Ar nr cr ∧ s9 = .int .i64 ((t : Int) - 1) ∧ Hid (DvRel w wr Aq nq cq fq Ar nr cr fr N D t)) (fun _ _ s9 _ => (intOf s9 + 1).toNat)
    case atStart => exact ⟨K, none, 0, 0, fun _ => 0, none, 0, 0, fun _ => 0, Nat.le_refl _, rfl, rfl, rfl, Lib.hid ⟨by rw [H0.out, Nat.zero_div]; exact num_nil _, by rw [H0.out, Nat.zero_mod]; exact num_nil _, hbw4⟩⟩
    case round =>
      clear hbw4
      obtain ⟨t, Aq, nq, cq, fq, Ar, nr, cr, fr, ht, rfl, rfl, rfl, HH⟩ := hrel
      by_cases h1 : 0 < t
      · obtain ⟨i, rfl⟩ : ∃ i, t = i + 1 := ⟨t - 1, by omega⟩
        have bq : nq ≤ 200 := Nat.le_trans (num_short HH.out.q (Nat.lt_of_le_of_lt (Nat.le_trans (Nat.div_le_self _ _) (Nat.div_le_self _ _)) HNL.out)) hn
        have br : nr ≤ 200 := Nat.le_trans (num_short HH.out.r (Nat.lt_trans (Nat.mod_lt _ hD0) HDL.out)) hm
        have hp := half_pow N i
        have hq := HH.out.q
        have hr := HH.out.r
        have hb := HH.out.b
        rw [hp] at hq hr
        have hge := dv_ge (M := N / 2 ^ i) hD0
        have hlt := dv_lt (M := N / 2 ^ i) hD0
        have hB2 := HBIT.out wr i hb (by omega)
        have hb1 : N / 2 ^ i % 2 ≤ 1 := by omega
        obtain ⟨x, hx⟩ : ∃ x, N / 2 ^ i % 2 = x := ⟨_, rfl⟩
        rw [hx] at hge hlt hB2 hb1
        have HGE := Lib.hid hge
        have HLT := Lib.hid hlt
        have HB2 := Lib.hid hB2
        have HQ := Lib.hid hq
        have HR := Lib.hid hr
        have HBW := Lib.hid hb
        have hs0 : (((i + 1 : Nat) : Int) - 1) = (i : Int) := by omega
        rw [hs0]
        clear hs0 hx hge hlt hB2 hq hr hb hp HH
        go_wp2_with fail
        refine HB2.out.mono ?_
        rintro e w' ⟨rfl, rfl⟩
        go_wp2_with fail
        refine (twice_any Ar nr cr x fr _ HR.out.rd HR.out.lt (by omega) hb1).mono ?_
        rintro e w5 ⟨A5, n5, c5, f5, rfl, h5, hn5, hb5⟩
        have HBW5 := Lib.hid (HBW.out.trans (hb5.mono HBW.out.size))
        have H5 := Lib.hid (show Num w5 A5 n5 c5 f5 (2 * (N / 2 ^ i / 2 % D) + x) by rw [← HR.out.val]; exact h5)
        have HQ5 := Lib.hid (num_bel HQ.out hb5)
        have bn5 : n5 ≤ 201 := by omega
        clear h5 hb5 hn5
        go_wp2_with fail
        refine (rcmp_any A5 B n5 m c5 d f5 g _ H5.out.rd (HRB.out _ HBW5.out) H5.out.lt LG.out H5.out.le hmd (by omega) (by omega)).mono ?_
        rw [H5.out.val, HDD.out]
        rintro e w6 ⟨rfl, hb6⟩
        have HBW6 := Lib.hid (HBW5.out.trans (hb6.mono HBW5.out.size))
        have H6 := Lib.hid (num_bel H5.out hb6)
        have HQ6 := Lib.hid (num_bel HQ5.out hb6)
        clear hb6 H5 HQ5
        by_cases hcmp : D ≤ 2 * (N / 2 ^ i / 2 % D) + x
        · have hz0 : 0 ≤ cm (2 * (N / 2 ^ i / 2 % D) + x) D := by unfold cm; rw [if_neg (by omega)]; split <;> omega
          obtain ⟨z, ez⟩ : ∃ z, cm (2 * (N / 2 ^ i / 2 % D) + x) D = z := ⟨_, rfl⟩
          have HE := Lib.hid (HGE.out hcmp)
          rw [ez] at hz0 ⊢
          have HC := Lib.hid hcmp
          clear ez hcmp
          go_wp2_with fail
          refine (less_any A5 B n5 m c5 d f5 g w6 H6.out.rd (HRB.out _ HBW6.out) H6.out.lt LG.out (by omega) (by omega) (by rw [H6.out.val, HDD.out]; exact HC.out)).mono ?_
          rintro e w7 ⟨A7, n7, c7, f7, rfl, h7, hn7, hb7⟩
          have HBW7 := Lib.hid (HBW6.out.trans (hb7.mono HBW6.out.size))
          have H7 := Lib.hid (show Num w7 A7 n7 c7 f7 (N / 2 ^ i % D) by rw [← HE.out.2, ← H6.out.val, ← HDD.out]; exact h7)
          have HQ7 := Lib.hid (num_bel HQ6.out hb7)
          clear h7 hb7 hn7 H6 HQ6
          go_wp2_with fail
          refine (twice_any Aq nq cq 1 fq _ HQ7.out.rd HQ7.out.lt (by omega) (by omega)).mono ?_
          rintro e w8 ⟨A8, n8, c8, f8, rfl, h8, hn8, hb8⟩
          have HREL : Hid (DvRel w w8 A8 n8 c8 f8 A7 n7 c7 f7 N D i) := Lib.hid ⟨by rw [← HE.out.1, ← HQ7.out.val]; exact h8, num_bel H7.out hb8, HBW7.out.trans (hb8.mono HBW7.out.size)⟩
          clear h8 hb8 hn8 H7 HQ7
          go_wp2
          go_roundw
          case rel => exact ⟨i, A8, n8, c8, f8, A7, n7, c7, f7, by omega, rfl, rfl, rfl, HREL⟩
          case measure => simp [intOf]
        · have hz0 := cm_lt (show 2 * (N / 2 ^ i / 2 % D) + x < D by omega)
          have HE := Lib.hid (HLT.out (by omega))
          rw [hz0]
          have H7 := Lib.hid (show Num w6 A5 n5 c5 f5 (N / 2 ^ i % D) by rw [← HE.out.2]; exact H6.out)
          clear hz0 hcmp H6
          go_wp2_with fail
          refine (twice_any Aq nq cq 0 fq _ HQ6.out.rd HQ6.out.lt (by omega) (by omega)).mono ?_
          rintro e w8 ⟨A8, n8, c8, f8, rfl, h8, hn8, hb8⟩
          have HREL : Hid (DvRel w w8 A8 n8 c8 f8 A5 n5 c5 f5 N D i) := Lib.hid ⟨by rw [← HE.out.1, ← HQ6.out.val]; exact h8, num_bel H7.out hb8, HBW6.out.trans (hb8.mono HBW6.out.size)⟩
          clear h8 hb8 hn8 H7 HQ6
          go_wp2
          go_roundw
          case rel => exact ⟨i, A8, n8, c8, f8, A5, n5, c5, f5, by omega, rfl, rfl, rfl, HREL⟩
          case measure => simp [intOf]
      · obtain rfl : t = 0 := by omega
        go_wp2
        go_ret3
        rw [H1.out, H2.out, H3.out]
        have h1 := HH.out.q
        have h2 := HH.out.r
        rw [Nat.pow_zero, Nat.div_one] at h1 h2
        exact ⟨Aq, nq, cq, fq, Ar, nr, cr, fr, rfl, h1, h2, HH.out.b⟩
end Go.Proofs.Ytfdgpfkjpjhmjaa.nn
