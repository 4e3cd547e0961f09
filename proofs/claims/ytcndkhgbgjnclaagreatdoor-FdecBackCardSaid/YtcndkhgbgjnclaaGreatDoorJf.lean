/- Joined texts: FdecFewestW, FdecBackW, FdLaid, OpenS. -/
import Derived.Deep.DeepCutAuto
import Derived.Test.YtcndkhgbgjnclaaGreatDoorRows
import Derived.ProofKit
import Derived.SizedLaws
import Derived.ChangeMaps5
import Derived.OpenShut
import Derived.Deep.DeepHandedRow
import Derived.Lib.LaidTab
import Derived.LaidSub
import Derived.Test.YtcndkhgbgjnclaaGreatDoorJe
/- The walk of the law FdecFewest: it returns true. -/
namespace Go.Proofs.YtcndkhgbgjnclaaGreatDoor.nn
open Go.RowKit

theorem few_byte {s : ByteArray} {a : Nat} (h : a < s.size) : ∃ y, s[a].toNat = y ∧ bt s a = y ∧ y < 256 := ⟨_, rfl, bt_at h, s[a].toNat_lt⟩

set_option maxRecDepth 100000 in
set_option maxHeartbeats 1000000 in
theorem few_out (x : Nat) (w : World) (D : ByteArray) (E : Int) (R : Nat) (_hE : -9223372036854775808 ≤ E ∧ E ≤ 9223372036854775807)
    (HS : Hid (∀ W, Below w.heap.size w W → Calls Tryz.prog 7 #[.int .u64 (x : Int)] W (ShAns D E R W))) (h : (R = 1 ∧ D.size = 0) ∨ (R = 0 ∧ D.size = 1)) :
    Calls Tryz.prog 6 #[.int .u64 (x : Int)] w (TrueAns w) := by
  have HA := Lib.hid (fun W => awake6 W)
  have HB := Lib.hid (Below.refl w.heap.size w)
  rcases h with ⟨rfl, h⟩ | ⟨rfl, h⟩
  · obtain rfl := nil_text h
    clear h
    go_enter Tryz.func6, Tryz.ntmps6
    go_wp2_with fail
    refine (HS.out _ (by first | exact HB.out | exact drew_below HB.out _ | exact (HB.out.drew))).mono ?_
    rintro r w1 ⟨rfl, hb⟩
    have B1 := Lib.hid hb
    clear hb
    go_wp2_with fail
    refine (HA.out _).mono ?_
    rintro r w2 ⟨rfl, hb⟩
    have B2 := Lib.hid (B1.out.trans (hb.mono B1.out.size))
    clear hb
    go_wp2_with fail
    go_ret
    exact ⟨rfl, B2.out⟩
  · have hne := not_nil_text (show 0 < D.size by omega)
    go_enter Tryz.func6, Tryz.ntmps6
    go_wp2_with fail
    refine (HS.out _ (by first | exact HB.out | exact drew_below HB.out _ | exact (HB.out.drew))).mono ?_
    rintro r w1 ⟨rfl, hb⟩
    have B1 := Lib.hid hb
    clear hb
    go_wp2_with fail
    refine (HA.out _).mono ?_
    rintro r w2 ⟨rfl, hb⟩
    have B2 := Lib.hid (B1.out.trans (hb.mono B1.out.size))
    clear hb
    go_wp2_with fail
    go_ret
    exact ⟨rfl, B2.out⟩

set_option maxRecDepth 100000 in
set_option maxHeartbeats 4000000 in
theorem few_long (x : Nat) (w : World) (hx : x < 18446744073709551616) (D : ByteArray) (E : Int) (V1 V2 : Nat) (E1 E2 : Nat) (hE : -1000 ≤ E ∧ E ≤ 1000) (h2 : 2 ≤ D.size) (h20 : D.size ≤ 20) (hd : dgs (bt D) D.size = true)
    (hf : bt D 0 ≠ 48) (hl : bt D (D.size - 1) ≠ 48)
    (h1 : E1 = 8 ∨ (E1 = 0 ∧ V1 ≠ x)) (h2' : E2 = 8 ∨ (E2 = 0 ∧ V2 ≠ x))
    (HS : Hid (∀ W, Below w.heap.size w W → Calls Tryz.prog 7 #[.int .u64 (x : Int)] W (ShAns D E 0 W)))
    (HR1 : Hid (∀ W, Calls Tryz.prog 15 #[.bool (decide (9223372036854775808 ≤ x)), .string (cutT D 0 (D.size - 1)), .int .i64 (E + 1)] W (RoAns V1 E1 W)))
    (HR2 : Hid (∀ t W, dgs (bt t) t.size = true → dv (bt t) t.size = dv (bt (cutT D 0 (D.size - 1))) (D.size - 1) + 1 → 0 < t.size → t.size ≤ D.size → Calls Tryz.prog 15 #[.bool (decide (9223372036854775808 ≤ x)), .string t, .int .i64 (E + 1)] W (RoAns V2 E2 W))) :
    Calls Tryz.prog 6 #[.int .u64 (x : Int)] w (TrueAns w) := by
  have HA := Lib.hid (fun W => awake6 W)
  have HB := Lib.hid (Below.refl w.heap.size w)
  have hne := not_nil_text (show 0 < D.size by omega)
  have hcs : (cutT D 0 (D.size - 1)).size = D.size - 1 := by rw [cutT_size (by omega)]; omega
  have hcd : dgs (bt (cutT D 0 (D.size - 1))) (cutT D 0 (D.size - 1)).size = true := by
    rw [hcs, dgs_congr (g := bt D) (fun i hi => by rw [bt_cutT (by omega) (by omega), Nat.zero_add])]
    exact dgs_mono hd (by omega)
  have HM := Lib.hid (fun W => more_any (cutT D 0 (D.size - 1)) W (by omega) (by omega) hcd)
  unfold MoAns at HM
  rw [hcs] at HM
  have SL : Hid (∀ W, (Instr.slice 9 (.string D) none (some (.int .i64 ((D.size : Int) - 1))) none).run Tryz.prog W = .ok (.string (cutT D 0 (D.size - 1))) W) := Lib.hid fun W => by
    have h := run_slice_string_to_if (P := Tryz.prog) (w := W) 9 D .i64 ((D.size : Int) - 1) Tryz.underlying9
    rw [if_pos (by omega), show ((D.size : Int) - 1).toNat = D.size - 1 by omega] at h
    exact h
  obtain ⟨y, hy1, hy2, hy3⟩ := few_byte (s := D) (a := 0) (by omega)
  obtain ⟨u, hu1, hu2, hu3⟩ := few_byte (s := D) (a := D.size - 1) (by omega)
  rw [hy2] at hf
  rw [hu2] at hl
  have hyq : ((y : Int) != 48) = true := by simp; omega
  have huq : ((u : Int) != 48) = true := by simp; omega
  have hidx : ((D.size : Int) - 1).toNat = D.size - 1 := by omega
  obtain ⟨ng, hng⟩ : ∃ b, decide (9223372036854775808 ≤ x) = b := ⟨_, rfl⟩
  have hsh : ((x : Int) / 9223372036854775808 == 1) = ng := by
    rw [← hng]
    by_cases c : 9223372036854775808 ≤ x
    · rw [decide_eq_true c, beq_iff_eq]; omega
    · rw [decide_eq_false c, beq_eq_false_iff_ne]; omega
  rw [hng] at HR1 HR2
  obtain ⟨low, hlow⟩ : ∃ t, cutT D 0 (D.size - 1) = t := ⟨_, rfl⟩
  rw [hlow] at HM SL HR1 HR2
  have sl := SL.out
  clear hcs hcd hlow hng hd
  rcases h1 with rfl | ⟨rfl, h1⟩
  all_goals rcases h2' with rfl | ⟨rfl, h2'⟩
  all_goals first | (have q1 : ((V1 : Int) != (x : Int)) = true := by simp; omega) | skip
  all_goals first | (have q2 : ((V2 : Int) != (x : Int)) = true := by simp; omega) | skip
  all_goals
    go_enter Tryz.func6, Tryz.ntmps6
    go_wp2_with fail
    refine (HS.out _ (by first | exact HB.out | exact drew_below HB.out _ | exact (HB.out.drew))).mono ?_
    rintro r w1 ⟨rfl, hb⟩
    have B1 := Lib.hid hb
    clear hb
    go_wp2_with fail
    refine (HR1.out _).mono ?_
    rintro r w2 ⟨rfl, hb⟩
    have B2 := Lib.hid (B1.out.trans (hb.mono B1.out.size))
    clear hb
    go_wp2_with fail
    refine (HM.out _).mono ?_
    rintro r w3 ⟨t, rfl, t1, t2, t3, t4, hb⟩
    have B3 := Lib.hid (B2.out.trans (hb.mono B2.out.size))
    have R3 := Lib.hid (HR2.out t w3 t3 t4 t1 (by omega))
    clear hb t3 t4
    go_wp2_with fail
    refine R3.out.mono ?_
    rintro r w4 ⟨rfl, hb⟩
    have B4 := Lib.hid (B3.out.trans (hb.mono B3.out.size))
    clear hb
    go_wp2_with fail
    refine (HA.out _).mono ?_
    rintro r w5 ⟨rfl, hb⟩
    have B5 := Lib.hid (B4.out.trans (hb.mono B4.out.size))
    clear hb
    go_wp2_with fail
    go_ret
    exact ⟨rfl, B5.out⟩
theorem dv_ge {f : Nat → Nat} {N : Nat} (hd : dgs f N = true) (h0 : f 0 ≠ 48) (n : Nat) : 2 ≤ n → n ≤ N → 10 ≤ dv f n := by
  induction n with
  | zero => intro h; omega
  | succ n ih =>
    intro h1 h2
    rw [dv]
    rcases (by omega : n = 1 ∨ 2 ≤ n) with rfl | g
    · have := (dgs_at hd (i := 0) (by omega)).1
      have e : dv f 1 = f 0 - 48 := by simp [dv]
      rw [e]
      omega
    · have := ih g (by omega)
      omega
theorem sh_size (m : Nat) (e : Int) : (shD m e).size = (shL m e).length := List.size_toArray
theorem roV_lt {neg : Bool} {b : Nat} (h : b < inf) : roV neg b = sB neg + b ∧ roE b = 0 := by unfold roV roE; rw [if_pos h, if_pos h]; exact ⟨rfl, rfl⟩
/-- Round of what is not nearest to the bits -/
theorem ro_ne {x b c : Nat} (_hx : x < 18446744073709551616) (hb : b = x % 9223372036854775808) (hne : c ≠ b) : (roE c = 8) ∨ (roE c = 0 ∧ roV (decide (9223372036854775808 ≤ x)) c ≠ x) := by
  by_cases h : c < inf
  · right
    obtain ⟨h1, h2⟩ := roV_lt (neg := decide (9223372036854775808 ≤ x)) h
    refine ⟨h2, ?_⟩
    rw [h1]
    rw [inf_eq] at h
    unfold sB
    split
    · rename_i g
      have := of_decide_eq_true g
      omega
    · rename_i g
      have : ¬ 9223372036854775808 ≤ x := fun g2 => g (decide_eq_true g2)
      omega
  · left
    unfold roE
    rw [if_neg h]
theorem fewest_law (x : Nat) (w : World) (hx : x < 18446744073709551616) (hP : Pow10 w) :
    Calls Tryz.prog 6 #[.int .u64 (x : Int)] w (TrueAns w) := by
  have hPat := hP.at_
  cases hO : xaO x with
  | false => exact few_out x w _ _ 1 (by decide) (Lib.hid fun W _ => shortest_no x W hx hO) (.inl ⟨rfl, rfl⟩)
  | true =>
    by_cases hm : xaM x = 0
    · exact few_out x w _ _ 0 (by decide) (Lib.hid fun W _ => shortest_zero x W hx hO hm) (.inr ⟨rfl, rfl⟩)
    · obtain ⟨hF, hb, hi⟩ := xa_fe x hx hO hm
      have HS : Hid (∀ W, Below w.heap.size w W → Calls Tryz.prog 7 #[.int .u64 (x : Int)] W (ShAns (shD (xaM x) (xaE x)) (shE (xaM x) (xaE x)) 0 W)) := Lib.hid fun W hW => shortest_yes x W hx hO hF (hP.below hW hPat)
      generalize xaM x = m at *
      generalize xaE x = e at *
      obtain ⟨j, b1, b2, b3, b4, b5, b6⟩ := hF.found
      obtain ⟨a1, a2, a3, a4, a5⟩ := hF.span
      have hN0 : 0 < shN m e := by
        rcases Nat.eq_zero_or_pos (shN m e) with g | g
        · exfalso
          have hp : 10 ^ j ≤ spA m e := by
            unfold j0 at b2
            split at b2
            · exact Nat.le_trans (Nat.pow_le_pow_right (by decide) b2) (by omega)
            · exact Nat.le_trans (Nat.pow_le_pow_right (by decide) b2) (by omega)
          have hp0 : 0 < 10 ^ j := Nat.pow_pos (by decide)
          have hq : 1 * 10 ^ j ≤ spA m e / 10 ^ j * 10 ^ j := Nat.mul_le_mul_right _ ((Nat.le_div_iff_mul_le hp0).2 (by omega))
          generalize spA m e / 10 ^ j * 10 ^ j = L1 at *
          generalize 10 ^ j = L2 at *
          omega
        · exact g
      obtain ⟨t, V, d1, d2, d3, d4, d5, d6, d7, d8⟩ := sh_digits hN0 (shL m e) rfl
      have hsz := sh_size m e
      have hpb : -500 ≤ spP m e ∧ spP m e ≤ 500 := by
        obtain ⟨q1, q2, q3, q4, q5⟩ := hF
        rw [h52] at q2
        have b1 := (bl_ge (N := m) (by omega)).2
        have b2 : bl m ≤ 53 := bl_le (k := 53) (by omega)
        unfold spP dcm; omega
      have hl20 : (Lib.decDigits (shN m e)).length ≤ 20 := by rw [Lib.decDigits_length]; have := Lib.numDigits_eq (shN m e) hN0 (by omega); split at this <;> omega
      have hE : shE m e = spP m e + (t : Int) := by unfold shE; rw [d1]; omega
      rw [← hsz] at d4 d5 d6 d8
      by_cases h1 : (shD m e).size = 1
      · exact few_out x w _ _ 0 (by rw [hE]; omega) HS (.inr ⟨rfl, h1⟩)
      · have hV : 10 ≤ V := by rw [← d6]; exact dv_ge d5 d7 _ (by omega) (Nat.le_refl _)
        have hnone := fun c => hF.fewest d2 d3 hV c
        have hcs : (cutT (shD m e) 0 ((shD m e).size - 1)).size = (shD m e).size - 1 := by rw [cutT_size (by omega)]; omega
        have hcd : dgs (bt (cutT (shD m e) 0 ((shD m e).size - 1))) (cutT (shD m e) 0 ((shD m e).size - 1)).size = true := by
          rw [hcs, dgs_congr (g := bt (shD m e)) (fun i hi => by rw [bt_cutT (by omega) (by omega), Nat.zero_add])]
          exact dgs_mono d5 (by omega)
        have hfar : ∀ (s : ByteArray) c, RN s (shE m e + 1) c → c ≠ bm m e := fun s c hc g => by
          rw [g] at hc
          have := (hF.near s (t + 1) (shE m e + 1) (by rw [hE]; omega)).1 hc
          exact hnone _ this
        have hok : ∀ s : ByteArray, 0 < s.size → s.size ≤ 20 → dgs (bt s) s.size = true → rfE s (shE m e + 1) = 0 := fun s s1 s2 s3 => rf_ok (by omega) s1 s3 (by rw [hE]; omega) (by rw [hE]; omega)
        obtain ⟨c1, hc1⟩ := RN_ex (cutT (shD m e) 0 ((shD m e).size - 1)) (shE m e + 1)
        obtain ⟨c2, hc2⟩ := near_ex ((dv (bt (cutT (shD m e) 0 ((shD m e).size - 1))) ((shD m e).size - 1) + 1) * 10 ^ (shE m e + 1).toNat * 2 ^ e74) (rY (shE m e + 1)) (rY_pos _)
        have hex : ∃ s : ByteArray, dv (bt s) s.size = dv (bt (cutT (shD m e) 0 ((shD m e).size - 1))) ((shD m e).size - 1) + 1 := by
          generalize dv (bt (cutT (shD m e) 0 ((shD m e).size - 1))) ((shD m e).size - 1) + 1 = K
          obtain ⟨_, k2⟩ := dec_read K
          refine ⟨⟨(Lib.decDigits K).toArray⟩, ?_⟩
          have hz : ByteArray.size ⟨(Lib.decDigits K).toArray⟩ = (Lib.decDigits K).length := List.size_toArray
          rw [hz, dv_congr (g := lf_ (Lib.decDigits K)) (fun i hi => bt_lf _ i hi)]
          exact k2
        have hRN2 : ∀ s : ByteArray, dv (bt s) s.size = dv (bt (cutT (shD m e) 0 ((shD m e).size - 1))) ((shD m e).size - 1) + 1 → RN s (shE m e + 1) c2 := fun s hs => by
          unfold RN rX
          rw [hs]
          exact hc2
        have hne2 : c2 ≠ bm m e := by
          obtain ⟨s, hs⟩ := hex
          exact hfar s c2 (hRN2 s hs)
        refine few_long x w hx (shD m e) (shE m e) _ _ _ _ (by rw [hE]; omega) (by omega) (by rw [hsz]; omega) d5 d7 d8 (ro_ne hx hb (hfar _ _ hc1)) (ro_ne hx hb hne2) HS (Lib.hid fun W => ?_) (Lib.hid fun s W s1 s2 s3 s4 => ?_)
        · exact round_yes _ _ _ _ W (hok _ (by omega) (by omega) hcd) hc1
        · exact round_yes _ _ _ _ W (hok _ s3 (by rw [hsz] at s4; omega) s1) (hRN2 s s2)
end Go.Proofs.YtcndkhgbgjnclaaGreatDoor.nn
/- The walk of the law FdecBack: it returns true. -/
namespace Go.Proofs.YtcndkhgbgjnclaaGreatDoor.nn
open Go.RowKit

theorem cl_all {x : Nat} (_hx : x < 18446744073709551616) : (xaO x = false → 3 ≤ clC 64 x) ∧ (xaO x = true → clC 64 x < 3) ∧ clC 64 x < 5 := by
  have e1 : clC 64 x = cls 64 (ex 64 x) (fr 64 x) := by unfold clC; rw [if_pos (fits64 x)]; rfl
  rw [e1]
  unfold xaO cls
  have hb : 2 ^ xb 64 - 1 = 2047 := by decide
  rw [hb]
  refine ⟨fun h => ?_, fun h => ?_, ?_⟩
  · have h := of_decide_eq_false h
    have h : ex 64 x = 2047 := by omega
    rw [if_pos h]
    split <;> decide
  · have h := of_decide_eq_true h
    rw [if_neg h]
    split
    · decide
    · split <;> decide
  · repeat' split
    all_goals decide
theorem xa_sign {x : Nat} (hx : x < 18446744073709551616) (hO : xaO x = true) : (if xaS x = true then (⟨#[45]⟩ : ByteArray) else ⟨#[]⟩) = sgT (decide (9223372036854775808 ≤ x)) := by
  have hO := of_decide_eq_true hO
  have e : xaS x = decide (9223372036854775808 ≤ x) := by
    unfold xaS
    rw [if_neg hO]
    unfold sg
    rw [show xb 64 + fb 64 = 63 from rfl, show (2 : Nat) ^ 63 = 9223372036854775808 by decide]
    by_cases c : 9223372036854775808 ≤ x
    · rw [decide_eq_true c, decide_eq_true (by omega)]
    · rw [decide_eq_false c, decide_eq_false (by omega)]
  rw [e]
  rfl
theorem x_parts {x b : Nat} (_hx : x < 18446744073709551616) (hb : b = x % 9223372036854775808) : sB (decide (9223372036854775808 ≤ x)) + b = x := by
  unfold sB
  by_cases c : 9223372036854775808 ≤ x
  · rw [decide_eq_true c, if_pos rfl]; omega
  · rw [decide_eq_false c, if_neg (by decide)]; omega
theorem sc_zero (g : Bool) : ScIs (sgT g ++ (⟨#[48]⟩ ++ zk 0 ++ ⟨#[46, 48]⟩)) (sB g) 0 := by
  have hL : (⟨#[48]⟩ ++ zk 0 ++ ⟨#[46, 48]⟩ : ByteArray) = ⟨#[48, 46, 48]⟩ := rfl
  rw [hL]
  obtain ⟨a1, a2, a3, a4, a5, a6, a7⟩ := scD_plain (g := g) (L := ⟨#[48, 46, 48]⟩) (X := ⟨#[48, 48]⟩) (w := 1) (f := 1) rfl (by decide) (by decide) rfl
    (fun i hi => by obtain rfl : i = 0 := (by omega); rfl) (fun i hi => by obtain rfl : i = 0 := (by omega); rfl) rfl (by decide)
  refine .inr (.inr (.inl ⟨a1, ?_, .inl ?_, by rw [a7], rfl⟩))
  · unfold scLong
    rw [a3, a4, a5]
    have : ByteArray.size ⟨#[]⟩ = 0 := rfl
    omega
  · unfold scN
    rw [a2]
    decide
set_option maxRecDepth 100000 in
set_option maxHeartbeats 2000000 in
theorem back_out (x : Nat) (w : World) (C : Nat) (Pe : Int) (hC : 3 ≤ C ∧ C < 5) (HS : Hid (∀ W, Below w.heap.size w W → Calls Tryz.prog 7 #[.int .u64 (x : Int)] W (ShAns ⟨#[]⟩ 0 1 W)))
    (HC : Hid (∀ W, Calls Tryz.prog 14 #[.int .i64 64, .int .u64 (x : Int)] W fun e W' => e = .returned (.tuple #[.int .i64 (C : Int), .int .i64 Pe]) ∧ Below W.heap.size W W')) :
    Calls Tryz.prog 5 #[.int .u64 (x : Int)] w (TrueAns w) := by
  have HA := Lib.hid (fun W => awake6 W)
  have HB := Lib.hid (Below.refl w.heap.size w)
  go_enter Tryz.func5, Tryz.ntmps5
  go_wp2_with fail
  refine (HS.out _ (by first | exact HB.out | exact drew_below HB.out _)).mono ?_
  rintro r w1 ⟨rfl, hb⟩
  have B1 := Lib.hid hb
  clear hb
  go_wp2_with fail
  refine (HC.out _).mono ?_
  rintro r w2 ⟨rfl, hb⟩
  have B2 := Lib.hid (B1.out.trans (hb.mono B1.out.size))
  clear hb
  go_wp2_with fail
  refine (HA.out _).mono ?_
  rintro r w3 ⟨rfl, hb⟩
  have B3 := Lib.hid (B2.out.trans (hb.mono B2.out.size))
  clear hb
  go_wp2_with fail
  go_ret
  exact ⟨rfl, B3.out⟩
set_option maxRecDepth 100000 in
set_option maxHeartbeats 4000000 in
theorem back_in (x : Nat) (w : World) (hx : x < 18446744073709551616) (D T : ByteArray) (E : Int) (C : Nat) (Pe : Int) (hC : C < 3) (h1 : 1 ≤ D.size) (h17 : D.size ≤ 17) (HS : Hid (∀ W, Below w.heap.size w W → Calls Tryz.prog 7 #[.int .u64 (x : Int)] W (ShAns D E 0 W)))
    (HC : Hid (∀ W, Calls Tryz.prog 14 #[.int .i64 64, .int .u64 (x : Int)] W fun e W' => e = .returned (.tuple #[.int .i64 (C : Int), .int .i64 Pe]) ∧ Below W.heap.size W W'))
    (HR : Hid (∀ W, Calls Tryz.prog 15 #[.bool (decide (9223372036854775808 ≤ x)), .string D, .int .i64 E] W (RoAns x 0 W)))
    (HT : Hid (∀ W, Below w.heap.size w W → Calls Tryz.prog 9 #[.int .u64 (x : Int)] W (TxAns T 0 W)))
    (HSc : Hid (∀ W, Calls Tryz.prog 12 #[.string T] W (RoAns x 0 W))) :
    Calls Tryz.prog 5 #[.int .u64 (x : Int)] w (TrueAns w) := by
  have HA := Lib.hid (fun W => awake6 W)
  have HB := Lib.hid (Below.refl w.heap.size w)
  obtain ⟨ng, hng⟩ : ∃ b, decide (9223372036854775808 ≤ x) = b := ⟨_, rfl⟩
  have hsh : ((x : Int) / 9223372036854775808 == 1) = ng := by
    rw [← hng]
    by_cases c : 9223372036854775808 ≤ x
    · rw [decide_eq_true c, beq_iff_eq]; omega
    · rw [decide_eq_false c, beq_eq_false_iff_ne]; omega
  rw [hng] at HR
  clear hng
  go_enter Tryz.func5, Tryz.ntmps5
  go_wp2_with fail
  refine (HS.out _ (by first | exact HB.out | exact drew_below HB.out _)).mono ?_
  rintro r w1 ⟨rfl, hb⟩
  have B1 := Lib.hid hb
  clear hb
  go_wp2_with fail
  refine (HC.out _).mono ?_
  rintro r w2 ⟨rfl, hb⟩
  have B2 := Lib.hid (B1.out.trans (hb.mono B1.out.size))
  clear hb
  go_wp2_with fail
  refine (HR.out _).mono ?_
  rintro r w3 ⟨rfl, hb⟩
  have B3 := Lib.hid (B2.out.trans (hb.mono B2.out.size))
  clear hb
  go_wp2_with fail
  refine (HT.out _ B3.out).mono ?_
  rintro r w4 ⟨rfl, hb⟩
  have B4 := Lib.hid (B3.out.trans (hb.mono B3.out.size))
  clear hb
  go_wp2_with fail
  refine (HSc.out _).mono ?_
  rintro r w5 ⟨rfl, hb⟩
  have B5 := Lib.hid (B4.out.trans (hb.mono B4.out.size))
  clear hb
  go_wp2_with fail
  refine (HA.out _).mono ?_
  rintro r w6 ⟨rfl, hb⟩
  have B6 := Lib.hid (B5.out.trans (hb.mono B5.out.size))
  clear hb
  go_wp2_with fail
  go_ret
  exact ⟨rfl, B6.out⟩
theorem fe_pos {m : Nat} {e : Int} (hF : Fe m e) : 0 < shN m e := by
  obtain ⟨j, b1, b2, b3, b4, b5, b6⟩ := hF.found
  obtain ⟨a1, a2, a3, a4, a5⟩ := hF.span
  have hp : 10 ^ j ≤ spA m e := by
    unfold j0 at b2
    split at b2
    · exact Nat.le_trans (Nat.pow_le_pow_right (by decide) b2) (by omega)
    · exact Nat.le_trans (Nat.pow_le_pow_right (by decide) b2) (by omega)
  have hp0 : 0 < 10 ^ j := Nat.pow_pos (by decide)
  have hq : 1 * 10 ^ j ≤ spA m e / 10 ^ j * 10 ^ j := Nat.mul_le_mul_right _ ((Nat.le_div_iff_mul_le hp0).2 (by omega))
  generalize spA m e / 10 ^ j * 10 ^ j = L1 at *
  generalize 10 ^ j = L2 at *
  omega
theorem fe_place {m : Nat} {e : Int} (hF : Fe m e) : -500 ≤ spP m e ∧ spP m e ≤ 300 := by
  obtain ⟨q1, q2, q3, q4, q5⟩ := hF
  rw [h52] at q2
  have b1 := (bl_ge (N := m) (by omega)).2
  have b2 : bl m ≤ 53 := bl_le (k := 53) (by omega)
  unfold spP dcm; omega
theorem fe_wide2 {m : Nat} {e : Int} (h : Fe m e) (hA18 : 1000000000000000000 ≤ spA m e) : spF m e + 99 ≤ spL m e := by
  obtain ⟨h0, _, _⟩ := h.ends
  obtain ⟨q1, q2, q3, q4, q5⟩ := h
  obtain ⟨X, hX⟩ : ∃ X, spX m e = X := ⟨_, rfl⟩
  obtain ⟨Y, hY⟩ : ∃ Y, spY m e = Y := ⟨_, rfl⟩
  have hF : spF m e ≤ (4 * m - spB m e) * X / Y + 1 := by unfold spF; rw [hX, hY]; split <;> omega
  have hL : (4 * m + 2) * X / Y ≤ spL m e + 1 := by unfold spL; rw [hX, hY]; split <;> omega
  have hA : spA m e = 4 * m * X / Y := by unfold spA; rw [hX, hY]
  rw [hY] at h0
  rw [hA] at hA18
  have h1 := (Nat.le_div_iff_mul_le h0).1 hA18
  have hX0 : 111 * Y ≤ 4 * X := by
    have : 4 * m * X ≤ 9007199254740992 * (4 * X) := by
      rw [Nat.mul_comm 4 m, Nat.mul_assoc]
      exact Nat.mul_le_mul_right _ (by rw [h52] at q2; omega)
    omega
  have add : ∀ q k c, c * Y ≤ k * X → q * X / Y + c ≤ (q + k) * X / Y := fun q k c hc => by
    rw [Nat.add_mul, ← Nat.add_mul_div_right _ _ h0]
    exact Nat.div_le_div_right (by omega)
  by_cases c : m = 4503599627370496 ∧ -1074 < e
  · have hB : spB m e = 1 := if_pos c
    rw [hB] at hF
    have hm := c.1
    have : 150 * Y ≤ 3 * X := by
      have : 4 * m * X = 4503599627370496 * (4 * X) := by rw [hm, Nat.mul_comm 4, Nat.mul_assoc]
      omega
    have k2 := add (4 * m - 1) 3 111 (by omega)
    rw [show 4 * m - 1 + 3 = 4 * m + 2 by omega] at k2
    omega
  · have hB : spB m e = 2 := if_neg c
    rw [hB] at hF
    have k2 := add (4 * m - 2) 4 111 (by omega)
    rw [show 4 * m - 2 + 4 = 4 * m + 2 by omega] at k2
    omega
theorem fe_17 {m : Nat} {e : Int} (hF : Fe m e) {t V : Nat} (d1 : (Lib.decDigits (shN m e)).length = (shL m e).length + t) (d2 : shN m e = V * 10 ^ t) (d3 : V % 10 ≠ 0) : (shL m e).length ≤ 17 := by
  obtain ⟨j, b1, b2, b3, b4, b5, b6⟩ := hF.found
  obtain ⟨a1, a2, a3, a4, a5⟩ := hF.span
  have hN0 := fe_pos hF
  have hd : ∃ c, shN m e = c * 10 ^ j := by
    rcases b5 with g | g
    · exact ⟨_, g⟩
    · exact ⟨spA m e / 10 ^ j + 1, by rw [g, Nat.add_mul, Nat.one_mul]⟩
  obtain ⟨c, hc⟩ := hd
  have div10 : shN m e % 10 = 0 := by
    obtain ⟨i, rfl⟩ : ∃ i, j = i + 1 := ⟨j - 1, by omega⟩
    rw [hc, Nat.pow_succ, ← Nat.mul_assoc]
    omega
  have ht1 : 1 ≤ t := by
    rcases Nat.eq_zero_or_pos t with rfl | g
    · rw [Nat.pow_zero, Nat.mul_one] at d2; omega
    · exact g
  rw [Lib.decDigits_length] at d1
  by_cases h18 : shN m e < 1000000000000000000
  · have := nd_le 18 (shN m e) (by decide) (by rw [show (10 : Nat) ^ 18 = 1000000000000000000 by decide]; exact h18)
    omega
  · have hnd := nd_le 19 (shN m e) (by decide) (by rw [show (10 : Nat) ^ 19 = 10000000000000000000 by decide]; omega)
    have div100 : shN m e % 100 = 0 := by
      by_cases hA : 1000000000000000000 ≤ spA m e
      · have hw := fe_wide2 hF hA
        have hj2 : 2 ≤ j := by
          rcases (by omega : 2 ≤ j ∨ j < 2) with g | g
          · exact g
          · exfalso
            refine b6 2 g (by have := j0_le (spA m e); omega) ((spF m e + 99) / 100) ?_
            rw [show (10 : Nat) ^ 2 = 100 by decide]
            omega
        obtain ⟨i, rfl⟩ : ∃ i, j = i + 2 := ⟨j - 2, by omega⟩
        rw [hc, Nat.pow_add, ← Nat.mul_assoc, show (10 : Nat) ^ 2 = 100 by decide]
        omega
      · have hj17 : j ≤ 17 := by have hb := b2; unfold j0 at hb; rw [if_neg hA] at hb; exact hb
        have e1 : (10 : Nat) ^ 18 = 10 ^ (18 - j) * 10 ^ j := by rw [← Nat.pow_add, show 18 - j + j = 18 by omega]
        have h1 : spA m e / 10 ^ j < 10 ^ (18 - j) := by
          rw [Nat.div_lt_iff_lt_mul (Nat.pow_pos (by decide)), ← e1]
          omega
        have h2 : (spA m e / 10 ^ j + 1) * 10 ^ j ≤ 10 ^ (18 - j) * 10 ^ j := Nat.mul_le_mul_right _ h1
        rw [← e1, Nat.add_mul, Nat.one_mul, show (10 : Nat) ^ 18 = 1000000000000000000 by decide] at h2
        have : shN m e ≤ 1000000000000000000 := by
          rcases b5 with g | g
          · rw [g]; exact Nat.le_trans (Nat.le_add_right _ _) h2
          · rw [g]; exact h2
        omega
    have ht2 : 2 ≤ t := by
      rcases (by omega : t = 1 ∨ 2 ≤ t) with rfl | g
      · rw [Nat.pow_one] at d2; omega
      · exact g
    omega
theorem one_zero : RN ⟨#[48]⟩ 0 0 := by
  have h := near_self (rY 0) 0 (rY_pos 0)
  rw [vf_zero, Nat.zero_mul] at h
  unfold RN rX
  rw [show dv (bt ⟨#[48]⟩) (ByteArray.size ⟨#[48]⟩) = 0 by decide, Nat.zero_mul, Nat.zero_mul]
  exact h
theorem lo_forms {g : Bool} {D : ByteArray} {b : Nat} {E : Int} (h0 : 0 < D.size) (hs : D.size ≤ 500) (hd : dgs (bt D) D.size = true) (hV : dv (bt D) D.size ≠ 0) (hE : -600 ≤ E ∧ E ≤ 400) (hb : RN D E b) :
    ScIs (sgT g ++ loT D (D.size + E)) (roV g b) (roE b) := by
  unfold loT
  by_cases c1 : (D.size : Int) + E < -5 ∨ 21 < (D.size : Int) + E
  · rw [if_pos c1]
    exact sc_exp h0 hs hd hV (by omega) (by omega) hb
  · rw [if_neg c1]
    by_cases c2 : (D.size : Int) + E ≤ 0
    · rw [if_pos c2]
      exact sc_low h0 hs hd hV (by omega) (by omega) hb
    · rw [if_neg c2]
      by_cases c3 : (D.size : Int) ≤ (D.size : Int) + E
      · rw [if_pos c3]
        exact sc_high h0 hs hd hV (by omega) (by omega) hb
      · rw [if_neg c3]
        exact sc_mid (by omega) (by omega) hs hd hV (by omega) hb
theorem back_law (x : Nat) (w : World) (hx : x < 18446744073709551616) (hP : Pow10 w) :
    Calls Tryz.prog 5 #[.int .u64 (x : Int)] w (TrueAns w) := by
  have hPat := hP.at_
  obtain ⟨k1, k2, k3⟩ := cl_all hx
  have HC : Hid (∀ W, Calls Tryz.prog 14 #[.int .i64 64, .int .u64 (x : Int)] W fun e W' => e = .returned (.tuple #[.int .i64 (clC 64 x : Int), .int .i64 (paE 64 x : Int)]) ∧ Below W.heap.size W W') := Lib.hid fun W => fclass_any 64 x W hx
  cases hO : xaO x with
  | false => exact back_out x w _ _ ⟨k1 hO, k3⟩ (Lib.hid fun W _ => shortest_no x W hx hO) HC
  | true =>
    have hsg := xa_sign hx hO
    by_cases hm : xaM x = 0
    · have hb : 0 = x % 9223372036854775808 := by
        have hO := of_decide_eq_true hO
        have e1 : ex 64 x = x / 4503599627370496 % 2048 := rfl
        have e2 : fr 64 x = x % 4503599627370496 := rfl
        have hh : hid52 = 4503599627370496 := rfl
        unfold xaM at hm
        rw [if_neg hO] at hm
        split at hm <;> omega
      have hxp := x_parts hx hb
      have HS : Hid (∀ W, Below w.heap.size w W → Calls Tryz.prog 7 #[.int .u64 (x : Int)] W (ShAns ⟨#[48]⟩ 0 0 W)) := Lib.hid fun W _ => shortest_zero x W hx hO hm
      have hlo : loT ⟨#[48]⟩ ((ByteArray.size ⟨#[48]⟩ : Int) + 0) = ⟨#[48]⟩ ++ zk 0 ++ ⟨#[46, 48]⟩ := by
        unfold loT
        rw [if_neg (by decide), if_neg (by decide), if_pos (by decide)]
        rfl
      refine back_in x w hx ⟨#[48]⟩ (sgT (decide (9223372036854775808 ≤ x)) ++ (⟨#[48]⟩ ++ zk 0 ++ ⟨#[46, 48]⟩)) 0 _ _ (k2 hO) (by decide) (by decide) HS HC (Lib.hid fun W => ?_) (Lib.hid fun W hW => ?_) (Lib.hid fun W => ?_)
      · have := round_yes (decide (9223372036854775808 ≤ x)) ⟨#[48]⟩ 0 0 W (by decide) one_zero
        obtain ⟨r1, r2⟩ := roV_lt (neg := decide (9223372036854775808 ≤ x)) (b := 0) (by decide)
        rw [r1, r2, hxp] at this
        exact this
      · have := text_yes x W hx ⟨#[48]⟩ 0 (by decide) (by decide) (by decide) (hP.below hW hPat) (Lib.hid fun W2 hW2 => HS.out W2 (hW.trans (hW2.mono hW.size)))
        rw [hsg, hlo] at this
        exact this
      · refine (scan_any _ W (by rw [sg_size]; unfold sgN; split <;> decide)).mono fun r w' ⟨V, E, he, hs, hb2⟩ => ?_
        obtain ⟨u1, u2⟩ := hs.uniq (sc_zero _)
        rw [Nat.add_zero] at hxp
        refine ⟨?_, hb2⟩
        rw [he, u1, u2, hxp]
    · obtain ⟨hF, hb, hi⟩ := xa_fe x hx hO hm
      have HS : Hid (∀ W, Below w.heap.size w W → Calls Tryz.prog 7 #[.int .u64 (x : Int)] W (ShAns (shD (xaM x) (xaE x)) (shE (xaM x) (xaE x)) 0 W)) := Lib.hid fun W hW => shortest_yes x W hx hO hF (hP.below hW hPat)
      have hxp := x_parts hx hb
      generalize xaM x = m at *
      generalize xaE x = e at *
      obtain ⟨j, b1, b2, b3, b4, b5, b6⟩ := hF.found
      obtain ⟨a1, a2, a3, a4, a5⟩ := hF.span
      have hN0 := fe_pos hF
      obtain ⟨t, V, d1, d2, d3, d4, d5, d6, d7, d8⟩ := sh_digits hN0 (shL m e) rfl
      have hsz := sh_size m e
      have h17 := fe_17 hF d1 d2 d3
      have hpb := fe_place hF
      have hE : shE m e = spP m e + (t : Int) := by unfold shE; rw [d1]; omega
      have ht : t ≤ 20 := by
        have h20 : (Lib.decDigits (shN m e)).length ≤ 20 := by rw [Lib.decDigits_length]; have := Lib.numDigits_eq (shN m e) hN0 (by omega); split at this <;> omega
        omega
      rw [← hsz] at d4 d5 d6 h17
      have hRN : RN (shD m e) (shE m e) (bm m e) := (hF.near (shD m e) t (shE m e) hE).2 (by rw [show dv (bt (shD m e)) (shD m e).size = V from d6, ← d2]; exact ⟨b3, b4⟩)
      have hV0 : dv (bt (shD m e)) (shD m e).size ≠ 0 := by rw [show dv (bt (shD m e)) (shD m e).size = V from d6]; omega
      obtain ⟨r1, r2⟩ := roV_lt (neg := decide (9223372036854775808 ≤ x)) hi
      have hsc := lo_forms (g := decide (9223372036854775808 ≤ x)) d4 (by omega) d5 hV0 (by rw [hE]; omega) hRN
      rw [r1, r2, hxp] at hsc
      refine back_in x w hx (shD m e) (sgT (decide (9223372036854775808 ≤ x)) ++ loT (shD m e) ((shD m e).size + shE m e)) (shE m e) _ _ (k2 hO) (by omega) h17 HS HC (Lib.hid fun W => ?_) (Lib.hid fun W hW => ?_) (Lib.hid fun W => ?_)
      · have := round_yes (decide (9223372036854775808 ≤ x)) (shD m e) (shE m e) _ W (rf_ok (by omega) d4 d5 (by rw [hE]; omega) (by rw [hE]; omega)) hRN
        rw [r1, r2, hxp] at this
        exact this
      · have := text_yes x W hx (shD m e) (shE m e) d4 (by omega) (by rw [hE]; omega) (hP.below hW hPat) (Lib.hid fun W2 hW2 => HS.out W2 (hW.trans (hW2.mono hW.size)))
        rw [hsg] at this
        exact this
      · refine (scan_any _ W (by
          have h1 := loT_size (shD m e) ((shD m e).size + shE m e) d4 (by omega) (by rw [hE]; omega)
          rw [sg_size]
          unfold sgN
          split <;> omega)).mono fun r w' ⟨V2, E2, he, hs, hb2⟩ => ?_
        obtain ⟨u1, u2⟩ := hs.uniq hsc
        refine ⟨?_, hb2⟩
        rw [he, u1, u2]
end Go.Proofs.YtcndkhgbgjnclaaGreatDoor.nn
/- A world whose package variables hold what the program's text lays there. -/
namespace Go.Proofs.YtcndkhgbgjnclaaGreatDoor.nn
open Go.ChangeShapes Go.WideShapes Go.ChangeAt Go.RowKit

def layA (cs : Array Value) : Obj → Obj
  | .cells _ t frozen => .cells cs t frozen
  | o => o
def bytesA (l : List Nat) : Array Value := (l.map fun (n : Nat) => Value.int .u8 (n : Int)).toArray
noncomputable def laidW (os : Os) : World :=
  { World.holding Tryz.prog os ⟨#[], #[], []⟩ with heap := (((((World.holding Tryz.prog os ⟨#[], #[], []⟩).heap.modify 0 (layA #[.int .u64 1, .int .u64 10, .int .u64 100, .int .u64 1000, .int .u64 10000, .int .u64 100000, .int .u64 1000000, .int .u64 10000000, .int .u64 100000000, .int .u64 1000000000, .int .u64 10000000000, .int .u64 100000000000, .int .u64 1000000000000, .int .u64 10000000000000, .int .u64 100000000000000, .int .u64 1000000000000000, .int .u64 10000000000000000, .int .u64 100000000000000000, .int .u64 1000000000000000000, .int .u64 10000000000000000000])).modify 1 (layA (bytesA Go.Pinned.utf8FirstZ))).modify 2 (layA (bytesA [128, 191, 160, 191, 128, 159, 144, 191, 128, 143, 0, 0, 0, 0, 0, 0, 0, 0, 0, 0, 0, 0, 0, 0, 0, 0, 0, 0, 0, 0, 0, 0]))).modify 3 (layA (bytesA [0, 1, 28, 2, 29, 14, 24, 3, 30, 22, 20, 15, 25, 17, 4, 8, 31, 27, 13, 23, 21, 19, 16, 7, 26, 12, 18, 6, 11, 5, 10, 9]))).modify 4 (layA (bytesA [0, 1, 56, 2, 57, 49, 28, 3, 61, 58, 42, 50, 38, 29, 17, 4, 62, 47, 59, 36, 45, 43, 51, 22, 53, 39, 33, 30, 24, 18, 12, 5, 63, 55, 48, 27, 60, 41, 37, 16, 46, 35, 44, 21, 52, 32, 23, 11, 54, 26, 40, 15, 34, 20, 31, 10, 25, 14, 19, 9, 13, 8, 7, 6])) }
end Go.Proofs.YtcndkhgbgjnclaaGreatDoor.nn
/- How the arguments of the laws read: strings and numbers. -/
namespace Go.Proofs.YtcndkhgbgjnclaaGreatDoor.nn
open Go.ChangeShapes Go.WideShapes Go.ChangeAt Go.RowKit

theorem Tryz.own : ownKnob Tryz.prog.godebug = none := by kernel_rfl
theorem Tryz.laidOut : laidOutB Tryz.prog = true := by kernel_rfl
theorem wf_i64 {n : Int} (h : (Lit.int .i64 n).wf = true) : -9223372036854775808 ≤ n ∧ n ≤ 9223372036854775807 := by
  have h1 : IntKind.i64.min = -9223372036854775808 := rfl
  have h2 : IntKind.i64.max = 9223372036854775807 := rfl
  simp only [Lit.wf, Bool.and_eq_true, decide_eq_true_eq] at h
  omega
theorem wf_u8 {n : Int} (h : (Lit.int .u8 n).wf = true) : 0 ≤ n ∧ n < ((256 : Nat) : Int) := by
  have h1 : IntKind.u8.min = 0 := rfl
  have h2 : IntKind.u8.max = 255 := rfl
  simp only [Lit.wf, Bool.and_eq_true, decide_eq_true_eq] at h
  omega
theorem wf_u16 {n : Int} (h : (Lit.int .u16 n).wf = true) : 0 ≤ n ∧ n < ((65536 : Nat) : Int) := by
  have h1 : IntKind.u16.min = 0 := rfl
  have h2 : IntKind.u16.max = 65535 := rfl
  simp only [Lit.wf, Bool.and_eq_true, decide_eq_true_eq] at h
  omega
theorem wf_u64 {n : Int} (h : (Lit.int .u64 n).wf = true) : 0 ≤ n ∧ n < ((18446744073709551616 : Nat) : Int) := by
  have h1 : IntKind.u64.min = 0 := rfl
  have h2 : IntKind.u64.max = 18446744073709551615 := rfl
  simp only [Lit.wf, Bool.and_eq_true, decide_eq_true_eq] at h
  omega
theorem size_reach {s : ByteArray} (h : s.data.toList.length ≤ reachBytes) : s.size ≤ 140737488351232 := h
end Go.Proofs.YtcndkhgbgjnclaaGreatDoor.nn
