/- Joined texts, what is wanted of them: NuA, NumLaws, Tree, NatBytes, RefBytes, RefAt, NnC, FdecScansW, NnD, NumSame, NumValuesW, NumDec, NumWholeW. -/
import Derived.Test.YtljbnnpmnoejeaaGreatDoorProg
import Derived.WalkKit
import Derived.Deep.WholeRow
import Derived.Lib.Hide
import Derived.Deep.QuietTactic
import Derived.BigQuiet
import Derived.IntWalk
import Derived.StillTailTactics
import Derived.Deep.RegionHeld3
import Derived.Deep.DeepCutAuto
import Derived.Test.YtljbnnpmnoejeaaGreatDoorJb
import Derived.Test.YtljbnnpmnoejeaaGreatDoorJg
import Derived.Test.YtljbnnpmnoejeaaGreatDoorJc
import Derived.Test.YtljbnnpmnoejeaaGreatDoorJa
import Derived.Test.YtljbnnpmnoejeaaGreatDoorJd
import Derived.Test.YtljbnnpmnoejeaaGreatDoorJk
import Derived.Test.YtljbnnpmnoejeaaGreatDoorJl
import Derived.Test.YtljbnnpmnoejeaaGreatDoorJf
import Derived.Test.YtljbnnpmnoejeaaGreatDoorJh
import Derived.Test.YtljbnnpmnoejeaaGreatDoorJe
import Derived.Test.YtljbnnpmnoejeaaGreatDoorJn
namespace Go.Proofs.YtljbnnpmnoejeaaGreatDoor.nn
open Go.RowKit

set_option maxRecDepth 100000 in
theorem nst_0 : ∀ b, b < 256 → nst 0 b = if decide (b = 45) = true then 1 else if decide (b = 48) = true then 2 else if decide (49 ≤ b ∧ b ≤ 57) = true then 3 else 9 := by decide +kernel
set_option maxRecDepth 100000 in
theorem nst_1 : ∀ b, b < 256 → nst 1 b = if decide (b = 48) = true then 2 else if decide (49 ≤ b ∧ b ≤ 57) = true then 3 else 9 := by decide +kernel
set_option maxRecDepth 100000 in
theorem nst_2 : ∀ b, b < 256 → nst 2 b = if decide (b = 46) = true then 4 else if decide (b = 101 ∨ b = 69) = true then 6 else 9 := by decide +kernel
set_option maxRecDepth 100000 in
theorem nst_3 : ∀ b, b < 256 → nst 3 b = if decide (48 ≤ b ∧ b ≤ 57) = true then 3 else if decide (b = 46) = true then 4 else if decide (b = 101 ∨ b = 69) = true then 6 else 9 := by decide +kernel
set_option maxRecDepth 100000 in
theorem nst_4 : ∀ b, b < 256 → nst 4 b = if decide (48 ≤ b ∧ b ≤ 57) = true then 5 else 9 := by decide +kernel
set_option maxRecDepth 100000 in
theorem nst_5 : ∀ b, b < 256 → nst 5 b = if decide (48 ≤ b ∧ b ≤ 57) = true then 5 else if decide (b = 101 ∨ b = 69) = true then 6 else 9 := by decide +kernel
set_option maxRecDepth 100000 in
theorem nst_6 : ∀ b, b < 256 → nst 6 b = if decide (48 ≤ b ∧ b ≤ 57) = true then 8 else if decide (b = 43) = true then 7 else if decide (b = 45) = true then 7 else 9 := by decide +kernel
set_option maxRecDepth 100000 in
theorem nst_7 : ∀ b, b < 256 → nst 7 b = if decide (48 ≤ b ∧ b ≤ 57) = true then 8 else 9 := by decide +kernel
set_option maxRecDepth 100000 in
theorem nst_8 : ∀ b, b < 256 → nst 8 b = if decide (48 ≤ b ∧ b ≤ 57) = true then 8 else 9 := by decide +kernel
theorem eq_dec (b k : Nat) : ((b : Int) == (k : Int)) = decide (b = k) := by
  by_cases h : b = k
  · rw [decide_eq_true h, h, beq_self_eq_true]
  · rw [decide_eq_false h, beq_eq_false_iff_ne]; omega

set_option maxRecDepth 100000 in
set_option maxHeartbeats 1000000 in
theorem isMark_any (b : Nat) (w : World) : Calls Tryz.prog 100 #[.int .u8 (b : Int)] w fun e w' => e = .returned (.bool (decide (b = 101 ∨ b = 69))) ∧ w = w' := by
  by_cases h1 : b = 101
  · subst h1
    go_enter Tryz.func100, Tryz.ntmps100
    go_wp2
    go_ret
    exact ⟨rfl, rfl⟩
  · have n1 : ((b : Int) == 101) = false := by rw [beq_eq_false_iff_ne]; omega
    by_cases h2 : b = 69
    · subst h2
      clear h1
      go_enter Tryz.func100, Tryz.ntmps100
      go_wp2
      go_ret
      exact ⟨rfl, rfl⟩
    · have n2 : ((b : Int) == 69) = false := by rw [beq_eq_false_iff_ne]; omega
      rw [decide_eq_false (show ¬ (b = 101 ∨ b = 69) by omega)]
      clear h1 h2
      go_enter Tryz.func100, Tryz.ntmps100
      go_wp2
      go_ret
      exact ⟨rfl, rfl⟩
set_option maxRecDepth 100000 in
set_option maxHeartbeats 1000000 in
theorem isDig_any (k b g : Nat) (w : World) (hc : w.cell? ⟨g, 0, none⟩ = some (.int .u8 (b : Int))) : Calls Tryz.prog 99 #[.int .u8 (k : Int), .pointer (some ⟨g, 0, none⟩)] w fun e w' => e = .returned (.bool (decide (k ≤ b ∧ b ≤ 57))) ∧ w = w' := by
  by_cases h1 : k ≤ b
  · by_cases h2 : b ≤ 57
    · rw [decide_eq_true (show k ≤ b ∧ b ≤ 57 by omega)]
      have g2 : decide ((b : Int) ≤ 57) = true := decide_eq_true (by omega)
      go_enter Tryz.func99, Tryz.ntmps99
      go_wp2
      go_ret
      exact ⟨rfl, rfl⟩
    · rw [decide_eq_false (show ¬ (k ≤ b ∧ b ≤ 57) by omega)]
      have g2 : decide ((b : Int) ≤ 57) = false := decide_eq_false (by omega)
      go_enter Tryz.func99, Tryz.ntmps99
      go_wp2
      go_ret
      exact ⟨rfl, rfl⟩
  · rw [decide_eq_false (show ¬ (k ≤ b ∧ b ≤ 57) by omega)]
    have g1 : decide ((k : Int) ≤ (b : Int)) = false := decide_eq_false (by omega)
    go_enter Tryz.func99, Tryz.ntmps99
    go_wp2
    go_ret
    exact ⟨rfl, rfl⟩
set_option maxRecDepth 100000 in
set_option maxHeartbeats 4000000 in
theorem step_any (q b : Nat) (w : World) (hq : q ≤ 8) (hb : b < 256) : Calls Tryz.prog 56 #[.int .i64 (q : Int), .int .u8 (b : Int)] w fun e w' => e = .returned (.int .i64 (nst q b : Int)) ∧ Below w.heap.size w w' := by
  have hmf : ∀ (fn : Fn) (first cap : Array Value) (w : World), (Instr.makeFunc fn first cap).run Tryz.prog w = .ok (.func fn first cap) w := fun _ _ _ _ => rfl
  have H8 := Lib.hid (isDig_any 48 b w.heap.size (w.alloc (.cells #[.int .u8 (b : Int)] 5)) (by simp))
  have H9 := Lib.hid (isDig_any 49 b w.heap.size (w.alloc (.cells #[.int .u8 (b : Int)] 5)) (by simp))
  have HM := Lib.hid (isMark_any b (w.alloc (.cells #[.int .u8 (b : Int)] 5)))
  have HB := Lib.hid ((Below.refl w.heap.size w).alloc (Nat.le_refl _) (.cells #[.int .u8 (b : Int)] 5))
  have e43 : ((b : Int) == 43) = decide (b = 43) := eq_dec b 43
  have e45 : ((b : Int) == 45) = decide (b = 45) := eq_dec b 45
  have e46 : ((b : Int) == 46) = decide (b = 46) := eq_dec b 46
  have e48 : ((b : Int) == 48) = decide (b = 48) := eq_dec b 48
  have q0 := Lib.hid (nst_0 b hb)
  have q1 := Lib.hid (nst_1 b hb)
  have q2 := Lib.hid (nst_2 b hb)
  have q3 := Lib.hid (nst_3 b hb)
  have q4 := Lib.hid (nst_4 b hb)
  have q5 := Lib.hid (nst_5 b hb)
  have q6 := Lib.hid (nst_6 b hb)
  have q7 := Lib.hid (nst_7 b hb)
  have q8 := Lib.hid (nst_8 b hb)
  obtain ⟨B43, h43⟩ : ∃ B, decide (b = 43) = B := ⟨_, rfl⟩
  obtain ⟨B45, h45⟩ : ∃ B, decide (b = 45) = B := ⟨_, rfl⟩
  obtain ⟨B46, h46⟩ : ∃ B, decide (b = 46) = B := ⟨_, rfl⟩
  obtain ⟨B48, h48⟩ : ∃ B, decide (b = 48) = B := ⟨_, rfl⟩
  obtain ⟨BM, hM⟩ : ∃ B, decide (b = 101 ∨ b = 69) = B := ⟨_, rfl⟩
  obtain ⟨D8, h8⟩ : ∃ B, decide (48 ≤ b ∧ b ≤ 57) = B := ⟨_, rfl⟩
  obtain ⟨D9, h9⟩ : ∃ B, decide (49 ≤ b ∧ b ≤ 57) = B := ⟨_, rfl⟩
  rw [h43] at e43 q6
  rw [h45] at e45 q0 q6
  rw [h46] at e46 q2 q3
  rw [h48] at e48 q0 q1
  rw [hM] at q2 q3 q5 HM
  rw [h8] at q3 q4 q5 q6 q7 q8 H8
  rw [h9] at q0 q1 H9
  clear h43 h45 h46 h48 hM h8 h9 hb
  have hc : q = 0 ∨ q = 1 ∨ q = 2 ∨ q = 3 ∨ q = 4 ∨ q = 5 ∨ q = 6 ∨ q = 7 ∨ q = 8 := by omega
  clear hq
  rcases hc with rfl | rfl | rfl | rfl | rfl | rfl | rfl | rfl | rfl
  · have Q := q0
    clear q0 q1 q2 q3 q4 q5 q6 q7 q8 H8 HM e43 e46
    go_enter Tryz.func56, Tryz.ntmps56
    cases B45
    · cases B48
      · go_wp2_with fail
        refine H9.out.mono ?_
        rintro e w' ⟨rfl, rfl⟩
        cases D9
        all_goals
          go_wp2_with fail
          go_ret
          exact ⟨ret_int (by rw [Q.out]; rfl), HB.out⟩
      · go_wp2_with fail
        go_ret
        exact ⟨ret_int (by rw [Q.out]; rfl), HB.out⟩
    · go_wp2_with fail
      go_ret
      exact ⟨ret_int (by rw [Q.out]; rfl), HB.out⟩
  · have Q := q1
    clear q0 q1 q2 q3 q4 q5 q6 q7 q8 H8 HM e43 e45 e46
    go_enter Tryz.func56, Tryz.ntmps56
    cases B48
    · go_wp2_with fail
      refine H9.out.mono ?_
      rintro e w' ⟨rfl, rfl⟩
      cases D9
      all_goals
        go_wp2_with fail
        go_ret
        exact ⟨ret_int (by rw [Q.out]; rfl), HB.out⟩
    · go_wp2_with fail
      go_ret
      exact ⟨ret_int (by rw [Q.out]; rfl), HB.out⟩
  · have Q := q2
    clear q0 q1 q2 q3 q4 q5 q6 q7 q8 H8 H9 e43 e45 e48
    go_enter Tryz.func56, Tryz.ntmps56
    cases B46
    · go_wp2_with fail
      refine HM.out.mono ?_
      rintro e w' ⟨rfl, rfl⟩
      cases BM
      all_goals
        go_wp2_with fail
        go_ret
        exact ⟨ret_int (by rw [Q.out]; rfl), HB.out⟩
    · go_wp2_with fail
      go_ret
      exact ⟨ret_int (by rw [Q.out]; rfl), HB.out⟩
  · have Q := q3
    clear q0 q1 q2 q3 q4 q5 q6 q7 q8 H9 e43 e45 e48
    go_enter Tryz.func56, Tryz.ntmps56
    go_wp2_with fail
    refine H8.out.mono ?_
    rintro e w' ⟨rfl, rfl⟩
    cases D8
    · cases B46
      · go_wp2_with fail
        refine HM.out.mono ?_
        rintro e w' ⟨rfl, rfl⟩
        cases BM
        all_goals
          go_wp2_with fail
          go_ret
          exact ⟨ret_int (by rw [Q.out]; rfl), HB.out⟩
      · go_wp2_with fail
        go_ret
        exact ⟨ret_int (by rw [Q.out]; rfl), HB.out⟩
    · go_wp2_with fail
      go_ret
      exact ⟨ret_int (by rw [Q.out]; rfl), HB.out⟩
  · have Q := q4
    clear q0 q1 q2 q3 q4 q5 q6 q7 q8 H9 HM e43 e45 e46 e48
    go_enter Tryz.func56, Tryz.ntmps56
    go_wp2_with fail
    refine H8.out.mono ?_
    rintro e w' ⟨rfl, rfl⟩
    cases D8
    all_goals
      go_wp2_with fail
      go_ret
      exact ⟨ret_int (by rw [Q.out]; rfl), HB.out⟩
  · have Q := q5
    clear q0 q1 q2 q3 q4 q5 q6 q7 q8 H9 e43 e45 e46 e48
    go_enter Tryz.func56, Tryz.ntmps56
    go_wp2_with fail
    refine H8.out.mono ?_
    rintro e w' ⟨rfl, rfl⟩
    cases D8
    · go_wp2_with fail
      refine HM.out.mono ?_
      rintro e w' ⟨rfl, rfl⟩
      cases BM
      all_goals
        go_wp2_with fail
        go_ret
        exact ⟨ret_int (by rw [Q.out]; rfl), HB.out⟩
    · go_wp2_with fail
      go_ret
      exact ⟨ret_int (by rw [Q.out]; rfl), HB.out⟩
  · have Q := q6
    clear q0 q1 q2 q3 q4 q5 q6 q7 q8 H9 HM e46 e48
    go_enter Tryz.func56, Tryz.ntmps56
    go_wp2_with fail
    refine H8.out.mono ?_
    rintro e w' ⟨rfl, rfl⟩
    cases D8
    · cases B43
      · cases B45
        all_goals
          go_wp2_with fail
          go_ret
          exact ⟨ret_int (by rw [Q.out]; rfl), HB.out⟩
      · go_wp2_with fail
        go_ret
        exact ⟨ret_int (by rw [Q.out]; rfl), HB.out⟩
    · go_wp2_with fail
      go_ret
      exact ⟨ret_int (by rw [Q.out]; rfl), HB.out⟩
  · have Q := q7
    clear q0 q1 q2 q3 q4 q5 q6 q7 q8 H9 HM e43 e45 e46 e48
    go_enter Tryz.func56, Tryz.ntmps56
    go_wp2_with fail
    refine H8.out.mono ?_
    rintro e w' ⟨rfl, rfl⟩
    cases D8
    all_goals
      go_wp2_with fail
      go_ret
      exact ⟨ret_int (by rw [Q.out]; rfl), HB.out⟩
  · have Q := q8
    clear q0 q1 q2 q3 q4 q5 q6 q7 q8 H9 HM e43 e45 e46 e48
    go_enter Tryz.func56, Tryz.ntmps56
    go_wp2_with fail
    refine H8.out.mono ?_
    rintro e w' ⟨rfl, rfl⟩
    cases D8
    all_goals
      go_wp2_with fail
      go_ret
      exact ⟨ret_int (by rw [Q.out]; rfl), HB.out⟩
set_option maxRecDepth 100000 in
set_option maxHeartbeats 1000000 in
theorem ends_any (q : Nat) (w : World) (hq : q ≤ 8) : Calls Tryz.prog 28 #[.int .i64 (q : Int)] w fun e w' => e = .returned (.bool (nacc q)) ∧ w = w' := by
  have hc : q = 0 ∨ q = 1 ∨ q = 2 ∨ q = 3 ∨ q = 4 ∨ q = 5 ∨ q = 6 ∨ q = 7 ∨ q = 8 := by omega
  clear hq
  rcases hc with rfl | rfl | rfl | rfl | rfl | rfl | rfl | rfl | rfl
  all_goals
    go_enter Tryz.func28, Tryz.ntmps28
    go_wp2
    go_ret
    exact ⟨rfl, rfl⟩
/-- where the states stop -/
def GoAns (s : ByteArray) (w : World) (e : Ending) (w' : World) : Prop := ∃ p, e = .returned (.tuple #[.int .i64 ((p : Nat) : Int), .int .i64 (nq (bt s) p : Int)]) ∧ p ≤ s.size ∧ nq (bt s) p ≠ 9 ∧ (p < s.size → nq (bt s) (p + 1) = 9) ∧ Below w.heap.size w w'
set_option maxRecDepth 100000 in
set_option maxHeartbeats 2000000 in
theorem goOver_any (s : ByteArray) (w : World) (hs : s.size ≤ 4611686018427387904) : Calls Tryz.prog 27 #[.string s] w (GoAns s w) := by
  have HS := Lib.hid (fun q b W (h1 : q ≤ 8) (h2 : b < 256) => step_any q b W h1 h2)
  have HB := Lib.hid (Below.refl w.heap.size w)
  go_enter Tryz.func27, Tryz.ntmps27
  go_wp2_with fail
  go_loopw [4, 9] (fun s4 s9 wr => ∃ i : Nat, i ≤ s.size ∧ s4 = .int .i64 (nq (bt s) i : Int) ∧ s9 = .int .i64 (i : Int) ∧ Hid (nq (bt s) i ≠ 9) ∧ Hid (Below w.heap.size w wr)) (fun _ s9 _ => s.size - (intOf s9).toNat)
  case atStart => exact ⟨0, Nat.zero_le _, rfl, rfl, Lib.hid (show (0 : Nat) ≠ 9 by decide), HB⟩
  case round =>
    obtain ⟨i, hi, rfl, rfl, h9, hB⟩ := hrel
    by_cases hlt : i < s.size
    · obtain ⟨x, hxx, hx, hx256⟩ := byte_of hlt
      have hq8 : nq (bt s) i ≤ 8 := by have := nq_le (bt s) i; have := h9.out; omega
      have HST := Lib.hid (fun W => HS.out (nq (bt s) i) x W hq8 hx256)
      have hnx : nst (nq (bt s) i) x = nq (bt s) (i + 1) := by rw [nq, hx]
      rw [hnx] at HST
      obtain ⟨Q, hQ⟩ : ∃ Q, nq (bt s) i = Q := ⟨_, rfl⟩
      obtain ⟨R, hR⟩ : ∃ R, nq (bt s) (i + 1) = R := ⟨_, rfl⟩
      rw [hQ] at HST h9 ⊢
      rw [hR] at HST
      have HQ := Lib.hid hQ
      have HR := Lib.hid hR
      clear hnx hx hQ hR hq8
      by_cases hr9 : R = 9
      · subst hr9
        go_wp2_with fail
        refine (HST.out _).mono ?_
        rintro e w' ⟨rfl, hb⟩
        have HB2 := Lib.hid (hB.out.trans (hb.mono hB.out.size))
        clear hb
        go_wp2_with fail
        go_ret2
        exact ⟨i, by rw [HQ.out]; rfl, hi, by rw [HQ.out]; exact h9.out, fun _ => HR.out, HB2.out⟩
      · have hne : ((R : Int) == 9) = false := by rw [beq_eq_false_iff_ne]; omega
        have HR9 := Lib.hid hr9
        clear hr9
        go_wp2_with fail
        refine (HST.out _).mono ?_
        rintro e w' ⟨rfl, hb⟩
        have HB2 := Lib.hid (hB.out.trans (hb.mono hB.out.size))
        clear hb
        go_wp2_with fail
        go_roundw
        case rel => exact ⟨i + 1, hlt, by rw [HR.out], by go_num, by rw [HR.out]; exact HR9, HB2⟩
        case measure => simp [intOf]; omega
    · obtain rfl : i = s.size := by omega
      go_wp2_with fail
      go_ret2
      exact ⟨s.size, rfl, Nat.le_refl _, h9.out, fun h => absurd h (Nat.lt_irrefl _), hB.out⟩
set_option maxRecDepth 100000 in
set_option maxHeartbeats 2000000 in
theorem pscan_any (s : ByteArray) (w : World) (hs : s.size ≤ 4611686018427387904) : Calls Tryz.prog 13 #[.string s] w (NmAns s w) := by
  have HG := Lib.hid (goOver_any s w hs)
  have HE := Lib.hid (fun q W (h : q ≤ 8) => ends_any q W h)
  go_enter Tryz.func13, Tryz.ntmps13
  go_wp2_with fail
  refine HG.out.mono ?_
  rintro e w1 ⟨p, rfl, hp, h9, hn, hb1⟩
  have B1 := Lib.hid hb1
  have hq8 : nq (bt s) p ≤ 8 := by have := nq_le (bt s) p; omega
  have HE1 := Lib.hid (fun W => HE.out (nq (bt s) p) W hq8)
  have HN : Hid (∀ E, E = (if nacc (nq (bt s) p) = true then 0 else if p = s.size then 3 else 4) → NmIs s p E) := Lib.hid fun E h => ⟨hp, h9, hn, h⟩
  obtain ⟨Q, hQ⟩ : ∃ Q, nq (bt s) p = Q := ⟨_, rfl⟩
  rw [hQ] at HE1 HN ⊢
  obtain ⟨A, hA⟩ : ∃ A, nacc Q = A := ⟨_, rfl⟩
  rw [hA] at HE1 HN
  clear hb1 h9 hn hQ hA hq8
  cases A with
  | true =>
    have HN2 := Lib.hid (HN.out 0 rfl)
    go_wp2_with fail
    refine (HE1.out _).mono ?_
    rintro e w' ⟨rfl, rfl⟩
    go_wp2_with fail
    go_ret2
    exact ⟨p, 0, rfl, HN2.out, B1.out⟩
  | false =>
    by_cases hlt : p < s.size
    · have HN2 := Lib.hid (HN.out 4 (by rw [if_neg (by decide), if_neg (by omega)]))
      go_wp2_with fail
      refine (HE1.out _).mono ?_
      rintro e w' ⟨rfl, rfl⟩
      go_wp2_with fail
      go_ret2
      exact ⟨p, 4, rfl, HN2.out, B1.out⟩
    · have HN2 := Lib.hid (HN.out 3 (by rw [if_neg (by decide), if_pos (by omega)]))
      go_wp2_with fail
      refine (HE1.out _).mono ?_
      rintro e w' ⟨rfl, rfl⟩
      go_wp2_with fail
      go_ret2
      exact ⟨p, 3, rfl, HN2.out, B1.out⟩
end Go.Proofs.YtljbnnpmnoejeaaGreatDoor.nn
namespace Go.Proofs.YtljbnnpmnoejeaaGreatDoor.nn
open Go.RowKit

theorem nm_five : NmIs ⟨#[53]⟩ 1 0 := ⟨by decide, by decide, fun h => absurd h (by decide), by decide⟩
set_option maxRecDepth 100000 in
theorem awake7 (w : World) : Calls Tryz.prog 10 #[] w fun e w' => e = .returned (.bool true) ∧ Below w.heap.size w w' := by
  have HC := Lib.hid (pscan_any ⟨#[53]⟩ w (by decide))
  go_enter Tryz.func10, Tryz.ntmps10
  go_wp2_with fail
  refine HC.out.mono ?_
  rintro e w' ⟨p, E, rfl, h, hb⟩
  obtain ⟨rfl, rfl⟩ := h.uniq nm_five
  have HB := Lib.hid hb
  clear h hb
  go_wp2_with fail
  go_ret
  exact ⟨rfl, HB.out⟩
/-- Scan, once its answer is known -/
theorem pscan_is {s : ByteArray} {p e : Nat} (h : NmIs s p e) (hs : s.size ≤ 4611686018427387904) (w : World) :
    Calls Tryz.prog 13 #[.string s] w fun r w' => r = .returned (.tuple #[.int .i64 (p : Int), .int .i64 (e : Int)]) ∧ Below w.heap.size w w' := by
  refine (pscan_any s w hs).mono ?_
  rintro r w' ⟨p', e', rfl, h', hb⟩
  obtain ⟨rfl, rfl⟩ := h.uniq h'
  exact ⟨rfl, hb⟩
end Go.Proofs.YtljbnnpmnoejeaaGreatDoor.nn
namespace Go.Proofs.YtljbnnpmnoejeaaGreatDoor.nn
open Go.RowKit

/-- a tree of values -/
inductive VT where
  | mk (k : Int) (g : Bool) (n : Nat) (s : ByteArray) (l : List VT)
def VT.k : VT → Int | .mk k _ _ _ _ => k
def VT.g : VT → Bool | .mk _ g _ _ _ => g
def VT.n : VT → Nat | .mk _ _ n _ _ => n
def VT.s : VT → ByteArray | .mk _ _ _ s _ => s
def VT.l : VT → List VT | .mk _ _ _ _ l => l

mutual
/-- values and letters -/
def blk : VT → Nat | .mk _ _ _ s l => s.size + blkL l + 5
def blkL : List VT → Nat | [] => 1 | t :: r => blk t + blkL r
end
theorem blk_mk (t : VT) : blk t = t.s.size + blkL t.l + 5 := by cases t; rfl
mutual
/-- numbers within their kinds -/
def wfT : VT → Prop | .mk k _ n _ l => -9223372036854775808 ≤ k ∧ k ≤ 9223372036854775807 ∧ n < 18446744073709551616 ∧ wfL l
def wfL : List VT → Prop | [] => True | t :: r => wfT t ∧ wfL r
end
theorem wfT_mk (t : VT) : wfT t ↔ -9223372036854775808 ≤ t.k ∧ t.k ≤ 9223372036854775807 ∧ t.n < 18446744073709551616 ∧ wfL t.l := by cases t; rfl
/-- the five cells of a value, from a place on; C: the slice of those within it -/
structure Row (w : World) (b o : Nat) (t : VT) (C : Value) : Prop where
  k : w.cell? ⟨b, o, none⟩ = some (.int .i64 t.k)
  g : w.cell? ⟨b, o + 1, none⟩ = some (.bool t.g)
  n : w.cell? ⟨b, o + 2, none⟩ = some (.int .u64 (t.n : Int))
  s : w.cell? ⟨b, o + 3, none⟩ = some (.string t.s)
  l : w.cell? ⟨b, o + 4, none⟩ = some C
/-- a slice holds a list of trees -/
inductive Lst (w : World) : Value → List VT → Prop where
  | nil_ {A : Option Addr} {c : Nat} : Lst w (.slice A 0 c) []
  | at_ {b off m c : Nat} {C : Nat → Value} {l : List VT} (hl : l.length = m) (hc : m ≤ c) (hb : b < w.heap.size) (hr : ∀ i (h : i < l.length), Row w b (off + i * 5) l[i] (C i)) (hk : ∀ i (h : i < l.length), Lst w (C i) l[i].l) : Lst w (.slice (some ⟨b, off, none⟩) m c) l
/-- a value that is handed over -/
def vv (t : VT) (C : Value) : Value := .agg #[.int .i64 t.k, .bool t.g, .int .u64 (t.n : Int), .string t.s, C]

theorem Row.below {w w' : World} {B b o : Nat} {t : VT} {C : Value} (h : Row w b o t C) (hB : Below B w w') (hb : b < B) : Row w' b o t C :=
  ⟨(hB.cell (p := ⟨b, o, none⟩) hb).trans h.k, (hB.cell (p := ⟨b, o + 1, none⟩) hb).trans h.g, (hB.cell (p := ⟨b, o + 2, none⟩) hb).trans h.n, (hB.cell (p := ⟨b, o + 3, none⟩) hb).trans h.s, (hB.cell (p := ⟨b, o + 4, none⟩) hb).trans h.l⟩
theorem Lst.keep {w w' : World} {v : Value} {l : List VT} (h : Lst w v l) : ∀ {B : Nat}, Below B w w' → w.heap.size ≤ B → Lst w' v l := by
  induction h with
  | nil_ => intro B _ _; exact .nil_
  | at_ hl hc hb hr hk ih =>
    intro B hB hs
    exact .at_ hl hc (Nat.lt_of_lt_of_le hb hB.size) (fun i h => (hr i h).below hB (Nat.lt_of_lt_of_le hb hs)) (fun i h => ih i h hB hs)
/-- a slice of trees: its address, its length -/
theorem Lst.out {w : World} {v : Value} {l : List VT} (h : Lst w v l) : ∃ (A : Option Addr) (c : Nat), v = .slice A l.length c ∧ l.length ≤ c ∧ ((True ∧ l = [] ∧ True) ∨ ∃ (b off : Nat) (C : Nat → Value), A = some ⟨b, off, none⟩ ∧ b < w.heap.size ∧ (∀ i (h : i < l.length), Row w b (off + i * 5) l[i] (C i)) ∧ ∀ i (h : i < l.length), Lst w (C i) l[i].l) := by
  cases h with
  | nil_ => exact ⟨_, _, rfl, Nat.zero_le _, .inl ⟨trivial, rfl, trivial⟩⟩
  | at_ hl hc hb hr hk =>
    subst hl
    exact ⟨_, _, rfl, hc, .inr ⟨_, _, _, rfl, hb, hr, hk⟩⟩
/-- a world behind: what was there is there; a value that was handed over lies in the first new block -/
structure Box (w : World) (t : VT) (C : Value) (W : World) : Prop where
  b : Below w.heap.size w W
  z : w.heap.size < W.heap.size
  r : Row W w.heap.size 0 t C
theorem Box.new (w : World) (t : VT) (C : Value) (T : TypeId) : Box w t C (w.alloc (.cells #[.int .i64 t.k, .bool t.g, .int .u64 (t.n : Int), .string t.s, C] T)) :=
  ⟨(Below.refl _ _).alloc (Nat.le_refl _) _, by simp, ⟨by simp, by simp, by simp, by simp, by simp⟩⟩
theorem Box.on {w W W' : World} {t : VT} {C : Value} (h : Box w t C W) (hB : Below W.heap.size W W') : Box w t C W' :=
  ⟨h.b.trans (hB.mono (Nat.le_of_lt h.z)), Nat.lt_of_lt_of_le h.z hB.size, h.r.below hB h.z⟩
theorem Box.low {w W W' : World} {t : VT} {C : Value} (h : Box w t C W) (hB : Below (w.heap.size + 1) W W') : Box w t C W' :=
  ⟨h.b.trans (hB.mono (Nat.le_succ _)), Nat.lt_of_lt_of_le h.z hB.size, h.r.below hB (Nat.lt_succ_self _)⟩
theorem Box.drew {w W : World} {t : VT} {C : Value} (h : Box w t C W) : Box w t C W.drew := h.on (Below.drew (Below.refl _ _))
/-- likewise of two values that were handed over -/
structure Box2 (w : World) (t : VT) (C : Value) (u : VT) (D : Value) (W : World) : Prop where
  b : Below w.heap.size w W
  z : w.heap.size + 1 < W.heap.size
  r : Row W w.heap.size 0 t C
  r2 : Row W (w.heap.size + 1) 0 u D
theorem Box2.new (w : World) (t : VT) (C : Value) (u : VT) (D : Value) (T : TypeId) : Box2 w t C u D ((w.alloc (.cells #[.int .i64 t.k, .bool t.g, .int .u64 (t.n : Int), .string t.s, C] T)).alloc (.cells #[.int .i64 u.k, .bool u.g, .int .u64 (u.n : Int), .string u.s, D] T)) := by
  have h := Box.new w t C T
  have h2 := Box.new (w.alloc (.cells #[.int .i64 t.k, .bool t.g, .int .u64 (t.n : Int), .string t.s, C] T)) u D T
  have hz : (w.alloc (.cells #[.int .i64 t.k, .bool t.g, .int .u64 (t.n : Int), .string t.s, C] T)).heap.size = w.heap.size + 1 := by simp
  have h3 := h2.z
  have h4 := h2.r
  rw [hz] at h3 h4
  exact ⟨(h.on h2.b).b, h3, (h.on h2.b).r, h4⟩
theorem Box2.on {w W W' : World} {t u : VT} {C D : Value} (h : Box2 w t C u D W) (hB : Below W.heap.size W W') : Box2 w t C u D W' :=
  ⟨h.b.trans (hB.mono (by have := h.z; omega)), Nat.lt_of_lt_of_le h.z hB.size, h.r.below hB (by have := h.z; omega), h.r2.below hB h.z⟩
theorem Box2.drew {w W : World} {t u : VT} {C D : Value} (h : Box2 w t C u D W) : Box2 w t C u D W.drew := h.on (Below.drew (Below.refl _ _))
end Go.Proofs.YtljbnnpmnoejeaaGreatDoor.nn
namespace Go.Proofs.YtljbnnpmnoejeaaGreatDoor.nn
open Go.RowKit

/-- the number of m bytes, the highest first -/
def be (b : Nat → Nat) : Nat → Nat
  | 0 => 0
  | k + 1 => be b k * 256 + b k
theorem pow256 (q r : Nat) : 256 ^ (4 * q + r) = 2 ^ (8 * r) * (2 ^ 32) ^ q := by
  rw [Nat.pow_add, Nat.mul_comm, Nat.pow_mul 256 4 q, Nat.pow_mul 2 8 r]
/-- one byte of a number of limbs -/
theorem sm_byte {f : Nat → Nat} {n q r : Nat} (lf : Lt (2 ^ 32) f n) (hq : q < n) (hr : r < 4) : sm (2 ^ 32) f n / 256 ^ (4 * q + r) % 256 = f q / 2 ^ (8 * r) % 256 := by
  have h1 := sm_split (2 ^ 32) f q (n - q)
  rw [Nat.add_sub_cancel' (by omega)] at h1
  obtain ⟨t, ht⟩ : ∃ t, n - q = 1 + t := ⟨n - q - 1, by omega⟩
  have h2 := sm_split (2 ^ 32) (fun i => f (q + i)) 1 t
  rw [← ht] at h2
  have h3 : sm (2 ^ 32) (fun i => f (q + i)) 1 = f q := by simp [sm]
  rw [h3, Nat.pow_one] at h2
  have hlow : sm (2 ^ 32) f q < (2 ^ 32) ^ q := sm_lt (lf.mono (by omega))
  have hD : 0 < (2 ^ 32) ^ q := Nat.pow_pos (Nat.two_pow_pos 32)
  have hfq := lf q hq
  rw [h1, h2, pow256, Nat.mul_comm (2 ^ (8 * r)), ← Nat.div_div_eq_div_mul, Nat.add_mul_div_right _ _ hD, Nat.div_eq_of_lt hlow, Nat.zero_add]
  generalize sm (2 ^ 32) (fun i => f (q + (1 + i))) t = X
  match r, hr with
  | 0, _ => simp only [Nat.mul_zero, Nat.pow_zero, Nat.div_one]; omega
  | 1, _ => show (f q + X * 4294967296) / 256 % 256 = f q / 256 % 256; omega
  | 2, _ => show (f q + X * 4294967296) / 65536 % 256 = f q / 65536 % 256; omega
  | 3, _ => show (f q + X * 4294967296) / 16777216 % 256 = f q / 16777216 % 256; omega

theorem info_u8 : (Tryz.prog.info? 5).map (fun i => (i.zero, i.size, i.bytes)) = some (some (.int .u8 0), 1, 1) := by kernel_rfl
theorem made_vl8 (n : Nat) : (madeCells (Value.int .u8 0).cells (n * 1)).toList = vl .u8 (fun _ => 0) n := by
  rw [Nat.mul_one]
  show (madeCells #[Value.int .u8 0] n).toList = _
  rw [toList_madeCells_one]
  simp only [vl]
  apply List.ext_getElem (by simp)
  intro i h1 h2
  simp

/-- bytes of its own are the answer: just those of N -/
def OutB (w w' : World) (e : Ending) (N : Nat) : Prop :=
  ∃ g O, e = .returned (.slice (some ⟨g, 0, none⟩) ((bl N + 7) / 8) ((bl N + 7) / 8)) ∧ w.heap.size ≤ g ∧ Rd w' .u8 (some ⟨g, 0, none⟩) ((bl N + 7) / 8) O ∧
    (∀ i, i < (bl N + 7) / 8 → O i = N / 256 ^ ((bl N + 7) / 8 - 1 - i) % 256) ∧ Below w.heap.size w w'

def BytRel (w wr : World) (g : Nat) (e : TypeId) (cur : Array Value) (m N i : Nat) : Prop :=
  ∃ (f' : Nat → Nat) (cur' : Array Value), Wrote w wr g e cur cur' 0 m ∧ Ints cur' .u8 0 m f' ∧ ∀ j, j < i → f' j = N / 256 ^ (m - 1 - j) % 256
theorem BytRel.step {w wr : World} {g : Nat} {e : TypeId} {cur : Array Value} {m N i : Nat} (h : BytRel w wr g e cur m N i) (hi : i < m) (v : Nat) (hv : v = N / 256 ^ (m - 1 - i) % 256) (z : Int) (hz : z = (v : Int)) : BytRel w (wr.setCell ⟨g, i, none⟩ (.int .u8 z)) g e cur m N (i + 1) := by
  subst hz
  obtain ⟨f', cur', h1, h2, h3⟩ := h
  have a := h1.set_ i hi (.int .u8 (v : Int))
  have b := h2.set_ i v hi
  rw [Nat.zero_add] at a b
  refine ⟨_, _, a, b, fun j hj => ?_⟩
  by_cases e : j = i
  · subst e; rw [upd_at]; exact hv
  · rw [upd_ne _ e]; exact h3 j (by omega)

set_option maxRecDepth 100000 in
set_option maxHeartbeats 1000000 in
theorem bytes_any (A : Option Addr) (n c : Nat) (f : Nat → Nat) (w : World) (hA : Rd w .u32 A n f) (lf : Lt (2 ^ 32) f n) (hn : n ≤ c) (hc : c ≤ maxLen) (hreach : n * 4 ≤ 140737488351232) :
    Calls Tryz.prog 34 #[.slice A n c] w fun e w' => OutB w w' e (sm (2 ^ 32) f n) := by
  obtain ⟨i0, hi, hz0, hz1, hz2⟩ := info_parts info_u8
  have HB := Lib.hid (bits_any A n c f w hA lf hn hc (by omega))
  obtain ⟨N, hN⟩ : ∃ N, sm (2 ^ 32) f n = N := ⟨_, rfl⟩
  have hbl : bl N ≤ 32 * n := by
    rw [← hN]
    refine bl_le ?_
    rw [Nat.pow_mul 2 32 n]
    exact sm_lt lf
  rw [hN] at HB
  rw [hN]
  obtain ⟨m, hm⟩ : ∃ m, (bl N + 7) / 8 = m := ⟨_, rfl⟩
  have hm' : ((bl N : Int) + 7) / 8 = (m : Int) := by omega
  have hm4 : m ≤ 4 * n := by omega
  have HM := Lib.hid (And.intro hm hN)
  have hlf := Lib.hid lf
  have hmb : m ≤ 140737488351232 := by omega
  obtain ⟨B, hB⟩ : ∃ B, bl N = B := ⟨_, rfl⟩
  rw [hB] at HB hm' hbl
  clear hm hN hB lf
  go_enter Tryz.func34, Tryz.ntmps34
  go_wp2_with (first
    | (go_at_call 70; refine HB.out.mono ?_; rintro e w' ⟨rfl, rfl⟩)
    | (refine wpList_make_full _ rfl _ _ 41 rfl w.heap.size 5 i0 _ 1 Tryz.underlying41 hi hz0 hz1 .i64 .i64 _ _ m rfl rfl ?c1 ?c2 ?c3 ?c4 ?c5 ?_; rotate_left 5; intro w1 hown1 hg1))
  case c1 => exact hm'
  case c2 => exact hm'
  case c3 => rw [hz2]; omega
  case c4 => unfold maxLen; omega
  case c5 => omega
  rw [made_vl8] at hown1
  obtain ⟨cur, hbk, hint, _, _, _, hcs, _⟩ := own_wrote hown1
  have hbw1 : Below w.heap.size w w1 := (Below.refl _ _).grown (row := none) hg1 (Nat.le_refl _) (fun k hk => by cases hk)
  have hA1 := hA.below hbw1
  have hne : Hid (∀ b o, A = some ⟨b, o, none⟩ → 0 < n → b ≠ w.heap.size) := Lib.hid fun b o e h0 => by have := hA.lt e h0; omega
  clear hown1 hcs hg1 hm'
  go_loopw [15] (fun s wr => ∃ i : Nat, i ≤ m ∧ s = .int .i64 i ∧ Hid (BytRel w1 wr w.heap.size 5 cur m N i)) (fun s _ => m - (intOf s).toNat)
  case atStart => exact ⟨0, Nat.zero_le _, rfl, Lib.hid ⟨fun _ => 0, cur, Wrote.refl hbk 0 _, hint, fun j hj => absurd hj (by omega)⟩⟩
  case round =>
    obtain ⟨i, hi', rfl, hrel⟩ := hrel
    by_cases hlt : i < m
    · obtain ⟨f', cur', hw, hin, _⟩ := hrel.out
      obtain ⟨q, hq⟩ : ∃ q, (m - 1 - i) / 4 = q := ⟨_, rfl⟩
      obtain ⟨r, hr⟩ : ∃ r, (m - 1 - i) % 4 = r := ⟨_, rfl⟩
      have hp : m - 1 - i = 4 * q + r := by omega
      have hr4 : r < 4 := by omega
      have hqn : q < n := by omega
      have hval := sm_byte hlf.out hqn hr4
      rw [HM.out.2, ← hp] at hval
      obtain ⟨b, off, rfl, _, hcell⟩ := (hA1.wrote hw hne.out) (by omega)
      have hx := hcell q hqn
      have bx := hlf.out q hqn
      have hc1 := (Bk.cell hw.blk (0 + i)).trans (hin i hlt)
      have hf1 := Bk.frozen hw.blk (0 + i)
      rw [Nat.zero_add] at hc1 hf1
      have HV := Lib.hid hval.symm
      obtain ⟨p, hpp⟩ : ∃ p, 4 * q + r = p := ⟨_, rfl⟩
      obtain ⟨t, htt⟩ : ∃ t, 8 * r = t := ⟨_, rfl⟩
      have t32 : t < 32 := by omega
      have e1 : (m : Int) - 1 - (i : Int) = (p : Int) := by omega
      have e2 : (p : Int) / 4 = (q : Int) := by omega
      have e3 : (p : Int) % 4 = (r : Int) := by omega
      have e4 : (8 : Int) * (r : Int) = (t : Int) := by omega
      rw [htt] at HV
      clear hcell hval hq hr hp hpp htt hw hin
      go_wp2_with fail
      go_roundw
      case rel => exact ⟨i + 1, by omega, by go_num, Lib.hid (hrel.out.step hlt _ HV.out _ (by first | rfl | simp))⟩
      case measure => simp [intOf]; omega
    · obtain rfl : i = m := by omega
      obtain ⟨f', cur', hw, hin, hall⟩ := hrel.out
      have hbw2 := hbw1.grown hw.grown hbw1.size (fun k hk => by injection hk with hk; exact Nat.le_of_eq hk)
      have HR := Lib.hid (hin.rd hw.blk)
      have HL := Lib.hid hall
      clear hall hw hin
      go_wp2
      go_ret
      refine ⟨w.heap.size, f', ?_, Nat.le_refl _, ?_, ?_, hbw2⟩
      · rw [HM.out.1]; rfl
      · rw [HM.out.1]; exact HR.out
      · rw [HM.out.1]; exact HL.out
end Go.Proofs.YtljbnnpmnoejeaaGreatDoor.nn
namespace Go.Proofs.YtljbnnpmnoejeaaGreatDoor.nn
open Go.RowKit

/-- how many bytes a number has -/
def nb (N : Nat) : Nat := (bl N + 7) / 8
theorem nb_zero : nb 0 = 0 := rfl
theorem bl_mono {a b : Nat} (h : a ≤ b) : bl a ≤ bl b := bl_le (Nat.lt_of_le_of_lt h (bl_lt b))
theorem nb_mono {a b : Nat} (h : a ≤ b) : nb a ≤ nb b := by have := bl_mono h; unfold nb; omega
theorem nb_lt (N : Nat) : N < 256 ^ nb N := by
  refine Nat.lt_of_lt_of_le (bl_lt N) ?_
  rw [show (256 : Nat) = 2 ^ 8 from rfl, ← Nat.pow_mul]
  exact Nat.pow_le_pow_right (by decide) (by unfold nb; omega)
theorem nb_ge {N : Nat} (h : N ≠ 0) : 256 ^ (nb N - 1) ≤ N ∧ 0 < nb N := by
  obtain ⟨b1, b2⟩ := bl_ge h
  refine ⟨Nat.le_trans ?_ b1, by unfold nb; omega⟩
  rw [show (256 : Nat) = 2 ^ 8 from rfl, ← Nat.pow_mul]
  exact Nat.pow_le_pow_right (by decide) (by unfold nb; omega)
theorem nb_of {N j : Nat} (h1 : 256 ^ j ≤ N) (h2 : N < 256 ^ (j + 1)) : nb N = j + 1 := by
  have h3 : N ≠ 0 := by have := Nat.pow_pos (n := j) (by decide : 0 < 256); omega
  obtain ⟨h4, h5⟩ := nb_ge h3
  have h6 := nb_lt N
  rcases Nat.lt_trichotomy (nb N) (j + 1) with h | h | h
  · have : 256 ^ nb N ≤ 256 ^ j := Nat.pow_le_pow_right (by decide) (by omega)
    omega
  · exact h
  · have : 256 ^ (j + 1) ≤ 256 ^ (nb N - 1) := Nat.pow_le_pow_right (by decide) (by omega)
    omega
theorem nb_step {N0 N1 c : Nat} (h : N0 = N1 * 256 + c) (hc : c < 256) (hN : 0 < nb N1 ∨ c ≠ 0) : nb N0 = nb N1 + 1 := by
  by_cases h0 : N1 = 0
  · subst h0
    rw [nb_zero] at hN ⊢
    refine nb_of (j := 0) ?_ ?_
    · simp; omega
    · omega
  · obtain ⟨h1, h2⟩ := nb_ge h0
    have h3 := nb_lt N1
    obtain ⟨k, hk⟩ : ∃ k, nb N1 = k + 1 := ⟨nb N1 - 1, by omega⟩
    rw [hk] at h1 h3 ⊢
    rw [Nat.add_sub_cancel] at h1
    refine nb_of ?_ ?_
    · rw [Nat.pow_succ]; omega
    · rw [Nat.pow_succ]; omega

/-- the bytes of N stand in a row -/
def Byts (O : Nat → Nat) (N j : Nat) : Prop := j = nb N ∧ ∀ t, t < j → O t = N / 256 ^ (j - 1 - t) % 256
theorem Byts.step {O : Nat → Nat} {N0 N1 c j : Nat} (H : Byts O N1 j) (h : N0 = N1 * 256 + c) (hc : c < 256) (hN : 0 < j ∨ c ≠ 0) : Byts (jn O j (fun _ => c)) N0 (j + 1) := by
  obtain ⟨h1, h2⟩ := H
  refine ⟨by rw [h1, nb_step h hc (by rw [← h1]; exact hN)], fun t ht => ?_⟩
  by_cases e : t = j
  · subst e
    have := jn_hi O (fun _ => c) t 0
    rw [Nat.add_zero] at this
    rw [this, Nat.add_sub_cancel, Nat.sub_self, Nat.pow_zero, Nat.div_one, h]
    omega
  · rw [jn_lo O _ (by omega), h2 t (by omega), Nat.add_sub_cancel]
    obtain ⟨d, hd⟩ : ∃ d, j - t = d + 1 := ⟨j - t - 1, by omega⟩
    rw [hd, show j - 1 - t = d by omega, Nat.pow_succ, Nat.mul_comm (256 ^ d) 256, ← Nat.div_div_eq_div_mul, h, show (N1 * 256 + c) / 256 = N1 by omega]
theorem Byts.skip {O : Nat → Nat} {N0 N1 j : Nat} (H : Byts O N1 j) (h : N0 = N1 * 256) (hN : j = 0) : Byts O N0 j := by
  obtain ⟨h1, _⟩ := H
  subst hN
  have h0 : N1 = 0 := by
    rcases Nat.eq_zero_or_pos N1 with e | e
    · exact e
    · have := (nb_ge (N := N1) (by omega)).2; omega
  subst h0
  rw [h, Nat.zero_mul]
  exact ⟨rfl, fun t ht => absurd ht (by omega)⟩
theorem div256 (N p : Nat) : N / 256 ^ p = N / 256 ^ (p + 1) * 256 + N / 256 ^ p % 256 := by
  rw [Nat.pow_succ, ← Nat.div_div_eq_div_mul]
  omega

def RbRel (base : Nat) (w0 wr : World) (v : Value) (N j : Nat) : Prop :=
  ∃ O, wr.ownsRow base 5 1 v j (vl .u8 O j) ∧ Below base w0 wr ∧ base ≤ wr.heap.size ∧ Byts O N j ∧ ∀ t, t < j → O t < 256

/-- bytes are the answer: just those of N -/
def OutR (w w' : World) (e : Ending) (N : Nat) : Prop :=
  ∃ A c O, e = .returned (.slice A ((bl N + 7) / 8) c) ∧ Rd w' .u8 A ((bl N + 7) / 8) O ∧
    (∀ i, i < (bl N + 7) / 8 → O i = N / 256 ^ ((bl N + 7) / 8 - 1 - i) % 256) ∧ Below w.heap.size w w'

set_option maxRecDepth 100000 in
set_option maxHeartbeats 1000000 in
theorem rbytes_any (A : Option Addr) (n c : Nat) (f : Nat → Nat) (w : World) (hA : Rd w .u32 A n f) (lf : Lt (2 ^ 32) f n) (hn : n ≤ c) (hreach : n * 4 ≤ 140737488351232) :
    Calls Tryz.prog 44 #[.slice A n c] w fun e w' => OutR w w' e (sm (2 ^ 32) f n) := by
  obtain ⟨i0, hi, hz0, hz1, hz2⟩ := info_parts info_u8
  have hle := tr_le f n
  have hsm := sm_tr (2 ^ 32) f n
  obtain ⟨p, hp⟩ : ∃ p, tr f n = p := ⟨_, rfl⟩
  have HT := Lib.hid (rtrim_at A n c p f w hp hA hn (by omega))
  rw [hp] at hle hsm
  have lp := lf.mono hle
  have hN := sm_lt lp
  obtain ⟨N, hNN⟩ : ∃ N, sm (2 ^ 32) f p = N := ⟨_, rfl⟩
  have HBY : Hid (∀ q r, q < p → r < 4 → N / 256 ^ (4 * q + r) % 256 = f q / 2 ^ (8 * r) % 256) := Lib.hid fun q r hq hr => by rw [← hNN]; exact sm_byte lp hq hr
  rw [← hsm, hNN]
  rw [hNN] at hN
  have hN4 : N < 256 ^ (4 * p) := by
    rw [Nat.pow_mul]; exact hN
  have hbl : nb N ≤ 4 * n := by
    have h1 : bl N ≤ 32 * p := bl_le (by rw [Nat.pow_mul 2 32 p]; exact hN)
    unfold nb; omega
  have HN0 : Hid (N / 256 ^ (4 * p) = 0) := Lib.hid (Nat.div_eq_of_lt hN4)
  have HBL := Lib.hid hbl
  have HLP := Lib.hid lp
  clear hp hsm hN hNN hN4 hbl lf lp hA
  go_enter Tryz.func44, Tryz.ntmps44
  go_wp2_with fail
  refine HT.out.mono ?_
  rintro e w1 ⟨A1, c1, rfl, hr1, hb1⟩
  have HR1 := Lib.hid hr1
  have HB1 := Lib.hid hb1
  clear hr1 hb1
  go_wp2_with fail
  go_loopw [4, 5] (fun s4 s5 wr => ∃ (u j : Nat) (A' : Option Addr) (c' : Nat), u ≤ p ∧ s5 = .int .i64 ((u : Int) - 1) ∧ s4 = .slice A' j c' ∧ j ≤ 4 * n ∧ Hid (RbRel w1.heap.size w1 wr (.slice A' j c') (N / 256 ^ (4 * u)) j)) (fun _ s5 _ => (intOf s5 + 1).toNat)
  case atStart => exact ⟨p, 0, none, 0, Nat.le_refl _, rfl, rfl, Nat.zero_le _, Lib.hid ⟨fun _ => 0, World.ownsRow_nil _ _ _ _, Below.refl _ _, Nat.le_refl _, by rw [HN0.out]; exact ⟨rfl, fun t ht => absurd ht (by omega)⟩, fun t ht => absurd ht (by omega)⟩⟩
  case round =>
    obtain ⟨u, j, A', c', hu, rfl, rfl, hj, hrelo⟩ := hrel
    by_cases hu0 : 0 < u
    · obtain ⟨q, rfl⟩ : ∃ q, u = q + 1 := ⟨u - 1, by omega⟩
      have hs0 : (((q + 1 : Nat) : Int) - 1) = (q : Int) := by omega
      rw [hs0]
      clear hs0
      go_wp2_with fail
      go_loopw [4, 6] (fun s4 s6 wr => ∃ (r t j : Nat) (A' : Option Addr) (c' : Nat), r ≤ 4 ∧ 8 * r = t ∧ s6 = .int .i64 ((t : Int) - 8) ∧ s4 = .slice A' j c' ∧ j ≤ 4 * n ∧ Hid (RbRel w1.heap.size w1 wr (.slice A' j c') (N / 256 ^ (4 * q + r)) j)) (fun _ s6 _ => (intOf s6 + 8).toNat)
      case atStart => exact ⟨4, 32, j, A', c', Nat.le_refl _, rfl, rfl, rfl, hj, hrelo⟩
      case round =>
        clear hrelo hj
        obtain ⟨r, t, j, A', c', hr, ht, rfl, rfl, hj, hrel⟩ := hrel
        by_cases hr0 : 0 < r
        · obtain ⟨s, rfl⟩ : ∃ s, r = s + 1 := ⟨r - 1, by omega⟩
          obtain ⟨t', rfl⟩ : ∃ t', t = t' + 8 := ⟨t - 8, by omega⟩
          have ht' : 8 * s = t' := by omega
          have hs0 : (((t' + 8 : Nat) : Int) - 8) = (t' : Int) := by omega
          rw [hs0]
          have t32 : t' < 32 := by omega
          obtain ⟨O, ho, hbw, hsz', hby, hO⟩ := hrel.out
          obtain ⟨b, off, rfl, _, hcell⟩ := (HR1.out.below hbw) (by omega)
          have hx := hcell q (by omega)
          have bx := HLP.out q (by omega)
          have hval := HBY.out q s (by omega) (by omega)
          rw [ht'] at hval
          obtain ⟨cc, hcc⟩ : ∃ cc, f q / 2 ^ t' % 256 = cc := ⟨_, rfl⟩
          rw [hcc] at hval
          have hd := div256 N (4 * q + s)
          rw [hval] at hd
          have hc256 : cc < 256 := by omega
          have HD := Lib.hid hd
          have hz : (f q : Int) / 2 ^ t' % 256 = (cc : Int) := by
            rw [← hcc]
            simp
          have HBW := Lib.hid hbw
          clear hs0 hcell hval hd hcc ht
          have HBY2 := Lib.hid hby
          have HO := Lib.hid hO
          have HTT := Lib.hid ht'
          clear hby hO hbw ht'
          by_cases hj0 : 0 < j
          · have HC : Hid (0 < j ∨ cc ≠ 0) := Lib.hid (.inl hj0)
            go_wp2_with (at_builtin; refine wpList_app rfl (.tmp 35) (.tmp 37) _ rfl w1.heap.size 5 i0 _ 1 Tryz.underlying41 hi hz0 hz1 hz2 rfl .u8 _ j O rfl (ho.alloc _) _ 1 1 (fun _ => cc) rfl (rd_one _ .u8 cc _) (by unfold maxLen; omega) (by omega) (by rw [hsz]; omega) ?_; intro v1 w2 hown1 hb2)
            obtain ⟨A2, c2, rfl, _, _, _⟩ := Rd.of_own hown1
            have hby2 := Byts.step HBY2.out HD.out hc256 HC.out
            have hj2 : j + 1 ≤ 4 * n := by rw [hby2.1]; exact Nat.le_trans (nb_mono (Nat.div_le_self _ _)) HBL.out
            have hrel2 : Hid (RbRel w1.heap.size w1 w2 (.slice A2 (j + 1) c2) (N / 256 ^ (4 * q + s)) (j + 1)) := Lib.hid ⟨_, hown1, (HBW.out.alloc hsz' _).trans hb2, by have := hb2.size; rw [hsz] at this; omega, hby2, fun t ht => by
              by_cases e : t < j
              · rw [jn_lo O _ e]; exact HO.out t e
              · rw [jn, if_neg e]; exact hc256⟩
            clear hown1 hb2 hby2
            go_wp2_with fail
            go_roundw
            case rel => exact ⟨s, t', j + 1, A2, c2, by omega, HTT.out, rfl, rfl, hj2, hrel2⟩
            case measure => simp [intOf]; omega
          · obtain rfl : j = 0 := by omega
            by_cases hcz : cc = 0
            · subst hcz
              have hby2 : Hid (Byts O (N / 256 ^ (4 * q + s)) 0) := Lib.hid (Byts.skip HBY2.out (by rw [HD.out, Nat.add_zero]; rfl) rfl)
              have hrel2 : Hid (RbRel w1.heap.size w1 wr (.slice A' 0 c') (N / 256 ^ (4 * q + s)) 0) := Lib.hid ⟨_, ho, HBW.out, hsz', hby2.out, fun t ht => absurd ht (by omega)⟩
              clear ho hj0
              go_wp2_with fail
              go_roundw
              case rel => exact ⟨s, t', 0, A', c', by omega, HTT.out, rfl, rfl, Nat.zero_le _, hrel2⟩
              case measure => simp [intOf]; omega
            · have HC : Hid (0 < 0 ∨ cc ≠ 0) := Lib.hid (.inr hcz)
              have hcz2 : 0 < cc := by omega
              have hcz3 : ((cc : Int) != 0) = true := by simp; omega
              go_wp2_with (at_builtin; refine wpList_app rfl (.tmp 35) (.tmp 37) _ rfl w1.heap.size 5 i0 _ 1 Tryz.underlying41 hi hz0 hz1 hz2 rfl .u8 _ 0 O rfl (ho.alloc _) _ 1 1 (fun _ => cc) rfl (rd_one _ .u8 cc _) (by unfold maxLen; omega) (by omega) (by rw [hsz]; omega) ?_; intro v1 w2 hown1 hb2)
              obtain ⟨A2, c2, rfl, _, _, _⟩ := Rd.of_own hown1
              have hby2 := Byts.step HBY2.out HD.out hc256 HC.out
              have hj2 : 0 + 1 ≤ 4 * n := by rw [hby2.1]; exact Nat.le_trans (nb_mono (Nat.div_le_self _ _)) HBL.out
              have hrel2 : Hid (RbRel w1.heap.size w1 w2 (.slice A2 (0 + 1) c2) (N / 256 ^ (4 * q + s)) (0 + 1)) := Lib.hid ⟨_, hown1, (HBW.out.alloc hsz' _).trans hb2, by have := hb2.size; rw [hsz] at this; omega, hby2, fun t ht => by
                by_cases e : t < 0
                · rw [jn_lo O _ e]; exact HO.out t e
                · rw [jn, if_neg e]; exact hc256⟩
              clear hown1 hb2 hby2
              go_wp2_with fail
              go_roundw
              case rel => exact ⟨s, t', 0 + 1, A2, c2, by omega, HTT.out, rfl, rfl, hj2, hrel2⟩
              case measure => simp [intOf]; omega
        · obtain rfl : r = 0 := by omega
          obtain rfl : t = 0 := by omega
          go_wp2_with fail
          go_roundw
          case rel => exact ⟨q, j, A', c', by omega, by go_num, rfl, hj, hrel⟩
          case measure => simp [intOf]
    · obtain rfl : u = 0 := by omega
      obtain ⟨O, ho, hbw, hsz', hby, hO⟩ := hrelo.out
      rw [Nat.mul_zero, Nat.pow_zero, Nat.div_one] at hby
      obtain ⟨A2, c2, e2, hc2, hm2, hr2⟩ := Rd.of_own ho
      injection e2 with e2 _ e3
      subst e2
      subst e3
      have HR2 := Lib.hid hr2
      have HBB := Lib.hid (HB1.out.trans (hbw.mono HB1.out.size))
      have HBT := Lib.hid hby
      clear ho hbw hby hr2
      go_wp2_with fail
      go_ret
      obtain ⟨h1, h2⟩ := HBT.out
      subst h1
      exact ⟨_, _, O, rfl, HR2.out, h2, HBB.out⟩
end Go.Proofs.YtljbnnpmnoejeaaGreatDoor.nn
namespace Go.Proofs.YtljbnnpmnoejeaaGreatDoor.nn
open Go.RowKit

/-- a list of whole numbers lies in memory -/
def Ri (w : World) (A : Option Addr) (zs : List Int) : Prop := zs = [] ∨ ∃ (b off : Nat), A = some ⟨b, off, none⟩ ∧ b < w.heap.size ∧ ∀ i (h : i < zs.length), w.cell? ⟨b, off + i, none⟩ = some (.int .i64 zs[i])
theorem Ri.keep {w w' : World} {A : Option Addr} {zs : List Int} (h : Ri w A zs) {B : Nat} (hB : Below B w w') (hs : w.heap.size ≤ B) : Ri w' A zs := by
  rcases h with h | ⟨b, off, h1, h2, h3⟩
  · exact .inl h
  · exact .inr ⟨b, off, h1, Nat.lt_of_lt_of_le h2 hB.size, fun i hi => (hB.cell (p := ⟨b, off + i, none⟩) (Nat.lt_of_lt_of_le h2 hs)).trans (h3 i hi)⟩
def zt : VT := .mk 0 false 0 ⟨#[]⟩ []
theorem drewN_keep {B : Nat} {w W : World} (h : Below B w W) (n : Nat) : Below B w (W.drewN n) := ⟨h.os, h.tape, h.output, h.size, h.block⟩
/-- the cells of a value -/
def vc (t : VT) (C : Value) : Array Value := #[.int .i64 t.k, .bool t.g, .int .u64 (t.n : Int), .string t.s, C]
/-- two new blocks, each a value -/
structure Bx (w : World) (t : VT) (C : Value) (u : VT) (D : Value) (W : World) : Prop where
  b : Below w.heap.size w W
  r : Bk W w.heap.size 25 (vc t C)
  r2 : Bk W (w.heap.size + 1) 25 (vc u D)
theorem Bx.new (w : World) (t : VT) (C : Value) (u : VT) (D : Value) : Bx w t C u D ((w.alloc (.cells (vc t C) 25)).alloc (.cells (vc u D) 25)) := by
  have hz : (w.alloc (.cells (vc t C) 25)).heap.size = w.heap.size + 1 := by simp
  refine ⟨((Below.refl _ _).alloc (Nat.le_refl _) _).alloc (by simp) _, ?_, ?_⟩
  · exact (Below.heap_alloc _ _ _ (by simp)).trans (heap_alloc_last _ _)
  · have := heap_alloc_last (w.alloc (.cells (vc t C) 25)) (.cells (vc u D) 25)
    rw [hz] at this
    exact this
theorem below_set5 {B g : Nat} {w W : World} (h : Below B w W) (hg : B ≤ g) (a b c d e : Value) :
    Below B w (((((W.setCell ⟨g, 0, none⟩ a).setCell ⟨g, 1, none⟩ b).setCell ⟨g, 2, none⟩ c).setCell ⟨g, 3, none⟩ d).setCell ⟨g, 4, none⟩ e) :=
  ((((h.setCell hg _).setCell hg _).setCell hg _).setCell hg _).setCell hg _
end Go.Proofs.YtljbnnpmnoejeaaGreatDoor.nn
namespace Go.Proofs.YtljbnnpmnoejeaaGreatDoor.nn
open Go.RowKit

/-- a byte that no whole number has -/
def wb (b : Nat) : Bool := decide (b = 46) || decide (b = 101) || decide (b = 69)
/-- the first n bytes have none -/
def wls (f : Nat → Nat) : Nat → Bool
  | 0 => true
  | n + 1 => wls f n && !wb (f n)
theorem wls_no {f : Nat → Nat} {n i : Nat} (hi : i < n) (h : wb (f i) = true) : wls f n = false := by
  induction n with
  | zero => omega
  | succ n ih =>
    by_cases e : i = n
    · subst e; rw [wls, h]; simp
    · rw [wls, ih (by omega)]; rfl
theorem wls_at {f : Nat → Nat} {n i : Nat} (h : wls f n = true) (hi : i < n) : wb (f i) = false := by
  cases hh : wb (f i) with
  | false => rfl
  | true => rw [wls_no hi hh] at h; exact absurd h (by decide)
/-- has a text no point, no e -/
def wh (s : ByteArray) : Bool := wls (bt s) s.size
set_option maxRecDepth 100000 in
set_option maxHeartbeats 1000000 in
theorem nwhole_any (s : ByteArray) (w : World) (hs : s.size ≤ 140737488351232) :
    Calls Tryz.prog 18 #[.string s] w fun e w' => e = .returned (.bool (wh s)) ∧ w = w' := by
  have HN := Lib.hid (fun i h => wls_no (f := bt s) (n := s.size) (i := i) h)
  unfold wh
  obtain ⟨R, hR⟩ : ∃ R, wls (bt s) s.size = R := ⟨_, rfl⟩
  have HR := Lib.hid hR
  rw [hR] at HN ⊢
  clear hR
  go_enter Tryz.func18, Tryz.ntmps18
  go_wp2
  go_loop [3] (fun s3 => ∃ i : Nat, i ≤ s.size ∧ s3 = .int .i64 (i : Int) ∧ Hid (wls (bt s) i = true)) (fun s3 => s.size - (intOf s3).toNat)
  case atStart => exact ⟨0, by omega, rfl, Lib.hid rfl⟩
  case round =>
    obtain ⟨i, hi, rfl, hd⟩ := hrel
    by_cases hlt : i < s.size
    · obtain ⟨x, hxx, hx, hx256⟩ := byte_of hlt
      by_cases h1 : x = 46
      · subst h1
        have HF := Lib.hid (HN.out i hlt (by rw [hx]; rfl))
        clear hx
        go_wp2
        go_ret
        exact ⟨by rw [HF.out]; rfl, rfl⟩
      · have n1 : ((x : Int) == 46) = false := by rw [beq_eq_false_iff_ne]; omega
        by_cases h2 : x = 101
        · subst h2
          have HF := Lib.hid (HN.out i hlt (by rw [hx]; rfl))
          clear hx
          go_wp2
          go_ret
          exact ⟨by rw [HF.out]; rfl, rfl⟩
        · have n2 : ((x : Int) == 101) = false := by rw [beq_eq_false_iff_ne]; omega
          by_cases h3 : x = 69
          · subst h3
            have HF := Lib.hid (HN.out i hlt (by rw [hx]; rfl))
            clear hx
            go_wp2
            go_ret
            exact ⟨by rw [HF.out]; rfl, rfl⟩
          · have n3 : ((x : Int) == 69) = false := by rw [beq_eq_false_iff_ne]; omega
            have HD : Hid (wls (bt s) (i + 1) = true) := Lib.hid (by
              rw [wls, hd.out, hx]
              unfold wb
              rw [decide_eq_false h1, decide_eq_false h2, decide_eq_false h3]
              rfl)
            clear hx h1 h2 h3
            go_wp2
            go_round
            case rel => exact ⟨i + 1, by omega, by go_num, HD⟩
            case measure => simp [intOf]; omega
    · obtain rfl : i = s.size := by omega
      have HT : Hid (R = true) := Lib.hid (HR.out.symm.trans hd.out)
      go_wp2
      go_ret
      exact ⟨by rw [HT.out]; rfl, rfl⟩

/-- the bytes of a number -/
def beT (N : Nat) : ByteArray := pc (fun i => N / 256 ^ (nb N - 1 - i) % 256) (nb N)
theorem beT_size (N : Nat) : (beT N).size = nb N := pc_size _ _
def e7 : ByteArray := ⟨#[]⟩
/-- of a sign and an amount, less 1 if there is a sign -/
def numT (neg : Bool) (Y : Nat) : VT := if 8 < nb Y then .mk 5 neg 0 (beT Y) [] else .mk 4 neg Y e7 []
def lessT (neg : Bool) (X : Nat) : Nat := if neg = true then X - 1 else X
def nilS : Value := .slice none 0 0
theorem pc_congr {f g : Nat → Nat} {n : Nat} (h : ∀ i, i < n → f i = g i) : pc f n = pc g n := by
  unfold pc
  congr 1
  refine List.map_congr_left fun i hi => ?_
  rw [h i (List.mem_range.1 hi)]
theorem nb_eight {N : Nat} (h : nb N ≤ 8) : N < 18446744073709551616 := by
  refine Nat.lt_of_lt_of_le (nb_lt N) ?_
  exact Nat.le_trans (Nat.pow_le_pow_right (by decide) h) (by decide +kernel)
theorem up_byte {v b : Nat} (hv : v * 256 + b < 18446744073709551616) (hb : b < 256) : bits BinOp.or IntKind.u64 ((v : Int) * 256) (b : Int) = ((v * 256 + b : Nat) : Int) := by
  have e : (v : Int) * 256 = ((v * 256 : Nat) : Int) := by omega
  have h1 : v * 256 < 18446744073709551616 := Nat.lt_of_le_of_lt (Nat.le_add_right _ _) hv
  have h2 : b < 18446744073709551616 := Nat.lt_of_le_of_lt (Nat.le_add_left _ _) hv
  rw [e, u64_or_nat (v * 256) b h1 h2, nat_join 8 (v * 256) b (Nat.mul_mod_left v 256) hb]

/-- a result of type api.Value, not yet written, lies in the first new block -/
structure Bz (w W : World) : Prop where
  b : Below w.heap.size w W
  r : Bk W w.heap.size 25 (vc zt nilS)
theorem Bz.new (w : World) : Bz w (w.alloc (.cells (vc zt nilS) 25)) := ⟨(Below.refl _ _).alloc (Nat.le_refl _) _, heap_alloc_last _ _⟩
theorem Bz.on {w W W' : World} (h : Bz w W) (hb : Below W.heap.size W W') : Bz w W' := ⟨h.b.trans (hb.mono h.b.size), h.r.below hb h.r.lt⟩
theorem Bz.al {w W : World} (h : Bz w W) (o : Obj) : Bz w (W.alloc o) := h.on ((Below.refl _ _).alloc (Nat.le_refl _) _)
theorem Bz.dr {w W : World} (h : Bz w W) : Bz w W.drew := h.on (Below.drew (Below.refl _ _))
/-- what the cells hold, and that they are free -/
def Fz (W : World) (g : Nat) : Prop :=
  (W.cell? ⟨g, 0, none⟩ = some (.int .i64 0) ∧ W.frozen? ⟨g, 0, none⟩ = false) ∧ (W.cell? ⟨g, 1, none⟩ = some (.bool false) ∧ W.frozen? ⟨g, 1, none⟩ = false) ∧ (W.cell? ⟨g, 2, none⟩ = some (.int .u64 0) ∧ W.frozen? ⟨g, 2, none⟩ = false) ∧
  (W.cell? ⟨g, 3, none⟩ = some (.string ⟨#[]⟩) ∧ W.frozen? ⟨g, 3, none⟩ = false) ∧ (W.cell? ⟨g, 4, none⟩ = some (.slice none 0 0) ∧ W.frozen? ⟨g, 4, none⟩ = false)
theorem Bz.f {w W : World} (h : Bz w W) : Fz W w.heap.size :=
  ⟨⟨h.r.cell 0, h.r.frozen 0⟩, ⟨h.r.cell 1, h.r.frozen 1⟩, ⟨h.r.cell 2, h.r.frozen 2⟩, ⟨h.r.cell 3, h.r.frozen 3⟩, ⟨h.r.cell 4, h.r.frozen 4⟩⟩
/-- one less -/
theorem sub_one_any (A : Option Addr) (n c : Nat) (f : Nat → Nat) (X g : Nat) (w : World) (hN : Num w A n c f X) (hX : 0 < X) (hb : X < big) (hg : Rd w .u32 (some ⟨g, 0, none⟩) 1 (fun _ => 1)) :
    Calls Tryz.prog 43 #[.slice A n c, .slice (some ⟨g, 0, none⟩) 1 1] w fun e w' => ∃ A' n' c' f', e = .returned (.tuple #[.slice A' n' c', .int .i64 0]) ∧ n' ≤ 4096 ∧ Num w' A' n' c' f' (X - 1) ∧ Below w.heap.size w w' := by
  have hn4 : n ≤ 4096 := by
    rcases Nat.lt_or_ge 4096 n with h | h
    · have h1 := trm_long hN.trm h
      rw [hN.val] at h1
      omega
    · exact h
  have hcm := hN.cap
  have hs1 : sm (2 ^ 32) (fun _ => 1) 1 = 1 := by simp [sm]
  have hl : tl2 n 1 f (fun _ => 1) = false := by
    unfold tl2
    have h1 := tr_le f n
    have h2 := tr_le (fun _ => 1) 1
    rw [decide_eq_false (by omega), decide_eq_false (by omega)]
    rfl
  have hR : subR n 1 f (fun _ => 1) = X - 1 := by
    unfold subR
    rw [hl, if_neg (by decide), hN.val, hs1, if_neg (by omega)]
  have hE : subE n 1 f (fun _ => 1) = 0 := by
    unfold subE
    rw [hl, if_neg (by decide), hN.val, hs1, if_neg (by omega)]
  have h := rsub_all A (some ⟨g, 0, none⟩) n 1 c 1 f (fun _ => 1) w hN.rd hg hN.lt (fun _ _ => by show 1 < 2 ^ 32; decide) hN.le (Nat.le_refl _) hcm (by unfold maxLen; omega) (by omega) (by omega)
  rw [hR, hE] at h
  refine h.mono ?_
  rintro e w' ⟨A', n', c', f', rfl, h2, h3⟩
  refine ⟨A', n', c', f', rfl, ?_, h2, h3⟩
  rcases Nat.lt_or_ge 4096 n' with h | h
  · have h1 := trm_long h2.trm h
    rw [h2.val] at h1
    omega
  · exact h

set_option maxRecDepth 100000 in
set_option maxHeartbeats 2000000 in
theorem nnumber_any (neg : Bool) (A : Option Addr) (n c : Nat) (f : Nat → Nat) (X : Nat) (w : World) (hN : Num w A n c f X) (hX : neg = true → 0 < X) (hb : X < big) :
    Calls Tryz.prog 21 #[.bool neg, .slice A n c] w fun e w' => e = .returned (vv (numT neg (lessT neg X)) nilS) ∧ Below w.heap.size w w' := by
  obtain ⟨i0, hi, hz0, hz1, hz2⟩ := info_parts info_u32
  have hn4 : n ≤ 4096 := by
    rcases Nat.lt_or_ge 4096 n with h | h
    · have h1 := trm_long hN.trm h
      rw [hN.val] at h1
      omega
    · exact h
  obtain ⟨Y, hY⟩ : ∃ Y, lessT neg X = Y := ⟨_, rfl⟩
  rw [hY]
  have HBY : Hid (∀ W A' n' c' f', Num W A' n' c' f' Y → n' ≤ 4096 → Calls Tryz.prog 44 #[.slice A' n' c'] W fun e w' => OutR W w' e Y) := Lib.hid fun W A' n' c' f' h h4 => by
    have := rbytes_any A' n' c' f' W h.rd h.lt h.le (by omega)
    rwa [h.val] at this
  have HB0 := Lib.hid (Bz.new w)
  have HN0 := Lib.hid (Num.al hN (.cells (vc zt nilS) 25))
  have HS : Hid (neg = true → ∀ W g, Bz w W → Num W A n c f X → Limb W g 1 → Calls Tryz.prog 43 #[.slice A n c, .slice (some ⟨g, 0, none⟩) 1 1] W fun e w' => ∃ A' n' c' f', e = .returned (.tuple #[.slice A' n' c', .int .i64 0]) ∧ n' ≤ 4096 ∧ Num w' A' n' c' f' Y ∧ Bz w w') := Lib.hid fun hng W g hW hNW hg => by
    refine (sub_one_any A n c f X g W hNW (hX hng) hb hg).mono ?_
    rintro e w' ⟨A', n', c', f', h1, h2, h3, h4⟩
    refine ⟨A', n', c', f', h1, h2, ?_, hW.on h4⟩
    rw [← hY, hng]
    exact h3
  have HF : Hid (neg = false → X = Y) := Lib.hid fun h => by rw [← hY, h]; rfl
  clear hY hX hb hN
  go_enter Tryz.func21, Tryz.ntmps21
  go_upto_if 8 with (fail)
  go_cut [1] (fun s1 wx => (∃ A' n' c' f', s1 = .slice A' n' c' ∧ n' ≤ 4096 ∧ Hid (Num wx A' n' c' f' Y ∧ Bz w wx)))
  case first =>
    cases neg with
    | false =>
      obtain rfl := HF.out rfl
      go_wp2_with fail
      go_meet
      exact ⟨A, n, c, f, rfl, hn4, Lib.hid ⟨HN0.out, HB0.out⟩⟩
    | true =>
      have HS1 := Lib.hid (HS.out rfl)
      clear HS HF
      go_wp2_with fail
      refine (HS1.out _ _ (by first | exact HB0.out.al _ | exact (HB0.out.al _).dr | exact HB0.out.dr.al _) (by first | exact Num.al HN0.out _ | exact HN0.out.al _) (by first | exact Limb.l4 _ _ 1 rfl | exact Limb.l1 _ _ 1 rfl | exact Limb.l2 _ _ 1 _ rfl | exact Limb.l3 _ _ 1 _ rfl)).mono ?_
      rintro e w5 ⟨A5, n5, c5, f5, rfl, h5, hn5, hk5⟩
      all_goals
        have HH := Lib.hid (And.intro hn5 hk5)
        clear hn5 hk5
        go_wp2_with fail
        go_meet
        exact ⟨A5, n5, c5, f5, rfl, h5, HH⟩
  case rest =>
    obtain ⟨A', n', c', f', rfl, h4, hNB⟩ := hcut
    have HC := Lib.hid (HBY.out wc A' n' c' f' hNB.out.1 h4)
    have HBz := Lib.hid hNB.out.2
    clear HS HF HN0 HB0 hNB HBY
    go_wp2_with fail
    refine HC.out.mono ?_
    rintro e w2 ⟨A2, c2, O, rfl, hr2, hO, hb2⟩
    have hnb : (bl Y + 7) / 8 = nb Y := rfl
    rw [hnb] at hr2 hO ⊢
    obtain ⟨L, hL⟩ : ∃ L, nb Y = L := ⟨_, rfl⟩
    have hO256 : ∀ i, i < L → O i < 256 := fun i hi => by rw [hO i (by omega)]; exact Nat.mod_lt _ (by decide)
    have B2 := Lib.hid (HBz.out.on hb2)
    have hbe : pc O (nb Y) = beT Y := pc_congr hO
    have h8 := fun h => nb_eight (N := Y) h
    rw [hL] at hr2 hO hbe h8 ⊢
    have HT1 : Hid (8 < L → numT neg Y = .mk 5 neg 0 (beT Y) []) := Lib.hid fun h => by unfold numT; rw [hL, if_pos h]
    have HLL := Lib.hid hL
    have HT2 : Hid (¬ 8 < L → numT neg Y = .mk 4 neg Y e7 []) := Lib.hid fun h => by unfold numT; rw [hL, if_neg h]
    have HZ := Lib.hid B2.out.f
    clear hb2 hL hnb HC
    by_cases hl : 8 < L
    · have HT := Lib.hid (HT1.out hl)
      have kc := conv_row A2 L c2 O w2 hr2
      rw [hbe] at kc
      obtain ⟨P, hP⟩ : ∃ P, beT Y = P := ⟨_, rfl⟩
      rw [hP] at kc HT
      obtain ⟨⟨bc0, bf0⟩, ⟨bc1, bf1⟩, ⟨bc2, bf2⟩, ⟨bc3, bf3⟩, ⟨bc4, bf4⟩⟩ := HZ.out
      have HBF : Hid (∀ nq, Below w.heap.size w (w2.drewN nq)) := Lib.hid fun nq => drewN_keep B2.out.b nq
      clear HT1 HT2 hO hO256 hbe h8 hP hr2
      go_wp2_with fail
      exact bodyPost_ret (v := .agg #[.int .i64 5, .bool neg, .int .u64 0, .string P, .slice none 0 0]) (by simp [results, Tryz.results21, go_sem, bc0, bc1, bc2, bc3, bc4]) rfl ⟨by rw [HT.out]; rfl, below_set5 (HBF.out 0) (Nat.le_refl _) _ _ _ _ _⟩
    · have HT := Lib.hid (HT2.out hl)
      have hY64 := h8 (by omega)
      have HST : Hid (∀ i, i < L → Y / 256 ^ (L - i) * 256 + O i = Y / 256 ^ (L - (i + 1)) ∧ Y / 256 ^ (L - (i + 1)) ≤ Y) := Lib.hid fun i hi => by
        obtain ⟨d, hd⟩ : ∃ d, L - i = d + 1 := ⟨L - i - 1, by omega⟩
        rw [hO i hi, show L - 1 - i = d by omega, show L - (i + 1) = d by omega, hd]
        exact ⟨(div256 Y d).symm, Nat.div_le_self _ _⟩
      have HO := Lib.hid hO256
      have HR2 := Lib.hid hr2
      have HY0 : Hid (Y / 256 ^ (L - 0) = 0) := Lib.hid (Nat.div_eq_of_lt (by have := nb_lt Y; rw [Nat.sub_zero]; rwa [HLL.out] at this))
      clear HT1 HT2 hO hO256 hbe h8 hr2
      go_wp2_with fail
      go_loop [6, 7] (fun s6 s7 => ∃ i : Nat, i ≤ L ∧ s6 = .int .u64 ((Y / 256 ^ (L - i) : Nat) : Int) ∧ s7 = .int .i64 (i : Int)) (fun _ s7 => L - (intOf s7).toNat)
      case atStart => exact ⟨0, Nat.zero_le _, by rw [HY0.out]; rfl, rfl⟩
      case round =>
        obtain ⟨i, hiL, rfl, rfl⟩ := hrel
        by_cases hlt : i < L
        · obtain ⟨bb, off, rfl, hbl, hcell⟩ := HR2.out (by omega)
          have hx := hcell i hlt
          obtain ⟨h1, h2⟩ := HST.out i hlt
          have h3 := HO.out i hlt
          obtain ⟨o, ho⟩ : ∃ o, O i = o := ⟨_, rfl⟩
          obtain ⟨v, hv⟩ : ∃ v, Y / 256 ^ (L - i) = v := ⟨_, rfl⟩
          obtain ⟨v2, hv2⟩ : ∃ v, Y / 256 ^ (L - (i + 1)) = v := ⟨_, rfl⟩
          rw [ho] at hx h1 h3
          rw [hv, hv2] at h1
          rw [hv2] at h2
          have hor := up_byte (v := v) (b := o) (by omega) h3
          rw [h1] at hor
          have HV2 := Lib.hid hv2
          rw [hv]
          clear hcell hv hv2 ho
          go_wp2_with fail
          go_round
          case rel => exact ⟨i + 1, hlt, by rw [HV2.out], by go_num⟩
          case measure => simp [intOf]; omega
        · obtain rfl : i = L := by omega
          obtain ⟨⟨bc0, bf0⟩, ⟨bc1, bf1⟩, ⟨bc2, bf2⟩, ⟨bc3, bf3⟩, ⟨bc4, bf4⟩⟩ := HZ.out
          have HBF : Hid (∀ nq, Below w.heap.size w (w2.drewN nq)) := Lib.hid fun nq => drewN_keep B2.out.b nq
          have e0 : Y / 256 ^ (i - i) = Y := by rw [Nat.sub_self, Nat.pow_zero, Nat.div_one]
          rw [e0]
          clear e0
          go_wp2_with fail
          exact bodyPost_ret (v := .agg #[.int .i64 4, .bool neg, .int .u64 (Y : Int), .string ⟨#[]⟩, .slice none 0 0]) (by simp [results, Tryz.results21, go_sem, bc0, bc1, bc2, bc3, bc4]) rfl ⟨by rw [HT.out]; rfl, below_set5 (HBF.out 0) (Nat.le_refl _) _ _ _ _ _⟩
end Go.Proofs.YtljbnnpmnoejeaaGreatDoor.nn
namespace Go.Proofs.YtljbnnpmnoejeaaGreatDoor.nn
open Go.RowKit

theorem rscan_any (s : ByteArray) (w : World) (hs : s.size ≤ 140737488351232) : Calls Tryz.prog 19 #[.string s] w (ScAns s w) := by
  by_cases h0 : 0 < s.size
  · by_cases hw : 0 < rn s (cA s)
    · exact rscan_go s w hs h0 hw
    · exact rscan_none s w hs h0 (by omega)
  · exact rscan_empty s w (by omega)
end Go.Proofs.YtljbnnpmnoejeaaGreatDoor.nn
namespace Go.Proofs.YtljbnnpmnoejeaaGreatDoor.nn
open Go.RowKit

theorem ten_big {n : Nat} (h : n ≤ 1200) : 10 ^ n < big := by
  obtain ⟨k, hk⟩ : ∃ k, k = 150 := ⟨_, rfl⟩
  obtain ⟨j, hj⟩ : ∃ j, j = 4096 := ⟨_, rfl⟩
  have h1 : (10 : Nat) ^ n ≤ 16 ^ n := Nat.pow_le_pow_left (by decide) n
  have h2 : (16 : Nat) ^ n ≤ 16 ^ (8 * k) := Nat.pow_le_pow_right (by decide) (by omega)
  have h3 : (16 : Nat) ^ (8 * k) = (2 ^ 32) ^ k := by rw [Nat.pow_mul]
  have h4 : (2 ^ 32) ^ k < (2 ^ 32) ^ j := Nat.pow_lt_pow_right (by decide) (by omega)
  have h5 : big = (2 ^ 32) ^ j := by rw [hj]; rfl
  rw [h5]
  exact Nat.lt_of_le_of_lt (Nat.le_trans h1 (Nat.le_trans h2 (Nat.le_of_eq h3))) h4
/-- a text of a whole number has, behind its sign, digits alone -/
theorem whole_digits {s : ByteArray} (h : NmIs s s.size 0) (hw : wh s = true) : cA s < s.size ∧ dgs (bt (sfx s (cA s))) (sfx s (cA s)).size = true := by
  have hacc : nacc (nq (bt s) s.size) = true := by
    cases hh : nacc (nq (bt s) s.size) with
    | true => rfl
    | false => have := h.er; rw [hh, if_neg (by decide), if_pos rfl] at this; omega
  have key : ∀ k, k ≤ s.size → (k = 0 ∧ nq (bt s) k = 0) ∨ (k = 1 ∧ cA s = 1 ∧ nq (bt s) k = 1) ∨ ((nq (bt s) k = 2 ∨ nq (bt s) k = 3) ∧ cA s < k ∧ ∀ i, cA s ≤ i → i < k → dg (bt s i) = true) := by
    intro k
    induction k with
    | zero => exact fun _ => .inl ⟨rfl, rfl⟩
    | succ k ih =>
      intro hk
      have hgo := nq_less h.go hk
      have hb := wls_at hw (show k < s.size by omega)
      unfold wb at hb
      simp only [Bool.or_eq_false_iff, decide_eq_false_iff_not] at hb
      obtain ⟨⟨h46, h101⟩, h69⟩ := hb
      rw [nq] at hgo ⊢
      have hcase : ∀ q, nst q (bt s k) ≠ 9 → (q = 0 → (bt s k = 45 ∧ nst q (bt s k) = 1) ∨ (dg (bt s k) = true ∧ (nst q (bt s k) = 2 ∨ nst q (bt s k) = 3))) ∧ ((q = 1 ∨ q = 2 ∨ q = 3) → dg (bt s k) = true ∧ (nst q (bt s k) = 2 ∨ nst q (bt s k) = 3)) := by
        intro q
        generalize bt s k = b at *
        unfold nst
        cases hd : dg b with
        | true =>
          rw [if_pos rfl]
          refine fun hne => ⟨?_, ?_⟩
          · rintro rfl
            refine .inr ⟨rfl, ?_⟩
            by_cases e : b = 48 <;> simp [e]
          · rintro (rfl | rfl | rfl)
            · refine ⟨rfl, ?_⟩
              by_cases e : b = 48 <;> simp [e]
            · simp at hne
            · exact ⟨rfl, by simp⟩
        | false =>
          rw [if_neg (by decide)]
          refine fun hne => ⟨?_, ?_⟩
          · rintro rfl
            by_cases e : b = 45
            · exact .inl ⟨e, by rw [if_pos e]; rfl⟩
            · simp [e, h46, h101, h69] at hne
          · rintro (rfl | rfl | rfl)
            · by_cases e : b = 45 <;> simp [e, h46, h101, h69] at hne
            · by_cases e : b = 45 <;> simp [e, h46, h101, h69] at hne
            · by_cases e : b = 45 <;> simp [e, h46, h101, h69] at hne
      obtain ⟨c1, c2⟩ := hcase _ hgo
      rcases ih (by omega) with ⟨rfl, q⟩ | ⟨rfl, e1, q⟩ | ⟨q, e1, e2⟩
      · rcases c1 q with ⟨g1, g2⟩ | ⟨g1, g2⟩
        · exact .inr (.inl ⟨rfl, if_pos (decide_eq_true ⟨by omega, g1⟩), g2⟩)
        · have hA : cA s = 0 := if_neg (by
            have : at_ s 0 45 = false := decide_eq_false (fun g => by
              have h45 := g.2
              rw [h45] at g1
              exact absurd g1 (by decide))
            rw [this]; decide)
          refine .inr (.inr ⟨g2, by omega, fun i _ hi => ?_⟩)
          obtain rfl : i = 0 := by omega
          exact g1
      · obtain ⟨g1, g2⟩ := c2 (.inl q)
        refine .inr (.inr ⟨g2, by omega, fun i hi1 hi => ?_⟩)
        obtain rfl : i = 1 := by omega
        exact g1
      · obtain ⟨g1, g2⟩ := c2 (by omega)
        refine .inr (.inr ⟨g2, by omega, fun i hi1 hi => ?_⟩)
        by_cases e : i = k
        · subst e; exact g1
        · exact e2 i hi1 (by omega)
  rcases key s.size (Nat.le_refl _) with ⟨_, q⟩ | ⟨_, _, q⟩ | ⟨_, e1, e2⟩
  · rw [q] at hacc; exact absurd hacc (by decide)
  · rw [q] at hacc; exact absurd hacc (by decide)
  · refine ⟨e1, ?_⟩
    have hz := sfx_size s (cA s)
    have : ∀ m, m ≤ s.size - cA s → dgs (bt (sfx s (cA s))) m = true := by
      intro m
      induction m with
      | zero => exact fun _ => rfl
      | succ m ih =>
        intro hm
        rw [dgs, ih (by omega), bt_sfx (by omega), e2 _ (by omega) (by omega)]
        rfl
    rw [hz]
    exact this _ (Nat.le_refl _)
/-- the number that a text's digits say -/
def wV (s : ByteArray) : Nat := dv (bt (sfx s (cA s))) (sfx s (cA s)).size
/-- what Value answers -/
inductive VaIs (s : ByteArray) : VT → Nat → Prop
  | form (h : ¬ NmIs s s.size 0) : VaIs s zt 4
  | far {V E : Nat} (h : NmIs s s.size 0) (hw : wh s = false) (hs : ScIs s V E) (he : E ≠ 0) : VaIs s zt 8
  | flt {V : Nat} (h : NmIs s s.size 0) (hw : wh s = false) (hs : ScIs s V 0) : VaIs s (.mk 8 false V ⟨#[]⟩ []) 0
  | long (h : NmIs s s.size 0) (hw : wh s = true) (hl : 1200 < (sfx s (cA s)).size) : VaIs s zt 8
  | zero (h : NmIs s s.size 0) (hw : wh s = true) (hl : ¬ 1200 < (sfx s (cA s)).size) (hn : at_ s 0 45 = true) (h0 : wV s = 0) : VaIs s (.mk 8 false 9223372036854775808 ⟨#[]⟩ []) 0
  | int (h : NmIs s s.size 0) (hw : wh s = true) (hl : ¬ 1200 < (sfx s (cA s)).size) (h0 : at_ s 0 45 = true → 0 < wV s) : VaIs s (numT (at_ s 0 45) (lessT (at_ s 0 45) (wV s))) 0
theorem VaIs.uniq {s : ByteArray} {t t' : VT} {E E' : Nat} (h : VaIs s t E) (h' : VaIs s t' E') : t = t' ∧ E = E' := by
  have no : ∀ {P : Prop}, wh s = true → wh s = false → P := fun h1 h2 => by rw [h1] at h2; exact absurd h2 (by decide)
  cases h with
  | form a => cases h' <;> first | exact ⟨rfl, rfl⟩ | (exfalso; exact a ‹NmIs s s.size 0›)
  | far a b c d =>
    cases h' with
    | form a' => exact absurd a a'
    | far => exact ⟨rfl, rfl⟩
    | flt _ _ c' => exact absurd (c.uniq c').2 d
    | long _ b' => exact no b' b
    | zero _ b' => exact no b' b
    | int _ b' => exact no b' b
  | flt a b c =>
    cases h' with
    | form a' => exact absurd a a'
    | far _ _ c' d' => exact absurd (c'.uniq c).2 d'
    | flt _ _ c' => obtain ⟨e, _⟩ := c.uniq c'; rw [e]; exact ⟨rfl, rfl⟩
    | long _ b' => exact no b' b
    | zero _ b' => exact no b' b
    | int _ b' => exact no b' b
  | long a b c =>
    cases h' with
    | form a' => exact absurd a a'
    | far _ b' => exact no b b'
    | flt _ b' => exact no b b'
    | long => exact ⟨rfl, rfl⟩
    | zero _ _ c' => exact absurd c c'
    | int _ _ c' => exact absurd c c'
  | zero a b c d e =>
    cases h' with
    | form a' => exact absurd a a'
    | far _ b' => exact no b b'
    | flt _ b' => exact no b b'
    | long _ _ c' => exact absurd c' c
    | zero => exact ⟨rfl, rfl⟩
    | int _ _ _ d' => have := d' d; omega
  | int a b c d =>
    cases h' with
    | form a' => exact absurd a a'
    | far _ b' => exact no b b'
    | flt _ b' => exact no b b'
    | long _ _ c' => exact absurd c' c
    | zero _ _ _ d' e' => have := d d'; omega
    | int => exact ⟨rfl, rfl⟩
def VaAns (s : ByteArray) (w : World) (e : Ending) (w' : World) : Prop := ∃ t E, e = .returned (.tuple #[vv t nilS, .int .i64 ((E : Nat) : Int)]) ∧ VaIs s t E ∧ Below w.heap.size w w'
set_option maxRecDepth 100000 in
set_option maxHeartbeats 4000000 in
theorem nvalue_any (s : ByteArray) (w : World) (hs : s.size ≤ 140737488351232) :
    Calls Tryz.prog 8 #[.string s] w (VaAns s w) := by
  have HB0 := Lib.hid (Bz.new w)
  have H1 := Lib.hid (fun W => nscan_any s W (by omega))
  have H2 := Lib.hid (fun W => nwhole_any s W (by omega))
  have H3 := Lib.hid (fun W => rscan_any s W hs)
  go_enter Tryz.func8, Tryz.ntmps8
  go_wp2_with fail
  refine (H1.out _).mono ?_
  rintro e w1 ⟨p, E, rfl, hN, hb1⟩
  have B1 := Lib.hid (HB0.out.on hb1)
  have hz := HB0.out
  clear hb1 H1 HB0
  -- what stays of the result's block
  by_cases hE : E = 0 ∧ p = s.size
  · obtain ⟨rfl, rfl⟩ := hE
    have HN := Lib.hid hN
    have hpos : 0 < s.size := by
      rcases Nat.eq_zero_or_pos s.size with h | h
      · have he := hN.er
        rw [h, show nq (bt s) 0 = 0 from rfl] at he
        exact absurd he (by decide)
      · exact h
    clear hN hz
    go_wp2_with fail
    refine (H2.out _).mono ?_
    rintro e w2 ⟨rfl, rfl⟩
    cases hw : wh s with
    | false =>
      have HW := Lib.hid hw
      clear hw H2
      go_wp2_with fail
      refine (H3.out _).mono ?_
      rintro e w3 ⟨V, E, rfl, hS, hb3⟩
      have B3 := Lib.hid (B1.out.on hb3)
      have HS := Lib.hid hS
      obtain ⟨⟨bc0, bf0⟩, ⟨bc1, bf1⟩, ⟨bc2, bf2⟩, ⟨bc3, bf3⟩, ⟨bc4, bf4⟩⟩ := B3.out.f
      have HBF : Hid (∀ nq, Below w.heap.size w (w3.drewN nq)) := Lib.hid fun nq => drewN_keep B3.out.b nq
      clear hb3 hS H3 B1 B3
      by_cases hE : E = 0
      · subst hE
        have HV : Hid (VaIs s (.mk 8 false V ⟨#[]⟩ []) 0) := Lib.hid (.flt HN.out HW.out HS.out)
        go_wp2_with fail
        exact bodyPost_ret (v := .tuple #[.agg #[.int .i64 8, .bool false, .int .u64 (V : Int), .string ⟨#[]⟩, .slice none 0 0], .int .i64 0]) (by simp [results, Tryz.results8, go_sem, bc0, bc1, bc2, bc3, bc4]) rfl ⟨_, 0, rfl, HV.out, below_set5 (HBF.out 0) (Nat.le_refl _) _ _ _ _ _⟩
      · have HV : Hid (VaIs s zt 8) := Lib.hid (.far HN.out HW.out HS.out hE)
        have hE' : ((E : Int) == 0) = false := by rw [beq_eq_false_iff_ne]; omega
        have hE2 : ((E : Int) != 0) = true := by simp; omega
        go_wp2_with fail
        exact bodyPost_ret (v := .tuple #[.agg #[.int .i64 0, .bool false, .int .u64 0, .string ⟨#[]⟩, .slice none 0 0], .int .i64 8]) (by simp [results, Tryz.results8, go_sem, bc0, bc1, bc2, bc3, bc4]) rfl ⟨zt, 8, rfl, HV.out, below_set5 (HBF.out 0) (Nat.le_refl _) _ _ _ _ _⟩
    | true =>
      have HW := Lib.hid hw
      obtain ⟨hd1, hd2⟩ := whole_digits HN.out hw
      obtain ⟨x, hxx, hx, hx256⟩ := byte_of hpos
      have hneg : ((x : Int) == 45) = at_ s 0 45 := by
        unfold at_
        rw [hx]
        by_cases h : x = 45
        · rw [decide_eq_true ⟨hpos, h⟩]; subst h; rfl
        · rw [decide_eq_false (fun g => h g.2), beq_eq_false_iff_ne]; omega
      have hA : cA s = if at_ s 0 45 = true then 1 else 0 := rfl
      have hsl : ∀ W, (Instr.slice 9 (.string s) (some (.int .i64 1)) none none).run Tryz.prog W = .ok (.string (sfx s 1)) W := fun W => by
        rw [run_slice_string_l (w := W) (s := s) (ht := Tryz.underlying9) (h0 := by omega) (h1 := by omega)]
        rfl
      have HSL := Lib.hid hsl
      have HX : Hid (dv (bt (sfx s (cA s))) (sfx s (cA s)).size = wV s) := Lib.hid rfl
      have HA : Hid (sfx s (cA s) = if at_ s 0 45 = true then sfx s 1 else s) := Lib.hid (by
        rw [hA]
        cases at_ s 0 45 with
        | true => rfl
        | false => exact sfx_zero s)
      have hDsz := sfx_size s (cA s)
      have VI : Hid ((1200 < (sfx s (cA s)).size → VaIs s zt 8) ∧ (¬ 1200 < (sfx s (cA s)).size → at_ s 0 45 = true → wV s = 0 → VaIs s (.mk 8 false 9223372036854775808 ⟨#[]⟩ []) 0) ∧ (¬ 1200 < (sfx s (cA s)).size → (at_ s 0 45 = true → 0 < wV s) → VaIs s (numT (at_ s 0 45) (lessT (at_ s 0 45) (wV s))) 0)) :=
        Lib.hid ⟨fun h => .long HN.out hw h, fun h g k => .zero HN.out hw h g k, fun h g => .int HN.out hw h g⟩
      have HFD : Hid (¬ 1200 < (sfx s (cA s)).size → ∀ W, Calls Tryz.prog 20 #[.string (sfx s (cA s))] W fun e w' => Res W w' e (wV s) 0 ∧ wV s < big) := Lib.hid fun h W => by
        have hlt : wV s < big := Nat.lt_trans (dv_lt hd2) (ten_big (by omega))
        have := rfromDigits_any (sfx s (cA s)) W (by unfold maxLen; omega)
        have e1 : fdR (bt (sfx s (cA s))) (sfx s (cA s)).size = wV s := by
          unfold fdR
          rw [if_neg (by omega), hd2, decide_eq_true (by omega)]
          rfl
        have e2 : fdE (bt (sfx s (cA s))) (sfx s (cA s)).size = 0 := by
          unfold fdE
          rw [if_neg (by omega), hd2, decide_eq_true (by omega)]
          rfl
        rw [e1, e2] at this
        exact this.mono fun e w' h => ⟨h, hlt⟩
      obtain ⟨neg, hng⟩ : ∃ b, at_ s 0 45 = b := ⟨_, rfl⟩
      obtain ⟨D, hD⟩ : ∃ D, sfx s (cA s) = D := ⟨_, rfl⟩
      obtain ⟨X, hXX⟩ : ∃ X, wV s = X := ⟨_, rfl⟩
      rw [hng] at hneg HA VI
      rw [hD] at HA VI HFD hDsz
      rw [hXX] at VI HFD
      clear hx hA hw hd1 hd2 hng hXX HX hD H2 H3 hsl HN HW
      have hsl := HSL.out
      go_upto_if 43 with (fail)
      clear hxx
      go_cut [8, 9] (fun s8 s9 wx => s8 = .bool neg ∧ s9 = .string D ∧ wx = w1)
      case first =>
        cases neg
        all_goals
          go_wp2_with fail
          go_meet
          exact ⟨rfl, by rw [HA.out]; rfl, rfl⟩
      case rest =>
        obtain ⟨rfl, rfl, hww⟩ := hcut
        obtain rfl : w1 = wc := hww.symm
        clear hneg hsl HSL
        by_cases hl : 1200 < D.size
        · have HV := Lib.hid (VI.out.1 hl)
          obtain ⟨⟨bc0, bf0⟩, ⟨bc1, bf1⟩, ⟨bc2, bf2⟩, ⟨bc3, bf3⟩, ⟨bc4, bf4⟩⟩ := B1.out.f
          have HBF : Hid (∀ nq, Below w.heap.size w (w1.drewN nq)) := Lib.hid fun nq => drewN_keep B1.out.b nq
          clear HFD VI
          go_wp2_with fail
          exact bodyPost_ret (v := .tuple #[.agg #[.int .i64 0, .bool false, .int .u64 0, .string ⟨#[]⟩, .slice none 0 0], .int .i64 8]) (by simp [results, Tryz.results8, go_sem, bc0, bc1, bc2, bc3, bc4]) rfl ⟨zt, 8, rfl, HV.out, below_set5 (HBF.out 0) (Nat.le_refl _) _ _ _ _ _⟩
        · have HF := Lib.hid (HFD.out hl)
          clear HFD
          go_wp2_with fail
          refine (HF.out _).mono ?_
          rintro e w3 ⟨⟨A3, n3, c3, f3, rfl, hn3, hb3⟩, hXb⟩
          have N3 := Lib.hid hn3
          have B3 := Lib.hid (B1.out.on hb3)
          have hiff : n3 = 0 ↔ X = 0 := by
            constructor
            · intro h
              have := hn3.val
              rw [h] at this
              simp [sm] at this
              exact this.symm
            · intro h
              rcases Nat.eq_zero_or_pos n3 with g | g
              · exact g
              · have h1 := sm_pos (Nat.two_pow_pos 32) hn3.trm (by omega)
                have h2 := hn3.val
                omega
          clear hn3 hb3 HF B1
          by_cases hz : neg = true ∧ n3 = 0
          · obtain ⟨rfl, rfl⟩ := hz
            have HV := Lib.hid (VI.out.2.1 hl rfl (hiff.1 rfl))
            obtain ⟨⟨bc0, bf0⟩, ⟨bc1, bf1⟩, ⟨bc2, bf2⟩, ⟨bc3, bf3⟩, ⟨bc4, bf4⟩⟩ := B3.out.f
            have HBF : Hid (∀ nq, Below w.heap.size w (w3.drewN nq)) := Lib.hid fun nq => drewN_keep B3.out.b nq
            clear VI hiff
            go_wp2_with fail
            exact bodyPost_ret (v := .tuple #[.agg #[.int .i64 8, .bool false, .int .u64 9223372036854775808, .string ⟨#[]⟩, .slice none 0 0], .int .i64 0]) (by simp [results, Tryz.results8, go_sem, bc0, bc1, bc2, bc3, bc4]) rfl ⟨_, 0, rfl, HV.out, below_set5 (HBF.out 0) (Nat.le_refl _) _ _ _ _ _⟩
          · have hX0 : neg = true → 0 < X := fun h => by
              rcases Nat.eq_zero_or_pos X with g | g
              · exact absurd ⟨h, hiff.2 g⟩ hz
              · exact g
            have HV := Lib.hid (VI.out.2.2 hl hX0)
            have HNU := Lib.hid (fun W (hW : Below w3.heap.size w3 W) => nnumber_any neg A3 n3 c3 f3 X W (Num.keep N3.out hW) hX0 hXb)
            obtain ⟨T, hT⟩ : ∃ T, numT neg (lessT neg X) = T := ⟨_, rfl⟩
            rw [hT] at HV HNU
            have HRF := Lib.hid (Below.refl w3.heap.size w3)
            have hz' : neg = true → ((n3 : Int) == 0) = false := fun h => by
              rw [beq_eq_false_iff_ne]
              intro g
              exact hz ⟨h, by omega⟩
            clear VI hiff hz hX0 hT hXb N3
            unfold vv nilS at HNU
            cases neg with
            | true =>
              have hz2 := hz' rfl
              clear hz'
              go_wp2_with fail
              refine (HNU.out _ (by first | exact HRF.out | exact Below.drew HRF.out)).mono ?_
              rintro e w4 ⟨rfl, hb4⟩
              have B4 := Lib.hid (B3.out.on hb4)
              obtain ⟨⟨bc0, bf0⟩, ⟨bc1, bf1⟩, ⟨bc2, bf2⟩, ⟨bc3, bf3⟩, ⟨bc4, bf4⟩⟩ := B4.out.f
              have HBF : Hid (∀ nq, Below w.heap.size w (w4.drewN nq)) := Lib.hid fun nq => drewN_keep B4.out.b nq
              clear hb4 hz2
              go_wp2_with fail
              exact bodyPost_ret (v := .tuple #[.agg #[.int .i64 T.k, .bool T.g, .int .u64 (T.n : Int), .string T.s, .slice none 0 0], .int .i64 0]) (by simp [results, Tryz.results8, go_sem, bc0, bc1, bc2, bc3, bc4]) rfl ⟨T, 0, rfl, HV.out, below_set5 (HBF.out 0) (Nat.le_refl _) _ _ _ _ _⟩
            | false =>
              clear hz'
              go_wp2_with fail
              refine (HNU.out _ (by first | exact HRF.out | exact Below.drew HRF.out)).mono ?_
              rintro e w4 ⟨rfl, hb4⟩
              have B4 := Lib.hid (B3.out.on hb4)
              obtain ⟨⟨bc0, bf0⟩, ⟨bc1, bf1⟩, ⟨bc2, bf2⟩, ⟨bc3, bf3⟩, ⟨bc4, bf4⟩⟩ := B4.out.f
              have HBF : Hid (∀ nq, Below w.heap.size w (w4.drewN nq)) := Lib.hid fun nq => drewN_keep B4.out.b nq
              clear hb4
              go_wp2_with fail
              exact bodyPost_ret (v := .tuple #[.agg #[.int .i64 T.k, .bool T.g, .int .u64 (T.n : Int), .string T.s, .slice none 0 0], .int .i64 0]) (by simp [results, Tryz.results8, go_sem, bc0, bc1, bc2, bc3, bc4]) rfl ⟨T, 0, rfl, HV.out, below_set5 (HBF.out 0) (Nat.le_refl _) _ _ _ _ _⟩
  · have HV : Hid (VaIs s zt 4) := Lib.hid (.form fun g => hE (by obtain ⟨a, b⟩ := hN.uniq g; exact ⟨b, a⟩))
    have hps : p ≤ s.size := hN.le
    obtain ⟨⟨bc0, bf0⟩, ⟨bc1, bf1⟩, ⟨bc2, bf2⟩, ⟨bc3, bf3⟩, ⟨bc4, bf4⟩⟩ := B1.out.f
    have HBF : Hid (∀ nq, Below w.heap.size w (w1.drewN nq)) := Lib.hid fun nq => drewN_keep B1.out.b nq
    clear H2 H3 hN hz B1
    by_cases h0 : E = 0
    · subst h0
      have hp2 : ((p : Int) == (s.size : Int)) = false := by rw [beq_eq_false_iff_ne]; omega
      have hp3 : ((p : Int) != (s.size : Int)) = true := by simp; omega
      clear hE
      go_wp2_with fail
      exact bodyPost_ret (v := .tuple #[.agg #[.int .i64 0, .bool false, .int .u64 0, .string ⟨#[]⟩, .slice none 0 0], .int .i64 4]) (by simp [results, Tryz.results8, go_sem, bc0, bc1, bc2, bc3, bc4]) rfl ⟨zt, 4, rfl, HV.out, below_set5 (HBF.out 0) (Nat.le_refl _) _ _ _ _ _⟩
    · have hE1 : ((E : Int) == 0) = false := by rw [beq_eq_false_iff_ne]; omega
      have hE2 : ((E : Int) != 0) = true := by simp; omega
      clear hE
      go_wp2_with fail
      exact bodyPost_ret (v := .tuple #[.agg #[.int .i64 0, .bool false, .int .u64 0, .string ⟨#[]⟩, .slice none 0 0], .int .i64 4]) (by simp [results, Tryz.results8, go_sem, bc0, bc1, bc2, bc3, bc4]) rfl ⟨zt, 4, rfl, HV.out, below_set5 (HBF.out 0) (Nat.le_refl _) _ _ _ _ _⟩
end Go.Proofs.YtljbnnpmnoejeaaGreatDoor.nn
namespace Go.Proofs.YtljbnnpmnoejeaaGreatDoor.nn
open Go.RowKit

set_option maxRecDepth 100000 in
set_option maxHeartbeats 2000000 in
theorem nsame_yes (t : VT) (A A2 : Option Addr) (c c2 : Nat) (w : World) :
    Calls Tryz.prog 9 #[vv t (.slice A 0 c), vv t (.slice A2 0 c2)] w fun e w' => e = .returned (.bool true) ∧ Below w.heap.size w w' := by
  have HB0 := Lib.hid (Box2.new w t (.slice A 0 c) t (.slice A2 0 c2) 25)
  obtain ⟨k, hk⟩ : ∃ k, t.k = k := ⟨_, rfl⟩
  obtain ⟨g, hg⟩ : ∃ k, t.g = k := ⟨_, rfl⟩
  obtain ⟨n, hn⟩ : ∃ k, t.n = k := ⟨_, rfl⟩
  obtain ⟨s, hs⟩ : ∃ k, t.s = k := ⟨_, rfl⟩
  unfold vv
  rw [hk, hg, hn, hs] at HB0 ⊢
  clear hk hg hn hs
  go_enter Tryz.func9, Tryz.ntmps9
  go_wp2_with fail
  go_loopw [5] (fun s5 wr => s5 = .int .i64 0 ∧ Hid (Box2 w t (.slice A 0 c) t (.slice A2 0 c2) wr)) (fun _ _ => 0)
  case atStart => exact ⟨rfl, HB0⟩
  case round =>
    obtain ⟨rfl, hk⟩ := hrel
    have h4 : wr.cell? ⟨w.heap.size, 4, none⟩ = some (.slice A 0 c) := hk.out.r.l
    go_wp2_with fail
    go_ret
    exact ⟨rfl, hk.out.b⟩
end Go.Proofs.YtljbnnpmnoejeaaGreatDoor.nn
namespace Go.Proofs.YtljbnnpmnoejeaaGreatDoor.nn
open Go.RowKit

set_option maxRecDepth 100000 in
set_option maxHeartbeats 2000000 in
theorem nvalues_any (s : ByteArray) (hs : s.size ≤ 140737488351232) (w : World)
    (HP : Hid (∀ W, Below w.heap.size w W → Calls Tryz.prog 7 #[.string s] W (VaAns s W))) :
    Calls Tryz.prog 3 #[.string s] w fun e w' => e = .returned (.bool true) ∧ Below w.heap.size w w' := by
  have H2 := Lib.hid (fun W => nvalue_any s W hs)
  have HA := Lib.hid (fun W => awake7 W)
  have HB := Lib.hid (Below.refl w.heap.size w)
  go_enter Tryz.func3, Tryz.ntmps3
  go_wp2_with fail
  refine (HP.out _ HB.out).mono ?_
  rintro e w1 ⟨t, E, rfl, h1, hb1⟩
  have G1 := Lib.hid h1
  have B1 := Lib.hid hb1
  clear hb1 h1 HP HB
  have X0 := Lib.hid (Box.new w1 t (.slice none 0 0) 25)
  have HS := Lib.hid (fun W => nsame_yes t none none 0 0 W)
  unfold vv at HS
  unfold vv nilS
  go_wp2_with fail
  refine (H2.out _).mono ?_
  rintro e w2 ⟨u, F, rfl, h2, hb2⟩
  obtain ⟨e1, e2⟩ := G1.out.uniq h2
  subst e1 e2
  have X2 := Lib.hid (X0.out.on hb2)
  have Y2 := Lib.hid (Box.new w2 t (.slice none 0 0) 25)
  have hb3 := (Below.refl w2.heap.size w2).alloc (Nat.le_refl _) (.cells #[.int .i64 t.k, .bool t.g, .int .u64 (t.n : Int), .string t.s, .slice none 0 0] 25)
  have Z3 := Lib.hid (X2.out.on hb3)
  have r1 := Z3.out.r
  have r2 := Y2.out.r
  have B3 := Lib.hid (B1.out.trans (Z3.out.b.mono B1.out.size))
  have a0 := r1.k
  have a1 := r1.g
  have a2 := r1.n
  have a3 := r1.s
  have a4 := r1.l
  have b0 := r2.k
  have b1 := r2.g
  have b2 := r2.n
  have b3 := r2.s
  have b4 := r2.l
  clear r1 r2 hb2 hb3 h2 H2 G1 X0 X2 Y2 Z3 B1
  unfold vv nilS
  go_wp2_with fail
  refine (HS.out _).mono ?_
  rintro e w4 ⟨rfl, hb4⟩
  have B4 := Lib.hid (B3.out.trans (hb4.mono B3.out.size))
  clear hb4 a0 a1 a2 a3 a4 b0 b1 b2 b3 b4
  go_wp2_with fail
  refine (HA.out _).mono ?_
  rintro e w5 ⟨rfl, hb5⟩
  have B5 := Lib.hid (B4.out.trans (hb5.mono B4.out.size))
  clear hb5
  go_wp2_with fail
  go_ret
  exact ⟨rfl, B5.out⟩
end Go.Proofs.YtljbnnpmnoejeaaGreatDoor.nn
namespace Go.Proofs.YtljbnnpmnoejeaaGreatDoor.nn
open Go.RowKit

def nT (n : Nat) : ByteArray := ⟨(Lib.decDigits n).toArray⟩
theorem nT_size (n : Nat) : (nT n).size = (Lib.decDigits n).length := List.size_toArray
theorem nT_pos (n : Nat) : 0 < (Lib.decDigits n).length := by
  rw [Lib.decDigits_length]
  exact Lib.nDigits_pos n
theorem nT_bt {n i : Nat} (h : i < (Lib.decDigits n).length) : bt (nT n) i = lf_ (Lib.decDigits n) i := bt_lf _ i h
theorem nT_dgs (n : Nat) : dgs (bt (nT n)) (nT n).size = true := by
  rw [nT_size, dgs_congr (fun i hi => nT_bt hi)]
  exact (dec_read n).1
theorem nT_dv (n : Nat) : dv (bt (nT n)) (nT n).size = n := by
  rw [nT_size, dv_congr (fun i hi => nT_bt hi)]
  exact (dec_read n).2
theorem nT_head {n : Nat} (h : bt (nT n) 0 = 48) : n = 0 ∧ (nT n).size = 1 := by
  rw [nT_bt (nT_pos n)] at h
  by_cases h0 : n = 0
  · subst h0
    exact ⟨rfl, by rw [nT_size, Lib.decDigits_one (by decide)]; rfl⟩
  · exact absurd h (dec_head (by omega))
theorem wls_yes {f : Nat → Nat} {n : Nat} (h : ∀ i, i < n → wb (f i) = false) : wls f n = true := by
  induction n with
  | zero => rfl
  | succ n ih => rw [wls, ih (fun i hi => h i (by omega)), h n (by omega)]; rfl
/-- where the number of a text with a sign begins -/
theorem sg_cA {g : Bool} {L : ByteArray} (hL : 0 < L.size) (h45 : bt L 0 ≠ 45) : cA (sgT g ++ L) = sgN g ∧ at_ (sgT g ++ L) 0 45 = g := by
  have h : at_ (sgT g ++ L) 0 45 = g := by
    cases g with
    | true => exact decide_eq_true ⟨by rw [ByteArray.size_append]; show 0 < 1 + _; omega, by
        have := fbt_app_left (a := sgT true) (b := L) (i := 0) (by decide)
        rw [this]; rfl⟩
    | false =>
      refine decide_eq_false fun e => h45 ?_
      have := sg_bt (g := false) (L := L) (i := 0) hL
      rw [← this]
      exact e.2
  refine ⟨?_, h⟩
  unfold cA
  rw [h]
  cases g <;> rfl
theorem sg_sfx {g : Bool} {L : ByteArray} : sfx (sgT g ++ L) (sgN g) = L := by
  have hz : (sgT g ++ L).size = sgN g + L.size := by rw [ByteArray.size_append, sgT_size]
  refine fba_ext (by rw [sfx_size, hz]; omega) fun i hi => ?_
  rw [sfx_size, hz] at hi
  rw [bt_sfx (by omega)]
  exact sg_bt (by omega)
/-- a sign and digits are a whole number -/
theorem dec_form (g : Bool) (n : Nat) : NmIs (sgT g ++ nT n) (sgT g ++ nT n).size 0 ∧ wh (sgT g ++ nT n) = true ∧ at_ (sgT g ++ nT n) 0 45 = g ∧ cA (sgT g ++ nT n) = sgN g ∧ wV (sgT g ++ nT n) = n ∧ (sfx (sgT g ++ nT n) (cA (sgT g ++ nT n))).size = (Lib.decDigits n).length := by
  have hpos := nT_pos n
  have hsz := nT_size n
  have hd := nT_dgs n
  have h0 := dgs_at hd (show 0 < (nT n).size by omega)
  obtain ⟨hA, h45⟩ := sg_cA (g := g) (L := nT n) (by omega) (by omega)
  have hz : (sgT g ++ nT n).size = sgN g + (nT n).size := by rw [ByteArray.size_append, sgT_size]
  have hsx : sfx (sgT g ++ nT n) (cA (sgT g ++ nT n)) = nT n := by rw [hA]; exact sg_sfx
  have hrn : rn (sgT g ++ nT n) (sgN g) = (nT n).size := rn_is (by omega) (fun i hi => by rw [sg_bt hi]; exact dgs_at hd hi) (.inl (by omega))
  have hb0 : bt (sgT g ++ nT n) (sgN g) = bt (nT n) 0 := by
    have := sg_bt (g := g) (L := nT n) (i := 0) (by omega)
    rwa [Nat.add_zero] at this
  refine ⟨?_, ?_, h45, hA, ?_, by rw [hsx, hsz]⟩
  · have hat : At (sgT g ++ nT n) (sgN g) (if at_ (sgT g ++ nT n) 0 45 = true then 1 else 0) := by rw [← hA]; exact at_neg
    obtain ⟨c1, c2⟩ := hat.first (by cases at_ (sgT g ++ nT n) 0 45 <;> simp) (by rw [hrn]; omega)
    rw [hb0, hrn] at c2
    rw [hb0] at c1
    by_cases e : bt (nT n) 0 = 48
    · have h1 := c1 e
      obtain ⟨_, e1⟩ := nT_head e
      rw [show (sgT g ++ nT n).size = sgN g + 1 by omega]
      have hs1 : (sgT g ++ nT n).size = sgN g + 1 := by omega
      exact h1.fine (.inl rfl) (fun hl => by omega) (fun hl => by omega) (fun hl => by omega)
    · have h1 := c2 e
      rw [hz]
      exact h1.fine (.inr (.inl rfl)) (fun hl => by omega) (fun hl => by omega) (fun hl => by omega)
  · refine wls_yes fun i hi => ?_
    by_cases hg : i < sgN g
    · have hg1 : g = true ∧ i = 0 := by cases g with
        | true => exact ⟨rfl, by have : sgN true = 1 := rfl; omega⟩
        | false => have : sgN false = 0 := rfl; omega
      obtain ⟨rfl, rfl⟩ := hg1
      have : bt (sgT true ++ nT n) 0 = 45 := by
        have := fbt_app_left (a := sgT true) (b := nT n) (i := 0) (by decide)
        rw [this]; rfl
      rw [this]
      rfl
    · have := sg_bt (g := g) (L := nT n) (i := i - sgN g) (by omega)
      rw [show sgN g + (i - sgN g) = i by omega] at this
      rw [this]
      have hx := dgs_at hd (show i - sgN g < (nT n).size by omega)
      unfold wb
      rw [decide_eq_false (by omega), decide_eq_false (by omega), decide_eq_false (by omega)]
      rfl
  · unfold wV
    rw [hsx]
    exact nT_dv n
/-- what Value answers of a sign and digits -/
theorem dec_value (g : Bool) (n : Nat) (hl : (Lib.decDigits n).length ≤ 1200) : VaIs (sgT g ++ nT n) (if g = true ∧ n = 0 then .mk 8 false 9223372036854775808 ⟨#[]⟩ [] else numT g (lessT g n)) 0 := by
  obtain ⟨h1, h2, h3, h4, h5, h6⟩ := dec_form g n
  by_cases h : g = true ∧ n = 0
  · rw [if_pos h]
    exact .zero h1 h2 (by omega) (by rw [h3]; exact h.1) (by rw [h5]; exact h.2)
  · rw [if_neg h]
    have h0 : g = true → 0 < n := fun hg => by
      rcases Nat.eq_zero_or_pos n with e | e
      · exact absurd ⟨hg, e⟩ h
      · exact e
    have := VaIs.int h1 h2 (by omega) (by rw [h3, h5]; exact h0)
    rwa [h3, h5] at this
theorem nb_small {N : Nat} (h : N < 18446744073709551616) : nb N ≤ 8 := by
  have h1 : bl N ≤ 64 := bl_le h
  unfold nb
  omega
end Go.Proofs.YtljbnnpmnoejeaaGreatDoor.nn
namespace Go.Proofs.YtljbnnpmnoejeaaGreatDoor.nn
open Go.RowKit

theorem empty_app (x : ByteArray) : (⟨#[]⟩ : ByteArray) ++ x = x := by
  refine fba_ext (by rw [ByteArray.size_append]; show 0 + _ = _; omega) fun i hi => ?_
  have := fbt_app_right (a := ⟨#[]⟩) (b := x) (i := i) (by rw [ByteArray.size_append] at hi; have : ByteArray.size ⟨#[]⟩ = 0 := rfl; omega)
  have e : ByteArray.size ⟨#[]⟩ + i = i := by have : ByteArray.size ⟨#[]⟩ = 0 := rfl; omega
  rwa [e] at this
/-- the digits of a number that is not 0 -/
def dN (n : Nat) : List UInt8 := if n ≠ 0 then Lib.decDigits n else []
theorem dN_step {K : Nat} (h : K ≠ 0) : dN K = dN (K / 10) ++ [UInt8.ofNat (48 + K % 10)] := by
  unfold dN
  rw [if_pos h]
  by_cases h10 : K < 10
  · rw [if_neg (by omega), Lib.decDigits_one h10, Nat.mod_eq_of_lt h10]; rfl
  · rw [if_pos (by omega), dec_big h10]
theorem dN_len {n : Nat} (h : n < 18446744073709551616) : (dN n).length ≤ 20 := by
  unfold dN
  split
  · rw [Lib.decDigits_length]
    exact nd_le 20 n (by decide) (Nat.lt_of_lt_of_le h (by decide +kernel))
  · exact Nat.zero_le _
set_option maxRecDepth 100000 in
set_option maxHeartbeats 4000000 in
theorem nwholes_any (n : Nat) (hn : n < 18446744073709551616) (w : World)
    (HP : Hid (∀ s W, s.size ≤ 1000 → Below w.heap.size w W → Calls Tryz.prog 7 #[.string s] W (VaAns s W))) :
    Calls Tryz.prog 6 #[.int .u64 (n : Int)] w fun e w' => e = .returned (.bool true) ∧ Below w.heap.size w w' := by
  have HA := Lib.hid (fun W => awake7 W)
  have HB := Lib.hid (Below.refl w.heap.size w)
  have hlen := dN_len hn
  have HL := Lib.hid hlen
  clear hlen
  go_enter Tryz.func6, Tryz.ntmps6
  go_wp2_with fail
  go_loopw [3, 4] (fun s3 s4 wr => ∃ (K : Nat) (S : ByteArray), s3 = .string S ∧ s4 = .int .u64 (K : Int) ∧ K < 18446744073709551616 ∧ S.size ≤ 20 ∧ Hid (dN n = dN K ++ S.data.toList) ∧ Hid (Below w.heap.size w wr)) (fun _ s4 _ => (intOf s4).toNat)
  case atStart => exact ⟨n, ⟨#[]⟩, rfl, rfl, hn, by decide, Lib.hid (by simp), HB⟩
  case round =>
    obtain ⟨K, S, rfl, rfl, hK, hS, hI, hW⟩ := hrel
    by_cases h0 : 0 < K
    · have hst := dN_step (K := K) (by omega)
      have hm10 : K % 10 < 10 := Nat.mod_lt _ (by decide)
      obtain ⟨d, hd⟩ : ∃ d, 48 + K % 10 = d := ⟨_, rfl⟩
      have hd256 : d < 256 := by omega
      have u1 : (48 : Int) + (K : Int) % 10 = (d : Int) := by omega
      rw [hd] at hst
      have kc := conv_row (some ⟨wr.heap.size, 0, none⟩) 1 1 (fun _ => d) (wr.alloc (.cells #[.int .u8 (d : Int)] 5)) (rd_one wr .u8 d 5)
      obtain ⟨P, hP⟩ : ∃ P, pc (fun _ => d) 1 = P := ⟨_, rfl⟩
      have hPs : P.size = 1 := by rw [← hP, pc_size]
      have hPl : P.data.toList = [UInt8.ofNat d] := by rw [← hP]; rfl
      rw [hP] at kc
      have hI2 : dN n = dN (K / 10) ++ (P ++ S).data.toList := by rw [hI.out, hst, app_list, hPl, List.append_assoc]
      have hS2 : (P ++ S).size ≤ 20 := by
        have h := HL.out
        rw [hI2, List.length_append] at h
        have h2 : (P ++ S).data.toList.length = (P ++ S).size := rfl
        omega
      have HI2 := Lib.hid hI2
      have HBA := Lib.hid (hW.out.alloc hW.out.size (.cells #[.int .u8 (d : Int)] 5))
      have hb1 : ¬ 9223372036854775807 < P.size + S.size := by omega
      clear hst hd hP hPl hPs hm10 hI2
      go_wp2_with fail
      go_roundw
      case rel => exact ⟨K / 10, P ++ S, rfl, congrArg (Value.int .u64) (by omega), by omega, hS2, HI2, HBA⟩
      case measure => simp [intOf]; omega
    · obtain rfl : K = 0 := by omega
      have hT : dN n = S.data.toList := by have h := hI.out; rw [show dN 0 = [] from rfl, List.nil_append] at h; exact h
      have HT : Hid (n ≠ 0 → S = nT n) := Lib.hid fun h => by
        unfold dN at hT
        rw [if_pos h] at hT
        apply ByteArray.ext
        show S.data = (Lib.decDigits n).toArray
        rw [hT]
      have HT0 : Hid (n = 0 → S = ⟨#[]⟩) := Lib.hid fun h => by
        unfold dN at hT
        rw [if_neg (by omega)] at hT
        apply ByteArray.ext
        have : S.data.toList = [] := hT.symm
        exact Array.toList_eq_nil_iff.1 this
      have hpos := nT_pos n
      have hsz := nT_size n
      have hlen2 : (nT n).size ≤ 20 := by
        have h := HL.out
        unfold dN at h
        by_cases e : n = 0
        · subst e; rw [hsz, Lib.decDigits_one (by decide)]; decide
        · rw [if_pos e] at h; omega
      clear hT hI
      have hE : S.toList.isEmpty = decide (n = 0) := by
        by_cases e : n = 0
        · rw [decide_eq_true e, HT0.out e, ByteArray.toList_eq]; rfl
        · rw [decide_eq_false e]
          exact not_nil_text (by rw [HT.out e]; omega)
      obtain ⟨B, hB⟩ : ∃ B, decide (n = 0) = B := ⟨_, rfl⟩
      rw [hB] at hE
      have HF : Hid ((if B = true then ⟨#[48]⟩ else S) = nT n) := Lib.hid (by
        by_cases e : n = 0
        · rw [← hB, decide_eq_true e, if_pos rfl]; subst e; unfold nT; rw [Lib.decDigits_one (by decide)]; rfl
        · rw [← hB, decide_eq_false e, if_neg (by decide)]; exact HT.out e)
      clear hB
      go_upto_if 23 with (fail)
      clear hE
      go_cut [3] (fun s3 wx => s3 = .string (nT n) ∧ wx = wr)
      case first =>
        cases B
        all_goals
          go_wp2_with fail
          go_meet
          exact ⟨by rw [← HF.out]; rfl, rfl⟩
      case rest =>
        obtain ⟨rfl, hww⟩ := hcut
        obtain rfl : wr = wc := hww.symm
        have hv1 := dec_value false n (by omega)
        have hv2 := dec_value true n (by omega)
        have e1 : sgT false ++ nT n = nT n := empty_app _
        rw [e1, if_neg (by intro h; exact absurd h.1 (by decide))] at hv1
        have e2 : numT false (lessT false n) = .mk 4 false n ⟨#[]⟩ [] := by
          show (if 8 < nb n then VT.mk 5 false 0 (beT n) [] else VT.mk 4 false n e7 []) = _
          rw [if_neg (by have := nb_small hn; omega)]
          rfl
        have e3 : n ≠ 0 → numT true (lessT true n) = .mk 4 true (n - 1) ⟨#[]⟩ [] := fun _ => by
          show (if 8 < nb (n - 1) then VT.mk 5 true 0 (beT (n - 1)) [] else VT.mk 4 true (n - 1) e7 []) = _
          rw [if_neg (by have := nb_small (N := n - 1) (by omega); omega)]
          rfl
        rw [e2] at hv1
        have HV1 := Lib.hid hv1
        have hm : (⟨#[45]⟩ : ByteArray) ++ nT n = sgT true ++ nT n := rfl
        have H1 := Lib.hid (fun W hW => HP.out (nT n) W (by omega) hW)
        have H2 := Lib.hid (fun W hW => HP.out (⟨#[45]⟩ ++ nT n) W (by rw [ByteArray.size_append]; show 1 + _ ≤ _; omega) hW)
        have HV2 : Hid (∀ t E, VaIs (⟨#[45]⟩ ++ nT n) t E → E = 0 ∧ (n = 0 → t = .mk 8 false 9223372036854775808 ⟨#[]⟩ []) ∧ (n ≠ 0 → t = .mk 4 true (n - 1) ⟨#[]⟩ [])) := Lib.hid fun t E h => by
          rw [hm] at h
          obtain ⟨a, b⟩ := h.uniq hv2
          refine ⟨b, fun e => ?_, fun e => ?_⟩
          · rw [a, if_pos ⟨rfl, e⟩]
          · rw [a, if_neg (by intro g; exact e g.2), e3 e]
        have hb2 : ¬ 9223372036854775807 < 1 + (nT n).size := by omega
        clear hv1 hv2 e1 e2 e3 hm HT HT0 HL hpos hsz HP HF
        go_wp2_with fail
        refine (H1.out _ hW.out).mono ?_
        rintro e w1 ⟨t, E, rfl, h1, hb1⟩
        obtain ⟨rfl, rfl⟩ := h1.uniq HV1.out
        have B1 := Lib.hid (hW.out.trans (hb1.mono hW.out.size))
        have X0 := Lib.hid (Box.new w1 (.mk 4 false n ⟨#[]⟩ []) (.slice none 0 0) 25)
        have B2 := Lib.hid (B1.out.trans (X0.out.b.mono B1.out.size))
        clear h1 hb1 H1 HV1
        unfold vv nilS
        go_wp2_with fail
        refine (H2.out _ B2.out).mono ?_
        rintro e w3 ⟨t, E, rfl, h2, hb2⟩
        obtain ⟨rfl, ht0, ht1⟩ := HV2.out t E h2
        have B3 := Lib.hid (B2.out.trans (hb2.mono B2.out.size))
        clear h2 hb2 H2 HV2
        by_cases e : n = 0
        · obtain rfl := ht0 e
          subst e
          clear ht0 ht1
          unfold vv nilS
          go_wp2_with fail
          go_ret
          exact ⟨rfl, B3.out.alloc B3.out.size _⟩
        · obtain rfl := ht1 e
          have hn1 : ((n : Int) == 0) = false := by rw [beq_eq_false_iff_ne]; omega
          have k1 : ((n - 1 : Nat) : Int) = (n : Int) - 1 := by omega
          clear ht0 ht1
          unfold vv nilS
          go_wp2_with fail
          refine (HA.out _).mono ?_
          rintro e w5 ⟨rfl, hb5⟩
          have B5 := Lib.hid (Below.trans (B3.out.alloc B3.out.size _) (hb5.mono (B3.out.alloc B3.out.size _).size))
          clear hb5
          go_wp2_with fail
          go_ret
          exact ⟨rfl, B5.out⟩
end Go.Proofs.YtljbnnpmnoejeaaGreatDoor.nn
