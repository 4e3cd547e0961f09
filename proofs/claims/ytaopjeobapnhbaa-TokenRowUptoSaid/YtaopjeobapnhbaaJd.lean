/- Joined texts, what is wanted of them: NuA, TkA, TkB, TkN, It, ItZ, TkG, RefScan, TkL. -/
import Derived.Test.YtaopjeobapnhbaaProg
import Derived.WalkKit
import Derived.Lib.Hide
import Derived.Deep.CutBlock
import Derived.BigQuiet
import Derived.Deep.QuietTactic
import Derived.Deep.DeepCutAuto
import Derived.KernelRfl
import Derived.Below
import Derived.Deep.WholeRow
import Derived.Great.Walk
import Derived.Laws.BitsAllLaws
import Derived.RowKit
import Derived.IntWalk
import Derived.Test.YtaopjeobapnhbaaShelf
import Derived.Lib.MinMax
import Derived.Laws.BytesArg
import Derived.Laws.OwnMore
import Derived.Deep.AppendLies
import Derived.Deep.Draws
import Derived.Maps.AppendAt
import Derived.RegionTactic
import Derived.OwnWalk
import Derived.Deep.RegionLaw
import Derived.Lib.UnsafeStr
import Derived.Lib.AppendStr
import Derived.Lib.BitFns
import Derived.WalkSpells
import Derived.Laws.Rows
import Derived.Laws.Externs
import Derived.Deep.RegionHeld3
import Derived.Deep.RegionWith
import Derived.Deep.CutRange
import Derived.Deep.LoopGhost
import Derived.Laws.BitsLemmas
import Derived.Shelf.Spec.BitsCarry
import Derived.Laws.Bits64
import Derived.Laws.CopyOwn
import Derived.StillTailTactics
import Derived.Lib.Builder
import Derived.Lib.MakeNoZero
import Derived.OneCell
import Derived.BigRegion
import Derived.Test.YtaopjeobapnhbaaShelfR
import Derived.RangeFuncNested
import Derived.RangeFuncBound
import Derived.RangeFuncCalls
import Derived.RangeFuncLeaves
import Derived.Shelf.Abstract
import Derived.Shelf.RegionOpen
import Derived.OwnWalkIn
import Derived.TacticsInMore
import Derived.Laws.AppendOwn
import Derived.Maps.OwnIn
import Derived.RangeFuncBox
import Derived.Test.YtaopjeobapnhbaaRows
import Derived.ProofKit
import Derived.SizedLaws
import Derived.ChangeMaps5
import Derived.Test.YtaopjeobapnhbaaJc
namespace Go.Proofs.Ytaopjeobapnhbaa.nn
open Go.RowKit

set_option maxRecDepth 100000 in
theorem nst_0 : ∀ b, b < 256 → nst 0 b = if decide (b = 45) = true then 1 else if decide (b = 48) = true then 2 else if decide (49 ≤ b ∧ b ≤ 57) = true then 3 else 9 := by decide +kernel
set_option maxRecDepth 100000 in
theorem nst_1 : ∀ b, b < 256 → nst 1 b = if decide (b = 48) = true then 2 else if decide (49 ≤ b ∧ b ≤ 57) = true then 3 else 9 := by decide +kernel
set_option maxRecDepth 100000 in
theorem nst_2 : ∀ b, b < 256 → nst 2 b = if decide (b = 46) = true then 4 else if decide (b = 101 ∨ b = 69) = true then 6 else 9 := by decide +kernel
set_option maxRecDepth 100000 in
theorem nst_3 : ∀ b, b < 256 → nst 3 b = if decide (48 ≤ b ∧ b ≤ 57) = true then 3 else if decide (b = 46) = true then 4 else if decide (b = 101 ∨ b = 69) = true then 6 else 9 := by decide +kernel
set_option maxRecDepth 100000 in
theorem nst_4 : ∀ b, b < 256 → nst 4 b = if decide (48 ≤ b ∧ b ≤ 57) = true then 5 else 9 := by decide +kernel
set_option maxRecDepth 100000 in
theorem nst_5 : ∀ b, b < 256 → nst 5 b = if decide (48 ≤ b ∧ b ≤ 57) = true then 5 else if decide (b = 101 ∨ b = 69) = true then 6 else 9 := by decide +kernel
set_option maxRecDepth 100000 in
theorem nst_6 : ∀ b, b < 256 → nst 6 b = if decide (48 ≤ b ∧ b ≤ 57) = true then 8 else if decide (b = 43) = true then 7 else if decide (b = 45) = true then 7 else 9 := by decide +kernel
set_option maxRecDepth 100000 in
theorem nst_7 : ∀ b, b < 256 → nst 7 b = if decide (48 ≤ b ∧ b ≤ 57) = true then 8 else 9 := by decide +kernel
set_option maxRecDepth 100000 in
theorem nst_8 : ∀ b, b < 256 → nst 8 b = if decide (48 ≤ b ∧ b ≤ 57) = true then 8 else 9 := by decide +kernel
theorem eq_dec (b k : Nat) : ((b : Int) == (k : Int)) = decide (b = k) := by
  by_cases h : b = k
  · rw [decide_eq_true h, h, beq_self_eq_true]
  · rw [decide_eq_false h, beq_eq_false_iff_ne]; omega

set_option maxRecDepth 100000 in
set_option maxHeartbeats 1000000 in
theorem isMark_any (b : Nat) (w : World) : Calls Try.prog 55 #[.int .u8 (b : Int)] w fun e w' => e = .returned (.bool (decide (b = 101 ∨ b = 69))) ∧ w = w' := by
  by_cases h1 : b = 101
  · subst h1
    go_enter Try.func55, Try.ntmps55
    go_wp2
    go_ret
    exact ⟨rfl, rfl⟩
  · have n1 : ((b : Int) == 101) = false := by rw [beq_eq_false_iff_ne]; omega
    by_cases h2 : b = 69
    · subst h2
      clear h1
      go_enter Try.func55, Try.ntmps55
      go_wp2
      go_ret
      exact ⟨rfl, rfl⟩
    · have n2 : ((b : Int) == 69) = false := by rw [beq_eq_false_iff_ne]; omega
      rw [decide_eq_false (show ¬ (b = 101 ∨ b = 69) by omega)]
      clear h1 h2
      go_enter Try.func55, Try.ntmps55
      go_wp2
      go_ret
      exact ⟨rfl, rfl⟩
set_option maxRecDepth 100000 in
set_option maxHeartbeats 1000000 in
theorem isDig_any (k b g : Nat) (w : World) (hc : w.cell? ⟨g, 0, none⟩ = some (.int .u8 (b : Int))) : Calls Try.prog 54 #[.int .u8 (k : Int), .pointer (some ⟨g, 0, none⟩)] w fun e w' => e = .returned (.bool (decide (k ≤ b ∧ b ≤ 57))) ∧ w = w' := by
  by_cases h1 : k ≤ b
  · by_cases h2 : b ≤ 57
    · rw [decide_eq_true (show k ≤ b ∧ b ≤ 57 by omega)]
      have g2 : decide ((b : Int) ≤ 57) = true := decide_eq_true (by omega)
      go_enter Try.func54, Try.ntmps54
      go_wp2
      go_ret
      exact ⟨rfl, rfl⟩
    · rw [decide_eq_false (show ¬ (k ≤ b ∧ b ≤ 57) by omega)]
      have g2 : decide ((b : Int) ≤ 57) = false := decide_eq_false (by omega)
      go_enter Try.func54, Try.ntmps54
      go_wp2
      go_ret
      exact ⟨rfl, rfl⟩
  · rw [decide_eq_false (show ¬ (k ≤ b ∧ b ≤ 57) by omega)]
    have g1 : decide ((k : Int) ≤ (b : Int)) = false := decide_eq_false (by omega)
    go_enter Try.func54, Try.ntmps54
    go_wp2
    go_ret
    exact ⟨rfl, rfl⟩
set_option maxRecDepth 100000 in
set_option maxHeartbeats 4000000 in
theorem step_any (q b : Nat) (w : World) (hq : q ≤ 8) (hb : b < 256) : Calls Try.prog 49 #[.int .i64 (q : Int), .int .u8 (b : Int)] w fun e w' => e = .returned (.int .i64 (nst q b : Int)) ∧ Below w.heap.size w w' := by
  have hmf : ∀ (fn : Fn) (first cap : Array Value) (w : World), (Instr.makeFunc fn first cap).run Try.prog w = .ok (.func fn first cap) w := fun _ _ _ _ => rfl
  have H8 := Lib.hid (isDig_any 48 b w.heap.size (w.alloc (.cells #[.int .u8 (b : Int)] 5)) (by simp))
  have H9 := Lib.hid (isDig_any 49 b w.heap.size (w.alloc (.cells #[.int .u8 (b : Int)] 5)) (by simp))
  have HM := Lib.hid (isMark_any b (w.alloc (.cells #[.int .u8 (b : Int)] 5)))
  have HB := Lib.hid ((Below.refl w.heap.size w).alloc (Nat.le_refl _) (.cells #[.int .u8 (b : Int)] 5))
  have e43 : ((b : Int) == 43) = decide (b = 43) := eq_dec b 43
  have e45 : ((b : Int) == 45) = decide (b = 45) := eq_dec b 45
  have e46 : ((b : Int) == 46) = decide (b = 46) := eq_dec b 46
  have e48 : ((b : Int) == 48) = decide (b = 48) := eq_dec b 48
  have q0 := Lib.hid (nst_0 b hb)
  have q1 := Lib.hid (nst_1 b hb)
  have q2 := Lib.hid (nst_2 b hb)
  have q3 := Lib.hid (nst_3 b hb)
  have q4 := Lib.hid (nst_4 b hb)
  have q5 := Lib.hid (nst_5 b hb)
  have q6 := Lib.hid (nst_6 b hb)
  have q7 := Lib.hid (nst_7 b hb)
  have q8 := Lib.hid (nst_8 b hb)
  obtain ⟨B43, h43⟩ : ∃ B, decide (b = 43) = B := ⟨_, rfl⟩
  obtain ⟨B45, h45⟩ : ∃ B, decide (b = 45) = B := ⟨_, rfl⟩
  obtain ⟨B46, h46⟩ : ∃ B, decide (b = 46) = B := ⟨_, rfl⟩
  obtain ⟨B48, h48⟩ : ∃ B, decide (b = 48) = B := ⟨_, rfl⟩
  obtain ⟨BM, hM⟩ : ∃ B, decide (b = 101 ∨ b = 69) = B := ⟨_, rfl⟩
  obtain ⟨D8, h8⟩ : ∃ B, decide (48 ≤ b ∧ b ≤ 57) = B := ⟨_, rfl⟩
  obtain ⟨D9, h9⟩ : ∃ B, decide (49 ≤ b ∧ b ≤ 57) = B := ⟨_, rfl⟩
  rw [h43] at e43 q6
  rw [h45] at e45 q0 q6
  rw [h46] at e46 q2 q3
  rw [h48] at e48 q0 q1
  rw [hM] at q2 q3 q5 HM
  rw [h8] at q3 q4 q5 q6 q7 q8 H8
  rw [h9] at q0 q1 H9
  clear h43 h45 h46 h48 hM h8 h9 hb
  have hc : q = 0 ∨ q = 1 ∨ q = 2 ∨ q = 3 ∨ q = 4 ∨ q = 5 ∨ q = 6 ∨ q = 7 ∨ q = 8 := by omega
  clear hq
  rcases hc with rfl | rfl | rfl | rfl | rfl | rfl | rfl | rfl | rfl
  · have Q := q0
    clear q0 q1 q2 q3 q4 q5 q6 q7 q8 H8 HM e43 e46
    go_enter Try.func49, Try.ntmps49
    cases B45
    · cases B48
      · go_wp2_with fail
        refine H9.out.mono ?_
        rintro e w' ⟨rfl, rfl⟩
        cases D9
        all_goals
          go_wp2_with fail
          go_ret
          exact ⟨ret_int (by rw [Q.out]; rfl), HB.out⟩
      · go_wp2_with fail
        go_ret
        exact ⟨ret_int (by rw [Q.out]; rfl), HB.out⟩
    · go_wp2_with fail
      go_ret
      exact ⟨ret_int (by rw [Q.out]; rfl), HB.out⟩
  · have Q := q1
    clear q0 q1 q2 q3 q4 q5 q6 q7 q8 H8 HM e43 e45 e46
    go_enter Try.func49, Try.ntmps49
    cases B48
    · go_wp2_with fail
      refine H9.out.mono ?_
      rintro e w' ⟨rfl, rfl⟩
      cases D9
      all_goals
        go_wp2_with fail
        go_ret
        exact ⟨ret_int (by rw [Q.out]; rfl), HB.out⟩
    · go_wp2_with fail
      go_ret
      exact ⟨ret_int (by rw [Q.out]; rfl), HB.out⟩
  · have Q := q2
    clear q0 q1 q2 q3 q4 q5 q6 q7 q8 H8 H9 e43 e45 e48
    go_enter Try.func49, Try.ntmps49
    cases B46
    · go_wp2_with fail
      refine HM.out.mono ?_
      rintro e w' ⟨rfl, rfl⟩
      cases BM
      all_goals
        go_wp2_with fail
        go_ret
        exact ⟨ret_int (by rw [Q.out]; rfl), HB.out⟩
    · go_wp2_with fail
      go_ret
      exact ⟨ret_int (by rw [Q.out]; rfl), HB.out⟩
  · have Q := q3
    clear q0 q1 q2 q3 q4 q5 q6 q7 q8 H9 e43 e45 e48
    go_enter Try.func49, Try.ntmps49
    go_wp2_with fail
    refine H8.out.mono ?_
    rintro e w' ⟨rfl, rfl⟩
    cases D8
    · cases B46
      · go_wp2_with fail
        refine HM.out.mono ?_
        rintro e w' ⟨rfl, rfl⟩
        cases BM
        all_goals
          go_wp2_with fail
          go_ret
          exact ⟨ret_int (by rw [Q.out]; rfl), HB.out⟩
      · go_wp2_with fail
        go_ret
        exact ⟨ret_int (by rw [Q.out]; rfl), HB.out⟩
    · go_wp2_with fail
      go_ret
      exact ⟨ret_int (by rw [Q.out]; rfl), HB.out⟩
  · have Q := q4
    clear q0 q1 q2 q3 q4 q5 q6 q7 q8 H9 HM e43 e45 e46 e48
    go_enter Try.func49, Try.ntmps49
    go_wp2_with fail
    refine H8.out.mono ?_
    rintro e w' ⟨rfl, rfl⟩
    cases D8
    all_goals
      go_wp2_with fail
      go_ret
      exact ⟨ret_int (by rw [Q.out]; rfl), HB.out⟩
  · have Q := q5
    clear q0 q1 q2 q3 q4 q5 q6 q7 q8 H9 e43 e45 e46 e48
    go_enter Try.func49, Try.ntmps49
    go_wp2_with fail
    refine H8.out.mono ?_
    rintro e w' ⟨rfl, rfl⟩
    cases D8
    · go_wp2_with fail
      refine HM.out.mono ?_
      rintro e w' ⟨rfl, rfl⟩
      cases BM
      all_goals
        go_wp2_with fail
        go_ret
        exact ⟨ret_int (by rw [Q.out]; rfl), HB.out⟩
    · go_wp2_with fail
      go_ret
      exact ⟨ret_int (by rw [Q.out]; rfl), HB.out⟩
  · have Q := q6
    clear q0 q1 q2 q3 q4 q5 q6 q7 q8 H9 HM e46 e48
    go_enter Try.func49, Try.ntmps49
    go_wp2_with fail
    refine H8.out.mono ?_
    rintro e w' ⟨rfl, rfl⟩
    cases D8
    · cases B43
      · cases B45
        all_goals
          go_wp2_with fail
          go_ret
          exact ⟨ret_int (by rw [Q.out]; rfl), HB.out⟩
      · go_wp2_with fail
        go_ret
        exact ⟨ret_int (by rw [Q.out]; rfl), HB.out⟩
    · go_wp2_with fail
      go_ret
      exact ⟨ret_int (by rw [Q.out]; rfl), HB.out⟩
  · have Q := q7
    clear q0 q1 q2 q3 q4 q5 q6 q7 q8 H9 HM e43 e45 e46 e48
    go_enter Try.func49, Try.ntmps49
    go_wp2_with fail
    refine H8.out.mono ?_
    rintro e w' ⟨rfl, rfl⟩
    cases D8
    all_goals
      go_wp2_with fail
      go_ret
      exact ⟨ret_int (by rw [Q.out]; rfl), HB.out⟩
  · have Q := q8
    clear q0 q1 q2 q3 q4 q5 q6 q7 q8 H9 HM e43 e45 e46 e48
    go_enter Try.func49, Try.ntmps49
    go_wp2_with fail
    refine H8.out.mono ?_
    rintro e w' ⟨rfl, rfl⟩
    cases D8
    all_goals
      go_wp2_with fail
      go_ret
      exact ⟨ret_int (by rw [Q.out]; rfl), HB.out⟩
set_option maxRecDepth 100000 in
set_option maxHeartbeats 1000000 in
theorem ends_any (q : Nat) (w : World) (hq : q ≤ 8) : Calls Try.prog 38 #[.int .i64 (q : Int)] w fun e w' => e = .returned (.bool (nacc q)) ∧ w = w' := by
  have hc : q = 0 ∨ q = 1 ∨ q = 2 ∨ q = 3 ∨ q = 4 ∨ q = 5 ∨ q = 6 ∨ q = 7 ∨ q = 8 := by omega
  clear hq
  rcases hc with rfl | rfl | rfl | rfl | rfl | rfl | rfl | rfl | rfl
  all_goals
    go_enter Try.func38, Try.ntmps38
    go_wp2
    go_ret
    exact ⟨rfl, rfl⟩
/-- where the states stop -/
def GoAns (s : ByteArray) (w : World) (e : Ending) (w' : World) : Prop := ∃ p, e = .returned (.tuple #[.int .i64 ((p : Nat) : Int), .int .i64 (nq (bt s) p : Int)]) ∧ p ≤ s.size ∧ nq (bt s) p ≠ 9 ∧ (p < s.size → nq (bt s) (p + 1) = 9) ∧ Below w.heap.size w w'
set_option maxRecDepth 100000 in
set_option maxHeartbeats 2000000 in
theorem goOver_any (s : ByteArray) (w : World) (hs : s.size ≤ 4611686018427387904) : Calls Try.prog 37 #[.string s] w (GoAns s w) := by
  have HS := Lib.hid (fun q b W (h1 : q ≤ 8) (h2 : b < 256) => step_any q b W h1 h2)
  have HB := Lib.hid (Below.refl w.heap.size w)
  go_enter Try.func37, Try.ntmps37
  go_wp2_with fail
  go_loopw [4, 9] (fun s4 s9 wr => ∃ i : Nat, i ≤ s.size ∧ s4 = .int .i64 (nq (bt s) i : Int) ∧ s9 = .int .i64 (i : Int) ∧ Hid (nq (bt s) i ≠ 9) ∧ Hid (Below w.heap.size w wr)) (fun _ s9 _ => s.size - (intOf s9).toNat)
  case atStart => exact ⟨0, Nat.zero_le _, rfl, rfl, Lib.hid (show (0 : Nat) ≠ 9 by decide), HB⟩
  case round =>
    obtain ⟨i, hi, rfl, rfl, h9, hB⟩ := hrel
    by_cases hlt : i < s.size
    · obtain ⟨x, hxx, hx, hx256⟩ := byte_of hlt
      have hq8 : nq (bt s) i ≤ 8 := by have := nq_le (bt s) i; have := h9.out; omega
      have HST := Lib.hid (fun W => HS.out (nq (bt s) i) x W hq8 hx256)
      have hnx : nst (nq (bt s) i) x = nq (bt s) (i + 1) := by rw [nq, hx]
      rw [hnx] at HST
      obtain ⟨Q, hQ⟩ : ∃ Q, nq (bt s) i = Q := ⟨_, rfl⟩
      obtain ⟨R, hR⟩ : ∃ R, nq (bt s) (i + 1) = R := ⟨_, rfl⟩
      rw [hQ] at HST h9 ⊢
      rw [hR] at HST
      have HQ := Lib.hid hQ
      have HR := Lib.hid hR
      clear hnx hx hQ hR hq8
      by_cases hr9 : R = 9
      · subst hr9
        go_wp2_with fail
        refine (HST.out _).mono ?_
        rintro e w' ⟨rfl, hb⟩
        have HB2 := Lib.hid (hB.out.trans (hb.mono hB.out.size))
        clear hb
        go_wp2_with fail
        go_ret2
        exact ⟨i, by rw [HQ.out]; rfl, hi, by rw [HQ.out]; exact h9.out, fun _ => HR.out, HB2.out⟩
      · have hne : ((R : Int) == 9) = false := by rw [beq_eq_false_iff_ne]; omega
        have HR9 := Lib.hid hr9
        clear hr9
        go_wp2_with fail
        refine (HST.out _).mono ?_
        rintro e w' ⟨rfl, hb⟩
        have HB2 := Lib.hid (hB.out.trans (hb.mono hB.out.size))
        clear hb
        go_wp2_with fail
        go_roundw
        case rel => exact ⟨i + 1, hlt, by rw [HR.out], by go_num, by rw [HR.out]; exact HR9, HB2⟩
        case measure => simp [intOf]; omega
    · obtain rfl : i = s.size := by omega
      go_wp2_with fail
      go_ret2
      exact ⟨s.size, rfl, Nat.le_refl _, h9.out, fun h => absurd h (Nat.lt_irrefl _), hB.out⟩
set_option maxRecDepth 100000 in
set_option maxHeartbeats 2000000 in
theorem pscan_any (s : ByteArray) (w : World) (hs : s.size ≤ 4611686018427387904) : Calls Try.prog 25 #[.string s] w (NmAns s w) := by
  have HG := Lib.hid (goOver_any s w hs)
  have HE := Lib.hid (fun q W (h : q ≤ 8) => ends_any q W h)
  go_enter Try.func25, Try.ntmps25
  go_wp2_with fail
  refine HG.out.mono ?_
  rintro e w1 ⟨p, rfl, hp, h9, hn, hb1⟩
  have B1 := Lib.hid hb1
  have hq8 : nq (bt s) p ≤ 8 := by have := nq_le (bt s) p; omega
  have HE1 := Lib.hid (fun W => HE.out (nq (bt s) p) W hq8)
  have HN : Hid (∀ E, E = (if nacc (nq (bt s) p) = true then 0 else if p = s.size then 3 else 4) → NmIs s p E) := Lib.hid fun E h => ⟨hp, h9, hn, h⟩
  obtain ⟨Q, hQ⟩ : ∃ Q, nq (bt s) p = Q := ⟨_, rfl⟩
  rw [hQ] at HE1 HN ⊢
  obtain ⟨A, hA⟩ : ∃ A, nacc Q = A := ⟨_, rfl⟩
  rw [hA] at HE1 HN
  clear hb1 h9 hn hQ hA hq8
  cases A with
  | true =>
    have HN2 := Lib.hid (HN.out 0 rfl)
    go_wp2_with fail
    refine (HE1.out _).mono ?_
    rintro e w' ⟨rfl, rfl⟩
    go_wp2_with fail
    go_ret2
    exact ⟨p, 0, rfl, HN2.out, B1.out⟩
  | false =>
    by_cases hlt : p < s.size
    · have HN2 := Lib.hid (HN.out 4 (by rw [if_neg (by decide), if_neg (by omega)]))
      go_wp2_with fail
      refine (HE1.out _).mono ?_
      rintro e w' ⟨rfl, rfl⟩
      go_wp2_with fail
      go_ret2
      exact ⟨p, 4, rfl, HN2.out, B1.out⟩
    · have HN2 := Lib.hid (HN.out 3 (by rw [if_neg (by decide), if_pos (by omega)]))
      go_wp2_with fail
      refine (HE1.out _).mono ?_
      rintro e w' ⟨rfl, rfl⟩
      go_wp2_with fail
      go_ret2
      exact ⟨p, 3, rfl, HN2.out, B1.out⟩
end Go.Proofs.Ytaopjeobapnhbaa.nn
namespace Go.Proofs.Ytaopjeobapnhbaa.nn
open Go.RowKit

set_option maxRecDepth 100000 in
theorem tisBlank_any (c : Nat) (w : World) : Calls Try.prog 21 #[.int .u8 (c : Int)] w fun e w' => e = .returned (.bool (blnk c)) ∧ w = w' := by
  by_cases h9 : c = 9
  · subst h9
    go_enter Try.func21, Try.ntmps21
    go_wp2_with fail
    go_ret
    exact ⟨rfl, rfl⟩
  by_cases h10 : c = 10
  · subst h10
    go_enter Try.func21, Try.ntmps21
    go_wp2_with fail
    go_ret
    exact ⟨rfl, rfl⟩
  by_cases h13 : c = 13
  · subst h13
    go_enter Try.func21, Try.ntmps21
    go_wp2_with fail
    go_ret
    exact ⟨rfl, rfl⟩
  by_cases h32 : c = 32
  · subst h32
    go_enter Try.func21, Try.ntmps21
    go_wp2_with fail
    go_ret
    exact ⟨rfl, rfl⟩
  have hb : blnk c = false := by unfold blnk; exact decide_eq_false (by omega)
  rw [hb]
  have q9 : ((c : Int) == 9) = false := by simp; omega
  have q10 : ((c : Int) == 10) = false := by simp; omega
  have q13 : ((c : Int) == 13) = false := by simp; omega
  have q32 : ((c : Int) == 32) = false := by simp; omega
  clear hb h9 h10 h13 h32
  go_enter Try.func21, Try.ntmps21
  go_wp2_with fail
  go_ret
  exact ⟨rfl, rfl⟩
set_option maxRecDepth 100000 in
set_option maxHeartbeats 1000000 in
theorem tbehind_any (s : ByteArray) (i : Nat) (w : World) (hs : s.size ≤ 4611686018427387904) (hi : i ≤ s.size) :
    Calls Try.prog 13 #[.string s, .int .i64 (i : Int)] w fun e w' => e = .returned (.int .i64 (sk (bt s) s.size i : Int)) ∧ w = w' := by
  have HB := Lib.hid (fun c W => tisBlank_any c W)
  have HI := Lib.hid hi
  obtain ⟨J, hJ⟩ : ∃ J, sk (bt s) s.size i = J := ⟨_, rfl⟩
  have HJ := Lib.hid hJ
  rw [hJ]
  clear hJ
  go_enter Try.func13, Try.ntmps13
  go_wp2_with fail
  go_loopw [1] (fun s1 wr => ∃ j : Nat, j ≤ s.size ∧ s1 = .int .i64 (j : Int) ∧ Hid (i ≤ j ∧ ∀ m, i ≤ m → m < j → blnk (bt s m) = true) ∧ wr = w) (fun s1 _ => s.size - (intOf s1).toNat)
  case atStart => exact ⟨i, hi, rfl, Lib.hid ⟨Nat.le_refl _, fun m h1 h2 => by omega⟩, rfl⟩
  case round =>
    obtain ⟨j, hj, rfl, HM, rfl⟩ := hrel
    by_cases hlt : j < s.size
    · have hx := bt_at hlt
      obtain ⟨x, hxx⟩ : ∃ x, (s[j]).toNat = x := ⟨_, rfl⟩
      rw [hxx] at hx
      have HB2 := Lib.hid (fun W => HB.out x W)
      cases hb : blnk x with
      | true =>
        rw [hb] at HB2
        have HM2 : Hid (i ≤ j + 1 ∧ ∀ m, i ≤ m → m < j + 1 → blnk (bt s m) = true) := Lib.hid ⟨by have := HM.out.1; omega, fun m h1 h2 => by
          by_cases e : m = j
          · rw [e, hx]; exact hb
          · exact HM.out.2 m h1 (by omega)⟩
        have f1 : wrap64 ((j : Int) + 1) = (j : Int) + 1 := by unfold wrap64; omega
        clear hx hb HB HM
        go_wp2_with fail
        refine (HB2.out _).mono ?_
        rintro r w1 ⟨rfl, rfl⟩
        go_wp2_with fail
        go_roundw
        case rel => exact ⟨j + 1, by omega, by go_num, HM2, by first | rfl | trivial⟩
        case measure => simp [intOf]; omega
      | false =>
        rw [hb] at HB2
        have HV : Hid (J = j) := Lib.hid (by rw [← HJ.out]; exact sk_of HM.out.1 (Nat.le_of_lt hlt) HM.out.2 fun _ => by rw [hx]; exact hb)
        clear hx hb HB HM
        go_wp2_with fail
        refine (HB2.out _).mono ?_
        rintro r w1 ⟨rfl, rfl⟩
        go_wp2_with fail
        go_ret
        exact ⟨by rw [HV.out]; rfl, rfl⟩
    · obtain rfl : j = s.size := by omega
      have HV : Hid (J = s.size) := Lib.hid (by rw [← HJ.out]; exact sk_of HM.out.1 (Nat.le_refl _) HM.out.2 fun h => absurd h (by omega))
      clear HB HM hlt
      go_wp2_with fail
      go_ret
      exact ⟨by rw [HV.out]; rfl, rfl⟩
set_option maxRecDepth 100000 in
theorem twordOf_any (c : Nat) (w : World) (hc : c = 110 ∨ c = 116 ∨ c = 102) : Calls Try.prog 22 #[.int .u8 (c : Int)] w fun e w' => e = .returned (.string (wd c)) ∧ w = w' := by
  rcases hc with rfl | rfl | rfl
  all_goals
    go_enter Try.func22, Try.ntmps22
    go_wp2_with fail
    go_ret
    exact ⟨rfl, rfl⟩
def flV (R : Rs Nat) : Value := match R with | .ok _ k => .tuple #[.int .i64 (k : Int), .int .i64 0] | .no q e => .tuple #[.int .i64 (q : Int), .int .i64 (e : Int)]
set_option maxRecDepth 100000 in
set_option maxHeartbeats 4000000 in
theorem tfollow_any (s t : ByteArray) (w : World) (hs : s.size ≤ 4611686018427387904) (_ : t.size ≤ 100) :
    Calls Try.prog 23 #[.string s, .string t] w fun e w' => e = .returned (flV (flR (bt s) s.size (bt t) t.size 0)) ∧ Below w.heap.size w w' := by
  obtain ⟨R, hR⟩ : ∃ R, flR (bt s) s.size (bt t) t.size 0 = R := ⟨_, rfl⟩
  have HR := Lib.hid hR
  rw [hR]
  clear hR
  go_enter Try.func23, Try.ntmps23
  go_wp2_with fail
  go_loopw [9] (fun s9 wr => ∃ j : Nat, j ≤ t.size ∧ s9 = .int .i64 (j : Int) ∧ j ≤ s.size ∧ Hid (flR (bt s) s.size (bt t) (t.size - j) j = R) ∧ Hid (Below w.heap.size w wr)) (fun s9 _ => t.size - (intOf s9).toNat)
  case atStart => exact ⟨0, Nat.zero_le _, rfl, Nat.zero_le _, HR, Lib.hid (Below.refl _ _)⟩
  case round =>
    obtain ⟨j, hj, rfl, hjs, HS, HB⟩ := hrel
    by_cases hlt : j < t.size
    · have HT := HS.out
      rw [show t.size - j = (t.size - (j + 1)) + 1 by omega, flR] at HT
      by_cases hls : j < s.size
      · have hx := bt_at hls
        have hy := bt_at hlt
        obtain ⟨x, hxx⟩ : ∃ x, (s[j]).toNat = x := ⟨_, rfl⟩
        obtain ⟨y, hyy⟩ : ∃ y, (t[j]).toNat = y := ⟨_, rfl⟩
        rw [hxx] at hx
        rw [hyy] at hy
        rw [if_neg (by omega), hx, hy] at HT
        have q0 : ((j : Int) == (s.size : Int)) = false := by simp; omega
        by_cases hxy : x = y
        · rw [if_pos hxy] at HT
          have HT2 := Lib.hid HT
          have q1 : ((x : Int) != (y : Int)) = false := by simp; omega
          clear HT HS hx hy hxy
          go_wp2_with fail
          go_quiet (fail)
          go_wp2_with fail
          go_roundw
          case rel => exact ⟨j + 1, by omega, by go_num, by omega, HT2, by first | exact HB | exact Lib.hid (drew_below HB.out _)⟩
          case measure => simp [intOf]; omega
        · rw [if_neg hxy] at HT
          have HT2 := Lib.hid HT
          have q1 : ((x : Int) != (y : Int)) = true := by simp; omega
          clear HT HS hx hy hxy
          go_wp2_with fail
          go_quiet (fail)
          go_wp2_with fail
          exact bodyPost_ret (v := .tuple #[.int .i64 (j : Int), .int .i64 4]) (by simp [results, Try.results23, go_sem]) rfl ⟨by rw [← HT2.out]; rfl, by first | exact HB.out | exact drew_below HB.out _⟩
      · have HT2 : Hid (R = .no s.size 3) := Lib.hid (by rw [if_pos (by omega)] at HT; exact HT.symm)
        obtain rfl : j = s.size := by omega
        clear HT HS hls
        go_wp2_with fail
        exact bodyPost_ret (v := .tuple #[.int .i64 (s.size : Int), .int .i64 3]) (by simp [results, Try.results23, go_sem]) rfl ⟨by rw [HT2.out]; rfl, HB.out⟩
    · obtain rfl : j = t.size := by omega
      have HT2 : Hid (R = .ok 0 t.size) := Lib.hid (by have h7 := HS.out; rw [Nat.sub_self] at h7; exact h7.symm)
      clear HS hlt
      go_wp2_with fail
      exact bodyPost_ret (v := .tuple #[.int .i64 (t.size : Int), .int .i64 0]) (by simp [results, Try.results23, go_sem]) rfl ⟨by rw [HT2.out]; rfl, HB.out⟩
set_option maxRecDepth 100000 in
theorem tclone_any (s : ByteArray) (w : World) (hs : s.size ≤ 281474976710656) : Calls Try.prog 26 #[.string s] w fun e w' => e = .returned (.string s) ∧ Below w.heap.size w w' := by
  have HC := Lib.hid (Try.stringslite_Clone s w hs)
  go_enter Try.func26, Try.ntmps26
  go_wp2_with fail
  refine HC.out.mono ?_
  rintro r w1 ⟨rfl, h1⟩
  go_wp2_with fail
  go_ret
  exact ⟨rfl, h1⟩
end Go.Proofs.Ytaopjeobapnhbaa.nn
namespace Go.Proofs.Ytaopjeobapnhbaa.nn
open Go.RowKit

def TkV (k a b : Nat) (t : ByteArray) : Value := .agg #[.int .u8 (k : Int), .int .i64 (a : Int), .int .i64 (b : Int), .string t]
/-- a result of type Token, not yet written, in block g -/
def Tt (W : World) (g : Nat) : Prop :=
  (W.cell? ⟨g, 0, none⟩ = some (.int .u8 0) ∧ W.frozen? ⟨g, 0, none⟩ = false) ∧ (W.cell? ⟨g, 1, none⟩ = some (.int .i64 0) ∧ W.frozen? ⟨g, 1, none⟩ = false) ∧
  (W.cell? ⟨g, 2, none⟩ = some (.int .i64 0) ∧ W.frozen? ⟨g, 2, none⟩ = false) ∧ (W.cell? ⟨g, 3, none⟩ = some (.string ⟨#[]⟩) ∧ W.frozen? ⟨g, 3, none⟩ = false)
theorem Tt.of {W : World} {g : Nat} {T : TypeId} (h : W.heap[g]? = some (.cells #[.int .u8 0, .int .i64 0, .int .i64 0, .string ⟨#[]⟩] T (0, 0))) : Tt W g := by
  have hf : ∀ i, W.frozen? ⟨g, i, none⟩ = false := fun i => by simp [World.frozen?, h]
  exact ⟨⟨cell_of_row _ _ 0 _ _ _ h, hf 0⟩, ⟨cell_of_row _ _ 1 _ _ _ h, hf 1⟩, ⟨cell_of_row _ _ 2 _ _ _ h, hf 2⟩, ⟨cell_of_row _ _ 3 _ _ _ h, hf 3⟩⟩
theorem below_set4 {B g : Nat} {w W : World} (h : Below B w W) (hg : B ≤ g) (a b c d : Value) :
    Below B w ((((W.setCell ⟨g, 0, none⟩ a).setCell ⟨g, 1, none⟩ b).setCell ⟨g, 2, none⟩ c).setCell ⟨g, 3, none⟩ d) :=
  (((h.setCell hg _).setCell hg _).setCell hg _).setCell hg _
/-- what read answers -/
def RdAns (R : Rs (Nat × ByteArray)) (w : World) (e : Ending) (w' : World) : Prop :=
  (match R with
  | .ok x p => e = .returned (.tuple #[TkV x.1 0 0 x.2, .int .i64 (p : Int), .int .i64 0])
  | .no q er => ∃ k t, e = .returned (.tuple #[TkV k 0 0 t, .int .i64 (q : Int), .int .i64 (er : Int)])) ∧ Below w.heap.size w w'
theorem RdAns.ok {R : Rs (Nat × ByteArray)} {w w' : World} {k p : Nat} {t : ByteArray} (h : R = .ok (k, t) p) (hb : Below w.heap.size w w') : RdAns R w (.returned (.tuple #[TkV k 0 0 t, .int .i64 (p : Int), .int .i64 0])) w' := by
  subst h; exact ⟨rfl, hb⟩
theorem RdAns.no {R : Rs (Nat × ByteArray)} {w w' : World} {k q e : Nat} {t : ByteArray} (h : R = .no q e) (hb : Below w.heap.size w w') : RdAns R w (.returned (.tuple #[TkV k 0 0 t, .int .i64 (q : Int), .int .i64 (e : Int)])) w' := by
  subst h; exact ⟨⟨k, t, rfl⟩, hb⟩
/-- a sign's or a word's answer -/
def fwR (c : Nat) (F : Rs Nat) : Rs (Nat × ByteArray) := match F with | .ok _ k => .ok (c, ⟨#[]⟩) k | .no q e => .no q e
/-- a string's answer -/
def stR (S : Rs (List UInt8)) : Rs (Nat × ByteArray) := match S with | .ok L k => .ok (83, ⟨L.toArray⟩) k | .no q e => .no q e
theorem flV_form (F : Rs Nat) : ∃ q e : Nat, flV F = .tuple #[.int .i64 (q : Int), .int .i64 (e : Int)] ∧ ∀ (c : Nat) (w w' : World), (∀ q' e', F = .no q' e' → e' ≠ 0) → Below w.heap.size w w' → RdAns (fwR c F) w (.returned (.tuple #[TkV c 0 0 ⟨#[]⟩, .int .i64 (q : Int), .int .i64 (e : Int)])) w' := by
  cases F with
  | ok u k => exact ⟨k, 0, rfl, fun c w w' _ hb => RdAns.ok (k := c) rfl hb⟩
  | no q e => exact ⟨q, e, rfl, fun c w w' _ hb => RdAns.no (k := c) rfl hb⟩
theorem ext_one {s : ByteArray} {c : Nat} (h : 0 < s.size) (hc : (s[0]).toNat = c) : s.extract 0 1 = ⟨#[UInt8.ofNat c]⟩ := by
  have hz : (s.extract 0 1).size = 1 := by rw [ByteArray.size_extract]; omega
  have e : (s.extract 0 1).data.toList = [UInt8.ofNat c] := by
    rw [raw_ext (by omega)]
    simp only [raw, List.range_one, List.map_cons, List.map_nil, Nat.zero_add]
    rw [bt_at h, hc]
  apply ByteArray.ext
  exact Array.ext' e
section
variable {w : World}
set_option maxRecDepth 100000 in
set_option maxHeartbeats 8000000 in
theorem tread_any (s : ByteArray) (hs : s.size ≤ 140737488355000) : Calls Try.prog 14 #[.string s] w (RdAns (rdR s) w) := by
  obtain ⟨W0, hW0⟩ : ∃ W0, w.alloc (.cells #[.int .u8 0, .int .i64 0, .int .i64 0, .string ⟨#[]⟩] 23) = W0 := ⟨_, rfl⟩
  have k0 : W0.heap[w.heap.size]? = some (.cells #[.int .u8 0, .int .i64 0, .int .i64 0, .string ⟨#[]⟩] 23 (0, 0)) := by rw [← hW0]; exact heap_alloc_last _ _
  have hb0 : Below w.heap.size w W0 := by rw [← hW0]; exact (Below.refl _ _).alloc (Nat.le_refl _) _
  have hlt0 : w.heap.size < W0.heap.size := by rw [← hW0]; simp
  have HZB : Hid (∀ W, Below W0.heap.size W0 W → Tt W w.heap.size ∧ Below w.heap.size w W) := Lib.hid fun W h => ⟨Tt.of ((h.block w.heap.size hlt0).trans k0), hb0.trans (h.mono (Nat.le_of_lt hlt0))⟩
  have HW0 := Lib.hid hW0
  obtain ⟨R, hR⟩ : ∃ R, rdR s = R := ⟨_, rfl⟩
  have HR := Lib.hid hR
  rw [hR]
  clear hR hW0 k0 hb0 hlt0
  by_cases hz : s.size = 0
  · have HV : Hid (R = .ok (0, ⟨#[]⟩) 0) := Lib.hid (by rw [← HR.out]; unfold rdR; rw [if_pos hz])
    have g0 := es_none hz
    obtain ⟨⟨⟨bc0, bf0⟩, ⟨bc1, bf1⟩, ⟨bc2, bf2⟩, ⟨bc3, bf3⟩⟩, hbw⟩ := HZB.out _ (Below.refl _ _)
    have HBW := Lib.hid hbw
    clear hz HR hbw HZB
    go_enter Try.func14, Try.ntmps14
    go_upto_region 1 with fail
    rw [HW0.out]
    go_wp2_with fail
    exact bodyPost_ret (v := .tuple #[TkV 0 0 0 ⟨#[]⟩, .int .i64 0, .int .i64 0]) (by simp [results, Try.results14, go_sem, TkV, bc0, bc1, bc2, bc3]) rfl (RdAns.ok (k := 0) (p := 0) HV.out (by first | exact below_set4 HBW.out (Nat.le_refl _) _ _ _ _ | exact Below.drew (below_set4 HBW.out (Nat.le_refl _) _ _ _ _)))
  have g0 := es_some (Nat.pos_of_ne_zero hz)
  have hlt : 0 < s.size := Nat.pos_of_ne_zero hz
  have g1 : (1 : Int) ≤ (s.size : Int) := by omega
  have hx := bt_at hlt
  obtain ⟨x, hxx⟩ : ∃ x, (s[0]).toNat = x := ⟨_, rfl⟩
  have HX1 := Lib.hid (ext_one hlt hxx)
  rw [hxx] at hx
  have hx256 : x < 256 := by rw [← hxx]; exact s[0].toNat_lt
  have HR2 : Hid ((if isW x = true then fwR x (flR (bt s) s.size (bt (wd x)) (wd x).size 0)
    else if x = 34 then (match scanP (bt s) s.size 0 with | .ok L k => .ok (83, ⟨L.toArray⟩) k | .no q e => .no q e)
    else if nme s = 0 then .ok (78, s.extract 0 (nmp s)) (nmp s) else .no (nmp s) (nme s)) = R) := Lib.hid (by
    have h7 := HR.out
    unfold rdR at h7
    rw [if_neg hz, hx] at h7
    exact h7)
  have HF : Hid (∀ t : ByteArray, t.size ≤ 100 → ∀ W, Calls Try.prog 23 #[.string s, .string t] W fun e w' => e = .returned (flV (flR (bt s) s.size (bt t) t.size 0)) ∧ Below W.heap.size W w') := Lib.hid fun t ht W => tfollow_any s t W (by omega) ht
  have hne : ∀ q e, flR (bt s) s.size (bt (wd x)) (wd x).size 0 = .no q e → e ≠ 0 := fun q e h => by have := (fl_no (Nat.zero_le _) h).1; omega
  clear HR hz hx
  by_cases hx110 : x = 110
  · subst hx110
    have HV : Hid (fwR 110 (flR (bt s) s.size (bt (wd 110)) (wd 110).size 0) = R) := Lib.hid (by have h7 := HR2.out; rw [if_pos (by decide)] at h7; exact h7)
    obtain ⟨q, e, hfl, hfin⟩ := flV_form (flR (bt s) s.size (bt (wd 110)) (wd 110).size 0)
    have HFIN : Hid (∀ w', Below w.heap.size w w' → RdAns R w (.returned (.tuple #[TkV 110 0 0 ⟨#[]⟩, .int .i64 (q : Int), .int .i64 (e : Int)])) w') := Lib.hid fun w' hb => by have := hfin 110 w w' hne hb; rwa [HV.out] at this
    have HF2 := Lib.hid (fun W => HF.out (wd 110) (by decide) W)
    rw [hfl] at HF2
    have HWD := Lib.hid (fun W => twordOf_any 110 W (by omega))
    clear hx256 HX1 HR2 HF HV hfl hfin hne
    go_enter Try.func14, Try.ntmps14
    go_upto_region 1 with fail
    rw [HW0.out]
    clear HW0
    go_wp2_with fail
    go_quiet (fail)
    go_wp2_with fail
    refine (HWD.out _).mono ?_
    rintro r w1 ⟨rfl, rfl⟩
    go_wp2_with fail
    refine (HF2.out _).mono ?_
    rintro r w2 ⟨rfl, b2⟩
    have HB1 : Hid (Below W0.heap.size W0 w2) := Lib.hid (by first | exact b2 | exact (drew_below (Below.refl _ _) _).trans b2)
    clear b2 HF2
    obtain ⟨⟨⟨bc0, bf0⟩, ⟨bc1, bf1⟩, ⟨bc2, bf2⟩, ⟨bc3, bf3⟩⟩, hbw⟩ := HZB.out _ HB1.out
    have HBW := Lib.hid hbw
    clear hbw HZB
    go_wp2_with fail
    exact bodyPost_ret (v := .tuple #[TkV 110 0 0 ⟨#[]⟩, .int .i64 (q : Int), .int .i64 (e : Int)]) (by simp [results, Try.results14, go_sem, TkV, bc0, bc1, bc2, bc3]) rfl (HFIN.out _ (by first | exact below_set4 HBW.out (Nat.le_refl _) _ _ _ _ | exact Below.drew (below_set4 HBW.out (Nat.le_refl _) _ _ _ _)))
  by_cases hx116 : x = 116
  · subst hx116
    have HV : Hid (fwR 116 (flR (bt s) s.size (bt (wd 116)) (wd 116).size 0) = R) := Lib.hid (by have h7 := HR2.out; rw [if_pos (by decide)] at h7; exact h7)
    obtain ⟨q, e, hfl, hfin⟩ := flV_form (flR (bt s) s.size (bt (wd 116)) (wd 116).size 0)
    have HFIN : Hid (∀ w', Below w.heap.size w w' → RdAns R w (.returned (.tuple #[TkV 116 0 0 ⟨#[]⟩, .int .i64 (q : Int), .int .i64 (e : Int)])) w') := Lib.hid fun w' hb => by have := hfin 116 w w' hne hb; rwa [HV.out] at this
    have HF2 := Lib.hid (fun W => HF.out (wd 116) (by decide) W)
    rw [hfl] at HF2
    have HWD := Lib.hid (fun W => twordOf_any 116 W (by omega))
    clear hx256 HX1 HR2 HF HV hfl hfin hne
    go_enter Try.func14, Try.ntmps14
    go_upto_region 1 with fail
    rw [HW0.out]
    clear HW0
    go_wp2_with fail
    go_quiet (fail)
    go_wp2_with fail
    refine (HWD.out _).mono ?_
    rintro r w1 ⟨rfl, rfl⟩
    go_wp2_with fail
    refine (HF2.out _).mono ?_
    rintro r w2 ⟨rfl, b2⟩
    have HB1 : Hid (Below W0.heap.size W0 w2) := Lib.hid (by first | exact b2 | exact (drew_below (Below.refl _ _) _).trans b2)
    clear b2 HF2
    obtain ⟨⟨⟨bc0, bf0⟩, ⟨bc1, bf1⟩, ⟨bc2, bf2⟩, ⟨bc3, bf3⟩⟩, hbw⟩ := HZB.out _ HB1.out
    have HBW := Lib.hid hbw
    clear hbw HZB
    go_wp2_with fail
    exact bodyPost_ret (v := .tuple #[TkV 116 0 0 ⟨#[]⟩, .int .i64 (q : Int), .int .i64 (e : Int)]) (by simp [results, Try.results14, go_sem, TkV, bc0, bc1, bc2, bc3]) rfl (HFIN.out _ (by first | exact below_set4 HBW.out (Nat.le_refl _) _ _ _ _ | exact Below.drew (below_set4 HBW.out (Nat.le_refl _) _ _ _ _)))
  by_cases hx102 : x = 102
  · subst hx102
    have HV : Hid (fwR 102 (flR (bt s) s.size (bt (wd 102)) (wd 102).size 0) = R) := Lib.hid (by have h7 := HR2.out; rw [if_pos (by decide)] at h7; exact h7)
    obtain ⟨q, e, hfl, hfin⟩ := flV_form (flR (bt s) s.size (bt (wd 102)) (wd 102).size 0)
    have HFIN : Hid (∀ w', Below w.heap.size w w' → RdAns R w (.returned (.tuple #[TkV 102 0 0 ⟨#[]⟩, .int .i64 (q : Int), .int .i64 (e : Int)])) w') := Lib.hid fun w' hb => by have := hfin 102 w w' hne hb; rwa [HV.out] at this
    have HF2 := Lib.hid (fun W => HF.out (wd 102) (by decide) W)
    rw [hfl] at HF2
    have HWD := Lib.hid (fun W => twordOf_any 102 W (by omega))
    clear hx256 HX1 HR2 HF HV hfl hfin hne
    go_enter Try.func14, Try.ntmps14
    go_upto_region 1 with fail
    rw [HW0.out]
    clear HW0
    go_wp2_with fail
    go_quiet (fail)
    go_wp2_with fail
    refine (HWD.out _).mono ?_
    rintro r w1 ⟨rfl, rfl⟩
    go_wp2_with fail
    refine (HF2.out _).mono ?_
    rintro r w2 ⟨rfl, b2⟩
    have HB1 : Hid (Below W0.heap.size W0 w2) := Lib.hid (by first | exact b2 | exact (drew_below (Below.refl _ _) _).trans b2)
    clear b2 HF2
    obtain ⟨⟨⟨bc0, bf0⟩, ⟨bc1, bf1⟩, ⟨bc2, bf2⟩, ⟨bc3, bf3⟩⟩, hbw⟩ := HZB.out _ HB1.out
    have HBW := Lib.hid hbw
    clear hbw HZB
    go_wp2_with fail
    exact bodyPost_ret (v := .tuple #[TkV 102 0 0 ⟨#[]⟩, .int .i64 (q : Int), .int .i64 (e : Int)]) (by simp [results, Try.results14, go_sem, TkV, bc0, bc1, bc2, bc3]) rfl (HFIN.out _ (by first | exact below_set4 HBW.out (Nat.le_refl _) _ _ _ _ | exact Below.drew (below_set4 HBW.out (Nat.le_refl _) _ _ _ _)))
  by_cases hx91 : x = 91
  · subst hx91
    have HV : Hid (fwR 91 (flR (bt s) s.size (bt (wd 91)) (wd 91).size 0) = R) := Lib.hid (by have h7 := HR2.out; rw [if_pos (by decide)] at h7; exact h7)
    obtain ⟨q, e, hfl, hfin⟩ := flV_form (flR (bt s) s.size (bt (wd 91)) (wd 91).size 0)
    have HFIN : Hid (∀ w', Below w.heap.size w w' → RdAns R w (.returned (.tuple #[TkV 91 0 0 ⟨#[]⟩, .int .i64 (q : Int), .int .i64 (e : Int)])) w') := Lib.hid fun w' hb => by have := hfin 91 w w' hne hb; rwa [HV.out] at this
    have HF2 := Lib.hid (fun W => HF.out (wd 91) (by decide) W)
    rw [hfl] at HF2
    have hex : s.extract 0 1 = wd 91 := HX1.out
    clear hx256 HX1 HR2 HF HV hfl hfin hne
    go_enter Try.func14, Try.ntmps14
    go_upto_region 1 with fail
    rw [HW0.out]
    clear HW0
    go_wp2_with fail
    go_quiet (fail)
    go_wp2_with fail
    refine (HF2.out _).mono ?_
    rintro r w2 ⟨rfl, b2⟩
    have HB1 : Hid (Below W0.heap.size W0 w2) := Lib.hid (by first | exact b2 | exact (drew_below (Below.refl _ _) _).trans b2)
    clear b2 HF2
    obtain ⟨⟨⟨bc0, bf0⟩, ⟨bc1, bf1⟩, ⟨bc2, bf2⟩, ⟨bc3, bf3⟩⟩, hbw⟩ := HZB.out _ HB1.out
    have HBW := Lib.hid hbw
    clear hbw HZB
    go_wp2_with fail
    exact bodyPost_ret (v := .tuple #[TkV 91 0 0 ⟨#[]⟩, .int .i64 (q : Int), .int .i64 (e : Int)]) (by simp [results, Try.results14, go_sem, TkV, bc0, bc1, bc2, bc3]) rfl (HFIN.out _ (by first | exact below_set4 HBW.out (Nat.le_refl _) _ _ _ _ | exact Below.drew (below_set4 HBW.out (Nat.le_refl _) _ _ _ _)))
  by_cases hx93 : x = 93
  · subst hx93
    have HV : Hid (fwR 93 (flR (bt s) s.size (bt (wd 93)) (wd 93).size 0) = R) := Lib.hid (by have h7 := HR2.out; rw [if_pos (by decide)] at h7; exact h7)
    obtain ⟨q, e, hfl, hfin⟩ := flV_form (flR (bt s) s.size (bt (wd 93)) (wd 93).size 0)
    have HFIN : Hid (∀ w', Below w.heap.size w w' → RdAns R w (.returned (.tuple #[TkV 93 0 0 ⟨#[]⟩, .int .i64 (q : Int), .int .i64 (e : Int)])) w') := Lib.hid fun w' hb => by have := hfin 93 w w' hne hb; rwa [HV.out] at this
    have HF2 := Lib.hid (fun W => HF.out (wd 93) (by decide) W)
    rw [hfl] at HF2
    have hex : s.extract 0 1 = wd 93 := HX1.out
    clear hx256 HX1 HR2 HF HV hfl hfin hne
    go_enter Try.func14, Try.ntmps14
    go_upto_region 1 with fail
    rw [HW0.out]
    clear HW0
    go_wp2_with fail
    go_quiet (fail)
    go_wp2_with fail
    refine (HF2.out _).mono ?_
    rintro r w2 ⟨rfl, b2⟩
    have HB1 : Hid (Below W0.heap.size W0 w2) := Lib.hid (by first | exact b2 | exact (drew_below (Below.refl _ _) _).trans b2)
    clear b2 HF2
    obtain ⟨⟨⟨bc0, bf0⟩, ⟨bc1, bf1⟩, ⟨bc2, bf2⟩, ⟨bc3, bf3⟩⟩, hbw⟩ := HZB.out _ HB1.out
    have HBW := Lib.hid hbw
    clear hbw HZB
    go_wp2_with fail
    exact bodyPost_ret (v := .tuple #[TkV 93 0 0 ⟨#[]⟩, .int .i64 (q : Int), .int .i64 (e : Int)]) (by simp [results, Try.results14, go_sem, TkV, bc0, bc1, bc2, bc3]) rfl (HFIN.out _ (by first | exact below_set4 HBW.out (Nat.le_refl _) _ _ _ _ | exact Below.drew (below_set4 HBW.out (Nat.le_refl _) _ _ _ _)))
  by_cases hx123 : x = 123
  · subst hx123
    have HV : Hid (fwR 123 (flR (bt s) s.size (bt (wd 123)) (wd 123).size 0) = R) := Lib.hid (by have h7 := HR2.out; rw [if_pos (by decide)] at h7; exact h7)
    obtain ⟨q, e, hfl, hfin⟩ := flV_form (flR (bt s) s.size (bt (wd 123)) (wd 123).size 0)
    have HFIN : Hid (∀ w', Below w.heap.size w w' → RdAns R w (.returned (.tuple #[TkV 123 0 0 ⟨#[]⟩, .int .i64 (q : Int), .int .i64 (e : Int)])) w') := Lib.hid fun w' hb => by have := hfin 123 w w' hne hb; rwa [HV.out] at this
    have HF2 := Lib.hid (fun W => HF.out (wd 123) (by decide) W)
    rw [hfl] at HF2
    have hex : s.extract 0 1 = wd 123 := HX1.out
    clear hx256 HX1 HR2 HF HV hfl hfin hne
    go_enter Try.func14, Try.ntmps14
    go_upto_region 1 with fail
    rw [HW0.out]
    clear HW0
    go_wp2_with fail
    go_quiet (fail)
    go_wp2_with fail
    refine (HF2.out _).mono ?_
    rintro r w2 ⟨rfl, b2⟩
    have HB1 : Hid (Below W0.heap.size W0 w2) := Lib.hid (by first | exact b2 | exact (drew_below (Below.refl _ _) _).trans b2)
    clear b2 HF2
    obtain ⟨⟨⟨bc0, bf0⟩, ⟨bc1, bf1⟩, ⟨bc2, bf2⟩, ⟨bc3, bf3⟩⟩, hbw⟩ := HZB.out _ HB1.out
    have HBW := Lib.hid hbw
    clear hbw HZB
    go_wp2_with fail
    exact bodyPost_ret (v := .tuple #[TkV 123 0 0 ⟨#[]⟩, .int .i64 (q : Int), .int .i64 (e : Int)]) (by simp [results, Try.results14, go_sem, TkV, bc0, bc1, bc2, bc3]) rfl (HFIN.out _ (by first | exact below_set4 HBW.out (Nat.le_refl _) _ _ _ _ | exact Below.drew (below_set4 HBW.out (Nat.le_refl _) _ _ _ _)))
  by_cases hx125 : x = 125
  · subst hx125
    have HV : Hid (fwR 125 (flR (bt s) s.size (bt (wd 125)) (wd 125).size 0) = R) := Lib.hid (by have h7 := HR2.out; rw [if_pos (by decide)] at h7; exact h7)
    obtain ⟨q, e, hfl, hfin⟩ := flV_form (flR (bt s) s.size (bt (wd 125)) (wd 125).size 0)
    have HFIN : Hid (∀ w', Below w.heap.size w w' → RdAns R w (.returned (.tuple #[TkV 125 0 0 ⟨#[]⟩, .int .i64 (q : Int), .int .i64 (e : Int)])) w') := Lib.hid fun w' hb => by have := hfin 125 w w' hne hb; rwa [HV.out] at this
    have HF2 := Lib.hid (fun W => HF.out (wd 125) (by decide) W)
    rw [hfl] at HF2
    have hex : s.extract 0 1 = wd 125 := HX1.out
    clear hx256 HX1 HR2 HF HV hfl hfin hne
    go_enter Try.func14, Try.ntmps14
    go_upto_region 1 with fail
    rw [HW0.out]
    clear HW0
    go_wp2_with fail
    go_quiet (fail)
    go_wp2_with fail
    refine (HF2.out _).mono ?_
    rintro r w2 ⟨rfl, b2⟩
    have HB1 : Hid (Below W0.heap.size W0 w2) := Lib.hid (by first | exact b2 | exact (drew_below (Below.refl _ _) _).trans b2)
    clear b2 HF2
    obtain ⟨⟨⟨bc0, bf0⟩, ⟨bc1, bf1⟩, ⟨bc2, bf2⟩, ⟨bc3, bf3⟩⟩, hbw⟩ := HZB.out _ HB1.out
    have HBW := Lib.hid hbw
    clear hbw HZB
    go_wp2_with fail
    exact bodyPost_ret (v := .tuple #[TkV 125 0 0 ⟨#[]⟩, .int .i64 (q : Int), .int .i64 (e : Int)]) (by simp [results, Try.results14, go_sem, TkV, bc0, bc1, bc2, bc3]) rfl (HFIN.out _ (by first | exact below_set4 HBW.out (Nat.le_refl _) _ _ _ _ | exact Below.drew (below_set4 HBW.out (Nat.le_refl _) _ _ _ _)))
  by_cases hx58 : x = 58
  · subst hx58
    have HV : Hid (fwR 58 (flR (bt s) s.size (bt (wd 58)) (wd 58).size 0) = R) := Lib.hid (by have h7 := HR2.out; rw [if_pos (by decide)] at h7; exact h7)
    obtain ⟨q, e, hfl, hfin⟩ := flV_form (flR (bt s) s.size (bt (wd 58)) (wd 58).size 0)
    have HFIN : Hid (∀ w', Below w.heap.size w w' → RdAns R w (.returned (.tuple #[TkV 58 0 0 ⟨#[]⟩, .int .i64 (q : Int), .int .i64 (e : Int)])) w') := Lib.hid fun w' hb => by have := hfin 58 w w' hne hb; rwa [HV.out] at this
    have HF2 := Lib.hid (fun W => HF.out (wd 58) (by decide) W)
    rw [hfl] at HF2
    have hex : s.extract 0 1 = wd 58 := HX1.out
    clear hx256 HX1 HR2 HF HV hfl hfin hne
    go_enter Try.func14, Try.ntmps14
    go_upto_region 1 with fail
    rw [HW0.out]
    clear HW0
    go_wp2_with fail
    go_quiet (fail)
    go_wp2_with fail
    refine (HF2.out _).mono ?_
    rintro r w2 ⟨rfl, b2⟩
    have HB1 : Hid (Below W0.heap.size W0 w2) := Lib.hid (by first | exact b2 | exact (drew_below (Below.refl _ _) _).trans b2)
    clear b2 HF2
    obtain ⟨⟨⟨bc0, bf0⟩, ⟨bc1, bf1⟩, ⟨bc2, bf2⟩, ⟨bc3, bf3⟩⟩, hbw⟩ := HZB.out _ HB1.out
    have HBW := Lib.hid hbw
    clear hbw HZB
    go_wp2_with fail
    exact bodyPost_ret (v := .tuple #[TkV 58 0 0 ⟨#[]⟩, .int .i64 (q : Int), .int .i64 (e : Int)]) (by simp [results, Try.results14, go_sem, TkV, bc0, bc1, bc2, bc3]) rfl (HFIN.out _ (by first | exact below_set4 HBW.out (Nat.le_refl _) _ _ _ _ | exact Below.drew (below_set4 HBW.out (Nat.le_refl _) _ _ _ _)))
  by_cases hx44 : x = 44
  · subst hx44
    have HV : Hid (fwR 44 (flR (bt s) s.size (bt (wd 44)) (wd 44).size 0) = R) := Lib.hid (by have h7 := HR2.out; rw [if_pos (by decide)] at h7; exact h7)
    obtain ⟨q, e, hfl, hfin⟩ := flV_form (flR (bt s) s.size (bt (wd 44)) (wd 44).size 0)
    have HFIN : Hid (∀ w', Below w.heap.size w w' → RdAns R w (.returned (.tuple #[TkV 44 0 0 ⟨#[]⟩, .int .i64 (q : Int), .int .i64 (e : Int)])) w') := Lib.hid fun w' hb => by have := hfin 44 w w' hne hb; rwa [HV.out] at this
    have HF2 := Lib.hid (fun W => HF.out (wd 44) (by decide) W)
    rw [hfl] at HF2
    have hex : s.extract 0 1 = wd 44 := HX1.out
    clear hx256 HX1 HR2 HF HV hfl hfin hne
    go_enter Try.func14, Try.ntmps14
    go_upto_region 1 with fail
    rw [HW0.out]
    clear HW0
    go_wp2_with fail
    go_quiet (fail)
    go_wp2_with fail
    refine (HF2.out _).mono ?_
    rintro r w2 ⟨rfl, b2⟩
    have HB1 : Hid (Below W0.heap.size W0 w2) := Lib.hid (by first | exact b2 | exact (drew_below (Below.refl _ _) _).trans b2)
    clear b2 HF2
    obtain ⟨⟨⟨bc0, bf0⟩, ⟨bc1, bf1⟩, ⟨bc2, bf2⟩, ⟨bc3, bf3⟩⟩, hbw⟩ := HZB.out _ HB1.out
    have HBW := Lib.hid hbw
    clear hbw HZB
    go_wp2_with fail
    exact bodyPost_ret (v := .tuple #[TkV 44 0 0 ⟨#[]⟩, .int .i64 (q : Int), .int .i64 (e : Int)]) (by simp [results, Try.results14, go_sem, TkV, bc0, bc1, bc2, bc3]) rfl (HFIN.out _ (by first | exact below_set4 HBW.out (Nat.le_refl _) _ _ _ _ | exact Below.drew (below_set4 HBW.out (Nat.le_refl _) _ _ _ _)))
  have hW : isW x = false := by unfold isW; exact decide_eq_false (by omega)
  have HR3 : Hid ((if x = 34 then (match scanP (bt s) s.size 0 with | .ok L k => .ok (83, ⟨L.toArray⟩) k | .no q e => .no q e)
    else if nme s = 0 then .ok (78, s.extract 0 (nmp s)) (nmp s) else .no (nmp s) (nme s)) = R) := Lib.hid (by have h7 := HR2.out; rw [hW, if_neg (by decide)] at h7; exact h7)
  clear HR2 hW HF hne
  by_cases hx34 : x = 34
  · subst hx34
    have HS := Lib.hid (fun W => escan_any s W hs)
    unfold EscAns at HS
    obtain ⟨S, hS⟩ : ∃ S, scanP (bt s) s.size 0 = S := ⟨_, rfl⟩
    have HV : Hid (stR S = R) := Lib.hid (by have h7 := HR3.out; rw [if_pos rfl, hS] at h7; rw [← h7]; cases S <;> rfl)
    rw [hS] at HS
    have HFIN : Hid (∀ w', Below w.heap.size w w' → RdAns R w (.returned (.tuple #[TkV 83 0 0 (rsT S), .int .i64 (rsK S : Int), .int .i64 (rsE S : Int)])) w') := Lib.hid fun w' hb => by
      rw [← HV.out]
      cases S with
      | ok L k => exact RdAns.ok (k := 83) (t := ⟨L.toArray⟩) (p := k) rfl hb
      | no q e => exact RdAns.no (k := 83) (t := ⟨#[]⟩) (q := q) (e := e) rfl hb
    obtain ⟨T, hT⟩ : ∃ T, rsT S = T := ⟨_, rfl⟩
    obtain ⟨K, hK⟩ : ∃ T, rsK S = T := ⟨_, rfl⟩
    obtain ⟨E, hE⟩ : ∃ T, rsE S = T := ⟨_, rfl⟩
    rw [hT, hK, hE] at HS HFIN
    clear hx256 HX1 HR3 HV hS hT hK hE
    go_enter Try.func14, Try.ntmps14
    go_upto_region 1 with fail
    rw [HW0.out]
    clear HW0
    go_wp2_with fail
    go_quiet (fail)
    go_wp2_with fail
    refine (HS.out _).mono ?_
    rintro r w2 ⟨rfl, b2⟩
    have HB1 : Hid (Below W0.heap.size W0 w2) := Lib.hid (by first | exact b2 | exact (drew_below (Below.refl _ _) _).trans b2)
    clear b2 HS
    obtain ⟨⟨⟨bc0, bf0⟩, ⟨bc1, bf1⟩, ⟨bc2, bf2⟩, ⟨bc3, bf3⟩⟩, hbw⟩ := HZB.out _ HB1.out
    have HBW := Lib.hid hbw
    clear hbw HZB
    go_wp2_with fail
    exact bodyPost_ret (v := .tuple #[TkV 83 0 0 T, .int .i64 (K : Int), .int .i64 (E : Int)]) (by simp [results, Try.results14, go_sem, TkV, bc0, bc1, bc2, bc3]) rfl (HFIN.out _ (by first | exact below_set4 HBW.out (Nat.le_refl _) _ _ _ _ | exact Below.drew (below_set4 HBW.out (Nat.le_refl _) _ _ _ _)))
  have HS := Lib.hid (fun W => pscan_any s W (by omega))
  unfold NmAns at HS
  have HNF : Hid (∀ p e w', NmIs s p e → Below w.heap.size w w' → RdAns R w (.returned (.tuple #[TkV 78 0 0 (s.extract 0 p), .int .i64 (p : Int), .int .i64 (e : Int)])) w') := Lib.hid fun p e w' hn hb => by
    obtain ⟨rfl, rfl⟩ := nm_of hn
    have h7 := HR3.out
    rw [if_neg hx34] at h7
    by_cases h0 : nme s = 0
    · rw [if_pos h0] at h7
      rw [h0]
      exact RdAns.ok (k := 78) (t := s.extract 0 (nmp s)) (p := nmp s) h7.symm hb
    · rw [if_neg h0] at h7
      exact RdAns.no (k := 78) (t := s.extract 0 (nmp s)) (q := nmp s) (e := nme s) h7.symm hb
  have HCL : Hid (∀ p W, p ≤ s.size → Calls Try.prog 26 #[.string (s.extract 0 p)] W fun e w' => e = .returned (.string (s.extract 0 p)) ∧ Below W.heap.size W w') := Lib.hid fun p W hp => tclone_any (s.extract 0 p) W (by rw [ByteArray.size_extract]; omega)
  have q110 : ((x : Int) == 110) = false := by simp; omega
  have q116 : ((x : Int) == 116) = false := by simp; omega
  have q102 : ((x : Int) == 102) = false := by simp; omega
  have q91 : ((x : Int) == 91) = false := by simp; omega
  have q93 : ((x : Int) == 93) = false := by simp; omega
  have q123 : ((x : Int) == 123) = false := by simp; omega
  have q125 : ((x : Int) == 125) = false := by simp; omega
  have q58 : ((x : Int) == 58) = false := by simp; omega
  have q44 : ((x : Int) == 44) = false := by simp; omega
  have q34 : ((x : Int) == 34) = false := by simp; omega
  clear hx256 HX1 HR3 hx34 hx110 hx116 hx102 hx91 hx93 hx123 hx125 hx58 hx44
  go_enter Try.func14, Try.ntmps14
  go_upto_region 1 with fail
  rw [HW0.out]
  clear HW0
  go_wp2_with fail
  go_quiet (fail)
  go_wp2_with fail
  refine (HS.out _).mono ?_
  rintro r w2 ⟨p, e, rfl, hn, b2⟩
  have hp : p ≤ s.size := hn.le
  have hpi : (p : Int) ≤ (s.size : Int) := by omega
  have HB2 : Hid (Below W0.heap.size W0 w2) := Lib.hid (by first | exact b2 | exact (drew_below (Below.refl _ _) _).trans b2)
  have HFIN : Hid (∀ w', Below w.heap.size w w' → RdAns R w (.returned (.tuple #[TkV 78 0 0 (s.extract 0 p), .int .i64 (p : Int), .int .i64 (e : Int)])) w') := Lib.hid fun w' => HNF.out p e w' hn
  have HC2 := Lib.hid (fun W => HCL.out p W hp)
  clear b2 HS hn HNF HCL
  go_wp2_with fail
  refine (HC2.out _).mono ?_
  rintro r w3 ⟨rfl, b3⟩
  have HB1 : Hid (Below W0.heap.size W0 w3) := Lib.hid (by first | exact HB2.out.trans (b3.mono HB2.out.size) | exact (drew_below HB2.out _).trans (b3.mono HB2.out.size))
  clear b3 HC2 HB2
  obtain ⟨⟨⟨bc0, bf0⟩, ⟨bc1, bf1⟩, ⟨bc2, bf2⟩, ⟨bc3, bf3⟩⟩, hbw⟩ := HZB.out _ HB1.out
  have HBW := Lib.hid hbw
  clear hbw HZB
  go_wp2_with fail
  exact bodyPost_ret (v := .tuple #[TkV 78 0 0 (s.extract 0 p), .int .i64 (p : Int), .int .i64 (e : Int)]) (by simp [results, Try.results14, go_sem, TkV, bc0, bc1, bc2, bc3]) rfl (HFIN.out _ (by first | exact below_set4 HBW.out (Nat.le_refl _) _ _ _ _ | exact Below.drew (below_set4 HBW.out (Nat.le_refl _) _ _ _ _)))
end
end Go.Proofs.Ytaopjeobapnhbaa.nn
namespace Go.Proofs.Ytaopjeobapnhbaa.nn
open Go.RowKit

def nxV (R : Rs Tk) : Value := match R with | .ok t p => .tuple #[TkV t.k t.a t.b t.t, .int .i64 (p : Int), .int .i64 0] | .no q e => .tuple #[TkV 0 0 0 ⟨#[]⟩, .int .i64 (q : Int), .int .i64 (e : Int)]
def nxO : Value := .tuple #[TkV 0 0 0 ⟨#[]⟩, .int .i64 0, .int .i64 1]
theorem rd_no {s : ByteArray} {q e : Nat} (h : rdR s = .no q e) : e ≠ 0 ∧ q ≤ s.size := by
  unfold rdR at h
  split at h
  · cases h
  · split at h
    · split at h
      · cases h
      · rename_i hf
        injection h with h1 h2
        subst h1 h2
        have := fl_no (Nat.zero_le _) hf
        omega
    · split at h
      · split at h
        · cases h
        · rename_i hf
          injection h with h1 h2
          subst h1 h2
          have h3 := det_no_le det_scan (Nat.zero_le _) hf
          have h4 := eser_scan hf
          omega
      · split at h
        · cases h
        · rename_i hz
          injection h with h1 h2
          subst h1 h2
          exact ⟨hz, nmr_le _ _⟩
section
variable {w : World}
set_option maxRecDepth 100000 in
set_option maxHeartbeats 8000000 in
theorem tnext_out (s : ByteArray) (z : Int) (h : z < 0 ∨ (s.size : Int) < z) : Calls Try.prog 7 #[.string s, .int .i64 z] w fun e w' => e = .returned nxO ∧ Below w.heap.size w w' := by
  obtain ⟨W0, hW0⟩ : ∃ W0, w.alloc (.cells #[.int .u8 0, .int .i64 0, .int .i64 0, .string ⟨#[]⟩] 23) = W0 := ⟨_, rfl⟩
  have k0 : W0.heap[w.heap.size]? = some (.cells #[.int .u8 0, .int .i64 0, .int .i64 0, .string ⟨#[]⟩] 23 (0, 0)) := by rw [← hW0]; exact heap_alloc_last _ _
  have HBW : Hid (Below w.heap.size w W0) := Lib.hid (by rw [← hW0]; exact (Below.refl _ _).alloc (Nat.le_refl _) _)
  have HW0 := Lib.hid hW0
  obtain ⟨⟨bc0, bf0⟩, ⟨bc1, bf1⟩, ⟨bc2, bf2⟩, ⟨bc3, bf3⟩⟩ := Tt.of k0
  have hg : decide (z < 0) = true ∨ (decide (z < 0) = false ∧ decide ((s.size : Int) < z) = true) := by
    by_cases h1 : z < 0
    · exact .inl (decide_eq_true h1)
    · exact .inr ⟨decide_eq_false h1, decide_eq_true (by omega)⟩
  clear hW0 k0 h
  rcases hg with g1 | ⟨g1, g2⟩
  all_goals
    go_enter Try.func7, Try.ntmps7
    go_upto_region 1 with fail
    rw [HW0.out]
    clear HW0
    go_wp2_with fail
    exact bodyPost_ret (v := nxO) (by simp [results, Try.results7, go_sem, nxO, TkV, bc0, bc1, bc2, bc3]) rfl ⟨rfl, by first | exact below_set4 HBW.out (Nat.le_refl _) _ _ _ _ | exact Below.drew (below_set4 HBW.out (Nat.le_refl _) _ _ _ _)⟩
set_option maxRecDepth 100000 in
set_option maxHeartbeats 8000000 in
theorem tnext_any (s : ByteArray) (i : Nat) (hs : s.size ≤ 140737488355000) (hi : i ≤ s.size) : Calls Try.prog 7 #[.string s, .int .i64 (i : Int)] w fun e w' => e = .returned (nxV (nxR s i)) ∧ Below w.heap.size w w' := by
  obtain ⟨W0, hW0⟩ : ∃ W0, w.alloc (.cells #[.int .u8 0, .int .i64 0, .int .i64 0, .string ⟨#[]⟩] 23) = W0 := ⟨_, rfl⟩
  have k0 : W0.heap[w.heap.size]? = some (.cells #[.int .u8 0, .int .i64 0, .int .i64 0, .string ⟨#[]⟩] 23 (0, 0)) := by rw [← hW0]; exact heap_alloc_last _ _
  have hb0 : Below w.heap.size w W0 := by rw [← hW0]; exact (Below.refl _ _).alloc (Nat.le_refl _) _
  have hlt0 : w.heap.size < W0.heap.size := by rw [← hW0]; simp
  have HZB : Hid (∀ W, Below W0.heap.size W0 W → (Tt W w.heap.size ∧ w.heap.size < W.heap.size) ∧ Below w.heap.size w W) := Lib.hid fun W h => ⟨⟨Tt.of ((h.block w.heap.size hlt0).trans k0), Nat.lt_of_lt_of_le hlt0 h.size⟩, hb0.trans (h.mono (Nat.le_of_lt hlt0))⟩
  have HW0 := Lib.hid hW0
  obtain ⟨hj1, hj2⟩ := sk_le (f := bt s) hi
  have HBB := Lib.hid (fun W => tbehind_any s i W (by omega) hi)
  obtain ⟨R, hR⟩ : ∃ R, nxR s i = R := ⟨_, rfl⟩
  have HR := Lib.hid hR
  unfold nxR at HR
  rw [hR]
  obtain ⟨j, hj⟩ : ∃ j, sk (bt s) s.size i = j := ⟨_, rfl⟩
  rw [hj] at hj1 hj2 HBB HR
  have hze : (s.extract j s.size).size = s.size - j := by rw [ByteArray.size_extract]; omega
  have HRD := Lib.hid (fun W => tread_any (w := W) (s.extract j s.size) (by omega))
  have g0 : decide ((i : Int) < 0) = false := decide_eq_false (by omega)
  have g1 : decide ((s.size : Int) < (i : Int)) = false := decide_eq_false (by omega)
  have g2 : (j : Int) ≤ (s.size : Int) := by omega
  unfold RdAns at HRD
  clear hR hW0 k0 hb0 hlt0 hj hi
  cases hr : rdR (s.extract j s.size) with
  | no q e =>
    have he : e ≠ 0 ∧ q ≤ s.size - j := by have := rd_no hr; omega
    have HV : Hid (R = .no (j + q) e) := Lib.hid (by have h7 := HR.out; rw [hr] at h7; exact h7.symm)
    rw [hr] at HRD
    simp only at HRD
    have k1 : ((e : Int) != 0) = true := by simp; omega
    have f1 : wrap64 ((j : Int) + (q : Int)) = (j : Int) + (q : Int) := by unfold wrap64; omega
    clear hr HR he
    go_enter Try.func7, Try.ntmps7
    go_upto_region 1 with fail
    rw [HW0.out]
    clear HW0
    go_wp2_with fail
    refine (HBB.out _).mono ?_
    rintro r w1 ⟨rfl, rfl⟩
    clear HBB
    go_wp2_with fail
    refine (HRD.out _).mono ?_
    rintro r w2 ⟨⟨k, t, rfl⟩, b2⟩
    have HB1 : Hid (Below W0.heap.size W0 w2) := Lib.hid (by first | exact b2 | exact (drew_below (Below.refl _ _) 1).trans b2)
    clear b2 HRD
    unfold TkV
    obtain ⟨⟨⟨⟨bc0, bf0⟩, ⟨bc1, bf1⟩, ⟨bc2, bf2⟩, ⟨bc3, bf3⟩⟩, hl2⟩, hbw⟩ := HZB.out _ HB1.out
    have HBW := Lib.hid hbw
    clear hbw HZB
    go_wp2_with fail
    refine bodyPost_ret (v := .tuple #[TkV 0 0 0 ⟨#[]⟩, .int .i64 ((j : Int) + (q : Int)), .int .i64 (e : Int)]) ?_ rfl ⟨by rw [HV.out]; unfold nxV; push_cast; rfl, ?_⟩
    · simp [results, Try.results7, go_sem, TkV, bc0, bc1, bc2, bc3, f1, hl2]
    · first | exact (below_set4 HBW.out (Nat.le_refl _) _ _ _ _).alloc (by simp; omega) _ | exact Below.drew ((below_set4 HBW.out (Nat.le_refl _) _ _ _ _).alloc (by simp; omega) _)
  | ok x p =>
    obtain ⟨k, t⟩ := x
    have hp := (rd_ok hr).1
    have HV : Hid (R = .ok ⟨k, j, j + p, t⟩ (j + p)) := Lib.hid (by have h7 := HR.out; rw [hr] at h7; exact h7.symm)
    rw [hr] at HRD
    simp only at HRD
    have f1 : wrap64 ((j : Int) + (p : Int)) = (j : Int) + (p : Int) := by unfold wrap64; omega
    clear hr HR hp
    go_enter Try.func7, Try.ntmps7
    go_upto_region 1 with fail
    rw [HW0.out]
    clear HW0
    go_wp2_with fail
    refine (HBB.out _).mono ?_
    rintro r w1 ⟨rfl, rfl⟩
    clear HBB
    go_wp2_with fail
    refine (HRD.out _).mono ?_
    rintro r w2 ⟨rfl, b2⟩
    have HB1 : Hid (Below W0.heap.size W0 w2) := Lib.hid (by first | exact b2 | exact (drew_below (Below.refl _ _) 1).trans b2)
    clear b2 HRD
    unfold TkV
    obtain ⟨⟨⟨⟨bc0, bf0⟩, ⟨bc1, bf1⟩, ⟨bc2, bf2⟩, ⟨bc3, bf3⟩⟩, hl2⟩, hbw⟩ := HZB.out _ HB1.out
    have HBW := Lib.hid hbw
    clear hbw HZB
    go_wp2_with fail
    refine bodyPost_ret (v := .tuple #[TkV k j (j + p) t, .int .i64 ((j : Int) + (p : Int)), .int .i64 0]) ?_ rfl ⟨by rw [HV.out]; unfold nxV; push_cast; rfl, ?_⟩
    · simp [results, Try.results7, go_sem, TkV, bc0, bc1, bc2, bc3, f1, hl2]
    · first | exact (below_set4 HBW.out (Nat.le_refl _) _ _ _ _).alloc (by simp; omega) _ | exact Below.drew ((below_set4 HBW.out (Nat.le_refl _) _ _ _ _).alloc (by simp; omega) _)
end
end Go.Proofs.Ytaopjeobapnhbaa.nn
namespace Go.Proofs.Ytaopjeobapnhbaa.nn
open Go.RowKit

/-- blocks of one's own lie from M on, and are there -/
def Wb (M : Nat) (O : Nat → Prop) (W : World) : Prop := ∀ b, O b → M ≤ b ∧ b < W.heap.size
/-- a step that turns one's own blocks alone (O, behind it O'), and blocks of which E holds -/
structure Mv (E : Nat → Prop) (O : Nat → Prop) (W : World) (O' : Nat → Prop) (W' : World) : Prop where
  os : W'.os = W.os
  tape : W'.tape = W.tape
  output : W'.output = W.output
  size : W.heap.size ≤ W'.heap.size
  more : ∀ b, O b → O' b
  new : ∀ b, O' b → O b ∨ (W.heap.size ≤ b ∧ b < W'.heap.size)
  kept : ∀ b, b < W.heap.size → ¬ O b → ¬ E b → W'.heap[b]? = W.heap[b]?
def No : Nat → Prop := fun _ => False
/-- what a round keeps -/
structure Kr (n₀ : Nat) (O : Nat → Prop) (W W' : World) : Prop where
  b : Below n₀ W W'
  o : ∀ b, O b → W'.heap[b]? = W.heap[b]?
theorem Kr.refl (n₀ : Nat) (O : Nat → Prop) (W : World) : Kr n₀ O W W := ⟨Below.refl _ _, fun _ _ => rfl⟩
theorem Kr.trans {n₀ : Nat} {O : Nat → Prop} {A B C : World} (h : Kr n₀ O A B) (k : Kr n₀ O B C) : Kr n₀ O A C := ⟨h.b.trans k.b, fun b hb => (k.o b hb).trans (h.o b hb)⟩
theorem Mv.trans {E O1 O2 O3 : Nat → Prop} {A B C : World} (h : Mv E O1 A O2 B) (k : Mv E O2 B O3 C) : Mv E O1 A O3 C where
  os := k.os.trans h.os
  tape := k.tape.trans h.tape
  output := k.output.trans h.output
  size := Nat.le_trans h.size k.size
  more := fun b hb => k.more b (h.more b hb)
  new := fun b hb => by
    rcases k.new b hb with h1 | h1
    · rcases h.new b h1 with h2 | h2
      · exact .inl h2
      · exact .inr ⟨h2.1, Nat.lt_of_lt_of_le h2.2 k.size⟩
    · exact .inr ⟨Nat.le_trans h.size h1.1, h1.2⟩
  kept := fun b hb hO hE => by
    have h2 : ¬ O2 b := fun h3 => by
      rcases h.new b h3 with h4 | h4
      · exact hO h4
      · omega
    exact (k.kept b (Nat.lt_of_lt_of_le hb h.size) h2 hE).trans (h.kept b hb hO hE)
theorem Mv.weak {E E' O O' : Nat → Prop} {W W' : World} (h : Mv E O W O' W') (hE : ∀ b, E b → E' b) : Mv E' O W O' W' :=
  ⟨h.os, h.tape, h.output, h.size, h.more, h.new, fun b hb hO hn => h.kept b hb hO fun he => hn (hE b he)⟩
theorem Mv.refl (E O : Nat → Prop) (W : World) : Mv E O W O W := ⟨rfl, rfl, rfl, Nat.le_refl _, fun _ h => h, fun _ h => .inl h, fun _ _ _ _ => rfl⟩
theorem Mv.drew (E O : Nat → Prop) (W : World) : Mv E O W O W.drew := ⟨rfl, rfl, rfl, Nat.le_refl _, fun _ h => h, fun _ h => .inl h, fun _ _ _ _ => rfl⟩
theorem Mv.alloc (E O : Nat → Prop) (W : World) (o : Obj) : Mv E O W (fun b => O b ∨ b = W.heap.size) (W.alloc o) :=
  ⟨rfl, rfl, rfl, by simp, fun _ h => .inl h, fun b h => h.elim .inl fun h => .inr (by subst h; simp), fun b hb _ _ => Below.heap_alloc _ _ _ hb⟩
theorem Mv.put {E O : Nat → Prop} (W : World) {l : Nat} (o : Obj) (hE : E l) : Mv E O W O (W.putObj l o) :=
  ⟨rfl, rfl, rfl, by simp, fun _ h => h, fun _ h => .inl h, fun b _ _ hb => World.putObj_heap_other (fun e => hb (e ▸ hE))⟩
/-- an append (or another step that turns one row) -/
theorem Mv.grown {E O : Nat → Prop} {W W' : World} {row : Option Nat} (hg : W.grownBy W' row) (hr : ∀ k, row = some k → O k) : Mv E O W (fun b => O b ∨ (W.heap.size ≤ b ∧ b < W'.heap.size)) W' :=
  ⟨hg.os, hg.tape, hg.output, hg.size, fun _ h => .inl h, fun _ h => h, fun b hb hO _ => hg.block b hb fun e => hO (hr b e.symm)⟩
theorem Mv.base {E O O' : Nat → Prop} {W W' : World} {M : Nat} (h : Mv E O W O' W') (hb : Wb M O W) (hM : M ≤ W.heap.size) : Wb M O' W' := fun b hO => by
  rcases h.new b hO with h1 | h1
  · have := hb b h1
    exact ⟨this.1, Nat.lt_of_lt_of_le this.2 h.size⟩
  · exact ⟨Nat.le_trans hM h1.1, h1.2⟩
theorem Wb.no (M : Nat) (W : World) : Wb M No W := fun _ h => h.elim
theorem Wb.keep {M : Nat} {O : Nat → Prop} {W W' : World} (h : Wb M O W) (hs : W.heap.size ≤ W'.heap.size) : Wb M O W' := fun b hb => ⟨(h b hb).1, Nat.lt_of_lt_of_le (h b hb).2 hs⟩

theorem RoundIn.any {m m' : Nat} {P : Program} {l : Nat} {f : FuncId} {tmps : Array Value} {assign body : Code} {w : World} {R : Ending → World → Prop}
    (h : RoundIn Fence.wide m P l f tmps assign body w R) : RoundIn Fence.wide m' P l f tmps assign body w R := ⟨h.1, fun c cs _ => h.2 c cs (room_wide _)⟩

def EE (D : Nat) : Nat → Prop := fun b => b = D ∨ b = D + 1

end Go.Proofs.Ytaopjeobapnhbaa.nn
namespace Go.Proofs.Ytaopjeobapnhbaa.nn
open Go.RowKit

/-- one's own blocks, and those that are kept -/
def OZ (O Z : Nat → Prop) : Nat → Prop := fun b => O b ∨ Z b
/-- an iterator that tells xs, and writes blocks of its own alone -/
def GivesZ (P : Program) (g : Nat) (lb : Array Value) (Z : Nat → Prop) {α : Type} (Arg : α → (Nat → Prop) → World → Array Value → Prop) (xs : List α) (n₀ : Nat) (w : World) : Prop :=
  ∀ (l M : Nat) (J : List α → (Nat → Prop) → World → Prop) (Jx : List α → World → Prop) (W : World), Below w.heap.size w W → M = W.heap.size →
    (∀ pre O W1 O' W2, J pre O W1 → Wb M O W1 → Mv No O W1 O' W2 → J pre O' W2) →
    (∀ pre W1 O' W2, Jx pre W1 → Mv No No W1 O' W2 → Jx pre W2) →
    (∀ m pre x O W1 args, J pre O W1 → Wb M O W1 → Arg x O W1 args → (∃ q, xs = pre ++ x :: q) → YieldAt Fence.wide m P l args W1 fun e W2 =>
      (e = .returned (.bool true) ∧ J (pre ++ [x]) O W2 ∧ Kr n₀ (OZ O Z) W1 W2) ∨ (e = .returned (.bool false) ∧ Jx (pre ++ [x]) W2)) →
    J [] No W →
    Calls P g (#[.func (.yield l) #[] #[]] ++ lb) W fun e W' => (∃ v, e = .returned v) ∧ ((∃ O', J xs O' W' ∧ Wb M O' W') ∨ (∃ pre, (∃ q, xs = pre ++ q) ∧ Jx pre W'))

/-- how a round's body may be left -/
def rfPostZ {α : Type} (Z : Nat → Prop) (n₀ D : Nat) (O : Nat → Prop) (I : List α → (Nat → Prop) → World → Prop) (Ix : Code → List α → World → Prop) (xs : List α) (W : World) : Exit → Act → World → Prop
  | .normal, _, W' => (Kr n₀ (OZ O Z) W W' ∧ W'.heap[D]? = W.heap[D]? ∧ W'.heap[D + 1]? = W.heap[D + 1]?) ∧ I xs O W'
  | .ret, _, W' => (W'.heap[D]? = W.heap[D]? ∧ W'.heap[D + 1]? = W.heap[D + 1]?) ∧ Ix .ret xs W'
  | .exit id, _, W' => (W'.heap[D]? = W.heap[D]? ∧ W'.heap[D + 1]? = W.heap[D + 1]?) ∧ Ix (.exit id) xs W'
  | .goto _, _, _ => False
  | .panic _, _, _ => False
  | .outgrown, _, _ => False


set_option maxHeartbeats 1000000 in
theorem rfz_law {Z : Nat → Prop} {P : Program} {n : Nat} {g : Operand} {ps : Array Tmp} {assign body : Code} {Q : Exit → Act → World → Prop} {a : Act} {w : World} {gf : Nat} {lb : Array Value}
    (hg : a.eval g = .func (.func gf) #[] lb) (eg : ∀ args w, (callFunc gf args).run P w = .ok (.enter gf args) w)
    {α : Type} {Arg : α → (Nat → Prop) → World → Array Value → Prop} {xs : List α} {n₀ : Nat} (hseq : GivesZ P gf lb Z Arg xs n₀ w) (hZ : ∀ b, Z b → b < w.heap.size) (hn₀ : n₀ ≤ w.heap.size)
    (hps : ∀ x O W args, Arg x O W args → args.size = ps.size)
    (I : List α → (Nat → Prop) → World → Prop) (Ix : Code → List α → World → Prop)
    (hI : ∀ pre O W O' W', I pre O W → Wb (w.heap.size + 2) O W → Mv (EE w.heap.size) O W O' W' → I pre O' W')
    (hIx : ∀ c pre W O' W', Ix c pre W → Mv (EE w.heap.size) No W O' W' → Ix c pre W')
    (h0 : I [] No w) (Ax : α → (Nat → Prop) → Act → World → Prop)
    (hAx : ∀ x O a' W o, Ax x O a' W → Wb (w.heap.size + 2) O W → Ax x O a' (W.putObj (w.heap.size + 1) o))
    (hassign : ∀ l pre x O W args (K : Act → World → Prop), I pre O W → Wb (w.heap.size + 2) O W → w.heap.size + 2 ≤ W.heap.size → Arg x O W args →
      (∀ a' W', Kr n₀ (OZ O Z) W W' → W'.heap[w.heap.size]? = W.heap[w.heap.size]? → W'.heap[w.heap.size + 1]? = W.heap[w.heap.size + 1]? → I pre O W' → Ax x O a' W' → K a' W') →
      assign.wpIn (Fence.wide.inRound l) 3 P (Exit.then K (fun _ _ _ => False)) { tmps := (ps.zip args).foldl (fun t (p, v) => t.setIfInBounds p v) a.tmps, defers := [] } W)
    (hbody : ∀ l pre x O a' W, I pre O W → Wb (w.heap.size + 2) O W → w.heap.size + 2 ≤ W.heap.size → Ax x O a' W → (∃ q, xs = pre ++ x :: q) → body.wpIn (Fence.wide.inRound l) 3 P (rfPostZ Z n₀ w.heap.size O I Ix (pre ++ [x]) W) a' W)
    (hdone : ∀ O W, I xs O W → W.heap[w.heap.size]? = some (.deferred (some [])) → Q .normal { a with defers := { target := .collected w.heap.size, args := #[] } :: a.defers } W)
    (hstop : ∀ c pre W, (∃ q, xs = pre ++ q) → Ix c pre W → W.heap[w.heap.size]? = some (.deferred (some [])) → c.wpIn Fence.wide n P Q { a with defers := { target := .collected w.heap.size, args := #[] } :: a.defers } W) :
    (Code.rangeFunc g ps assign body).wpIn Fence.wide n P Q a w := by
  refine wpIn_rangeFunc fun fn _ => ?_
  obtain ⟨D, hD⟩ : ∃ D, w.heap.size = D := ⟨_, rfl⟩
  obtain ⟨rec, hrec⟩ : ∃ rec : LoopState → Option Code → Loop, rec = fun st pe => { state := st, pending := pe, fn := fn, tmps := a.tmps, params := ps, assign := assign, body := body, defers := D } := ⟨_, rfl⟩
  have hrp : ∀ st pe, (rec st pe).params = ps := fun _ _ => by rw [hrec]
  have hrs : ∀ st pe, (rec st pe).state = st := fun _ _ => by rw [hrec]
  have hrr : ∀ st pe st' pe', ({ rec st pe with state := st', pending := pe' } : Loop) = rec st' pe' := fun _ _ _ _ => by rw [hrec]
  have hrb : ∀ st pe st', ({ rec st pe with state := st' } : Loop) = rec st' pe := fun _ _ _ => by rw [hrec]
  obtain ⟨W1, hW1⟩ : ∃ W1, (w.alloc (.deferred (some []))).alloc (.loop (rec .ready none)) = W1 := ⟨_, rfl⟩
  have hb1 : Below w.heap.size w W1 := by rw [← hW1]; exact ((Below.refl _ w).alloc (Nat.le_refl _) _).alloc (by simp) _
  have hz1 : W1.heap.size = D + 2 := by rw [← hW1, ← hD]; simp
  have hL1 : W1.heap[D + 1]? = some (.loop (rec .ready none)) := by
    have := World.alloc_heap_new (w.alloc (.deferred (some []))) (.loop (rec .ready none))
    rwa [World.size_alloc, hD, hW1] at this
  have hK1 : W1.heap[D]? = some (.deferred (some [])) := by
    rw [← hW1, ← hD]
    exact (Below.heap_alloc _ _ _ (by simp)).trans (World.alloc_heap_new w _)
  have hent : (Instr.enterLoop fn a.tmps ps assign body Fence.wide.round).run P w = .ok (D + 1, [{ target := .collected D, args := #[] }]) W1 := by
    rw [← hW1, hrec, ← hD]
    exact run_enterLoop_outer fn a.tmps ps assign body
  rw [hD] at hZ hI hIx hAx hassign hbody hdone hstop
  refine ⟨D + 1, _, W1, { target := .fn (.func gf) lb, args := #[.func (.yield (D + 1)) #[] #[]] }, W1, gf, #[.func (.yield (D + 1)) #[] #[]] ++ lb, W1, hent, ?_, fun _ _ => trivial, ?_, (fun h => by cases h), callsIn_wide.2 ?_⟩
  · simp only [resolve, hg]
    simp [go_sem]
  · simp [invoke, go_sem, eg]
  -- the iterator, at the caller's word and the two blocks of the loop
  refine (hseq (D + 1) (D + 2) (fun pre O W => I pre O W ∧ W.heap[D + 1]? = some (.loop (rec .ready none)) ∧ W.heap[D]? = some (.deferred (some [])))
    (fun pre W => ∃ c, Ix c pre W ∧ W.heap[D + 1]? = some (.loop (rec .done (some c))) ∧ W.heap[D]? = some (.deferred (some []))) W1 hb1 hz1.symm ?_ ?_ ?_ ?_).mono ?_
  · rintro pre O A O' B ⟨hi, hl, hk⟩ hbs hm
    have e1 := hm.kept (D + 1) (Array.getElem?_eq_some_iff.1 hl).1 (fun h => by have := (hbs _ h).1; omega) (fun h => h)
    have e2 := hm.kept D (Array.getElem?_eq_some_iff.1 hk).1 (fun h => by have := (hbs _ h).1; omega) (fun h => h)
    exact ⟨hI _ _ _ _ _ hi hbs (hm.weak fun _ h => h.elim), e1.trans hl, e2.trans hk⟩
  · rintro pre A O' B ⟨c, hc, hl, hk⟩ hm
    have e1 := hm.kept (D + 1) (Array.getElem?_eq_some_iff.1 hl).1 (fun h => h) (fun h => h)
    have e2 := hm.kept D (Array.getElem?_eq_some_iff.1 hk).1 (fun h => h) (fun h => h)
    exact ⟨c, hIx _ _ _ _ _ hc (hm.weak fun _ h => h.elim), e1.trans hl, e2.trans hk⟩
  · rintro m pre x O W args ⟨hi, hl, hk⟩ hbs harg hx
    have hlt := (Array.getElem?_eq_some_iff.1 hl).1
    have hy := run_yield (P := P) (args := args) hl (by rw [hrp]; exact hps _ _ _ _ harg)
    refine ⟨_, _, _, _, hy, RoundIn.any (m := 3) (roundIn_of_wpIn trivial ?_)⟩
    rw [show (rec .ready none).tmps = a.tmps by rw [hrec], show (rec .ready none).params = ps by rw [hrec], show (rec .ready none).assign = assign by rw [hrec], show (rec .ready none).body = body by rw [hrec]]
    refine hassign (D + 1) pre x O W args _ hi hbs (by omega) harg fun a' W' hk' hd' hl' hi' hax => ?_
    rw [hl] at hl'
    rw [hk] at hd'
    refine ⟨_, run_beginRound hl' (hrs _ _), ?_⟩
    rw [hrb]
    obtain ⟨V, hV⟩ : ∃ V, W'.putObj (D + 1) (.loop (rec .busy none)) = V := ⟨_, rfl⟩
    have hlt' := (Array.getElem?_eq_some_iff.1 hl').1
    have hVl : V.heap[D + 1]? = some (.loop (rec .busy none)) := by rw [← hV]; exact World.putObj_heap_same hlt'
    have hVk : V.heap[D]? = some (.deferred (some [])) := by rw [← hV]; exact (World.putObj_heap_other (by omega)).trans hd'
    have hbs' : Wb (D + 2) O W' := hbs.keep hk'.b.size
    have hmv : ∀ (X : World) (o : Obj), Mv (EE D) O X O (X.putObj (D + 1) o) := fun X o => Mv.put X o (.inr rfl)
    have hkr : ∀ (X : World) (o : Obj), Wb (D + 2) O X → n₀ ≤ X.heap.size → Kr n₀ (OZ O Z) X (X.putObj (D + 1) o) := fun X o hX hn =>
      ⟨(Below.refl n₀ X).grown (grownBy_putObj' X (D + 1) o) hn (fun k e => by cases e; omega), fun b hb => World.putObj_heap_other (by
        rcases hb with hb | hb
        · have := (hX b hb).1; omega
        · have := hZ b hb; omega)⟩
    have hVi : I pre O V := by rw [← hV]; exact hI _ _ _ _ _ hi' hbs' (hmv _ _)
    have hVa : Ax x O a' V := by rw [← hV]; exact hAx _ _ _ _ _ hax hbs'
    have hVb : Wb (D + 2) O V := by rw [← hV]; exact hbs'.keep (by simp)
    have hWV : Kr n₀ (OZ O Z) W V := by rw [← hV]; exact hk'.trans (hkr _ _ hbs' (by omega))
    rw [hV]
    refine wpIn_mono (hbody (D + 1) pre x O a' V hVi hVb (by rw [← hV]; simp; omega) hVa hx) ?_
    have fin : ∀ (jump : Option Code) (X : World), X.heap[D]? = V.heap[D]? → X.heap[D + 1]? = V.heap[D + 1]? →
        (Instr.endRound (D + 1) jump).run P X = .ok (.bool jump.isNone) (X.putObj (D + 1) (.loop (rec (if jump.isNone then .ready else .done) jump))) ∧
        (X.putObj (D + 1) (.loop (rec (if jump.isNone then .ready else .done) jump))).heap[D + 1]? = some (.loop (rec (if jump.isNone then .ready else .done) jump)) ∧
        (X.putObj (D + 1) (.loop (rec (if jump.isNone then .ready else .done) jump))).heap[D]? = some (.deferred (some [])) := fun jump X e1 e2 => by
      have hl3 := e2.trans hVl
      have h := run_endRound (P := P) jump hl3
      rw [hrr] at h
      exact ⟨h, World.putObj_heap_same (Array.getElem?_eq_some_iff.1 hl3).1, (World.putObj_heap_other (by omega)).trans (e1.trans hVk)⟩
    rintro e a3 X hp
    cases e with
    | normal =>
      obtain ⟨⟨k3, d3, l3⟩, i3⟩ := hp
      obtain ⟨r, hl4, hk4⟩ := fin none X d3 l3
      have hXb : Wb (D + 2) O X := hVb.keep k3.b.size
      exact ⟨_, _, r, .inl ⟨rfl, ⟨hI _ _ _ _ _ i3 hXb (hmv _ _), hl4, hk4⟩, (hWV.trans k3).trans (hkr _ _ hXb (by have := (Array.getElem?_eq_some_iff.1 (l3.trans hVl)).1; omega))⟩⟩
    | ret =>
      obtain ⟨⟨d3, l3⟩, i3⟩ := hp
      obtain ⟨r, hl4, hk4⟩ := fin (some .ret) X d3 l3
      exact ⟨_, _, r, .inr ⟨rfl, .ret, hIx _ _ _ _ _ i3 (Mv.put _ _ (.inr rfl)), hl4, hk4⟩⟩
    | exit id =>
      obtain ⟨⟨d3, l3⟩, i3⟩ := hp
      obtain ⟨r, hl4, hk4⟩ := fin (some (.exit id)) X d3 l3
      exact ⟨_, _, r, .inr ⟨rfl, .exit id, hIx _ _ _ _ _ i3 (Mv.put _ _ (.inr rfl)), hl4, hk4⟩⟩
    | goto t => exact hp.elim
    | panic ch => exact hp.elim
    | outgrown => exact hp.elim
  · exact ⟨hI _ _ _ _ _ h0 (Wb.no _ _) ⟨hb1.os, hb1.tape, hb1.output, hb1.size, fun _ h => h, fun _ h => .inl h, fun b hb _ _ => hb1.block b hb⟩, hL1, hK1⟩
  · rintro e W2 ⟨⟨v, rfl⟩, (⟨O, ⟨hi, hl, hk⟩, hbO⟩ | ⟨pre, hq, c, hi, hl, hk⟩)⟩
    · have h := run_endLoop (P := P) hl (by rw [hrs]; simp)
      rw [show (rec .ready none).pending = none by rw [hrec]] at h
      refine ⟨none, _, h, hdone O _ (hI _ _ _ _ _ hi hbO (Mv.put _ _ (.inr rfl))) ((World.putObj_heap_other (by omega)).trans hk)⟩
    · have h := run_endLoop (P := P) hl (by rw [hrs]; simp)
      rw [show (rec .done (some c)).pending = some c by rw [hrec]] at h
      exact ⟨some c, _, h, hstop c pre _ hq (hIx _ _ _ _ _ hi (Mv.put _ _ (.inr rfl))) ((World.putObj_heap_other (by omega)).trans hk)⟩
end Go.Proofs.Ytaopjeobapnhbaa.nn
namespace Go.Proofs.Ytaopjeobapnhbaa.nn
open Go.RowKit

/-- what the iterator tells: tokens, the places behind them, and the errors -/
inductive Ys (s : ByteArray) : Nat → List (Tk × Nat × Nat) → Prop where
  | no {i q e : Nat} : nxR s i = .no q e → Ys s i [(⟨0, 0, 0, ⟨#[]⟩⟩, q, e)]
  | fin {i p : Nat} {t : Tk} : nxR s i = .ok t p → t.k = 0 → Ys s i []
  | more {i p : Nat} {t : Tk} {xs : List (Tk × Nat × Nat)} : nxR s i = .ok t p → t.k ≠ 0 → Ys s p xs → Ys s i ((t, p, 0) :: xs)
theorem Ys.ex (s : ByteArray) : ∀ (d i : Nat), i ≤ s.size → s.size - i ≤ d → ∃ xs, Ys s i xs
  | d, i, hi, hd => by
    cases h : nxR s i with
    | no q e => exact ⟨_, .no h⟩
    | ok t p =>
      have hn := nx_ok hi h
      by_cases h0 : t.k = 0
      · exact ⟨_, .fin h h0⟩
      · have := hn.2.2.2.2.1 h0
        match d, hd with
        | 0, hd => omega
        | d + 1, hd =>
          obtain ⟨R, hR⟩ := Ys.ex s d p hn.2.2.2.1 (by omega)
          exact ⟨_, .more h h0 hR⟩
theorem Ys.at_no {s : ByteArray} {i q e : Nat} {ys : List (Tk × Nat × Nat)} (h : Ys s i ys) (hn : nxR s i = .no q e) : ys = [(⟨0, 0, 0, ⟨#[]⟩⟩, q, e)] := by
  cases h with
  | no h1 => rw [h1] at hn; injection hn with a b; rw [a, b]
  | fin h1 _ => rw [h1] at hn; cases hn
  | more h1 _ _ => rw [h1] at hn; cases hn
theorem Ys.at_end {s : ByteArray} {i p : Nat} {t : Tk} {ys : List (Tk × Nat × Nat)} (h : Ys s i ys) (hn : nxR s i = .ok t p) (h0 : t.k = 0) : ys = [] := by
  cases h with
  | no h1 => rw [h1] at hn; cases hn
  | fin h1 _ => rfl
  | more h1 h2 _ => rw [h1] at hn; injection hn with a b; rw [a] at h2; exact absurd h0 h2
theorem Ys.at_more {s : ByteArray} {i p : Nat} {t : Tk} {ys : List (Tk × Nat × Nat)} (h : Ys s i ys) (hn : nxR s i = .ok t p) (h0 : t.k ≠ 0) : ∃ zs, ys = (t, p, 0) :: zs ∧ Ys s p zs := by
  cases h with
  | no h1 => rw [h1] at hn; cases hn
  | fin h1 h2 => rw [h1] at hn; injection hn with a b; rw [a] at h2; exact absurd h2 h0
  | more h1 _ h3 => rw [h1] at hn; injection hn with a b; subst a b; exact ⟨_, rfl, h3⟩
theorem rd_noz {s : ByteArray} {i q e : Nat} (h : nxR s i = .no q e) : e ≠ 0 := by
  unfold nxR at h
  split at h
  · cases h
  · rename_i h1
    injection h with h2 h3
    have := rd_no h1
    omega
theorem esmeas2 {a b n : Nat} {z : Int} (h : z = (b : Int)) (hm : n - b < n - a) : n - (intOf (.int .i64 z)).toNat < n - (intOf (.int .i64 (a : Int))).toNat := by
  subst h
  exact hm
theorem mvz_below {O : Nat → Prop} {W W' : World} (h : Below W.heap.size W W') : Mv No O W (fun b => O b ∨ (W.heap.size ≤ b ∧ b < W'.heap.size)) W' :=
  ⟨h.os, h.tape, h.output, h.size, fun _ h => .inl h, fun _ h => h, fun b hb _ _ => h.block b hb⟩
/-- an item, handed over -/
def ItA (x : Tk × Nat × Nat) (_ : Nat → Prop) (_ : World) (args : Array Value) : Prop := args = #[TkV x.1.k x.1.a x.1.b x.1.t, .agg #[.int .i64 (x.2.1 : Int), .int .i64 (x.2.2 : Int)]]
set_option maxRecDepth 100000 in
set_option maxHeartbeats 8000000 in
theorem gives_tk (s : ByteArray) (hs : s.size ≤ 140737488355000) (xs : List (Tk × Nat × Nat)) (hxs : Ys s 0 xs) (n₀ : Nat) (w : World) (Bv : Nat) (hn : n₀ ≤ w.heap.size) (hB : Boxed w Bv 9 (.string s)) :
    GivesZ Try.prog 32 #[.pointer (some ⟨Bv, 0, none⟩)] (fun b => b = Bv) ItA xs n₀ w := by
  intro l M J Jx W hW hM hJ hJx hY h0
  have hbl := hB.lt
  have hBW : Boxed W Bv 9 (.string s) := (hW.block Bv hbl).trans hB
  have HJ := Lib.hid hJ
  have HJX := Lib.hid hJx
  have HY := Lib.hid hY
  have HB0 : Hid (Boxed W Bv 9 (.string s)) := Lib.hid hBW
  have H0 := Lib.hid (And.intro h0 (And.intro hxs (And.intro hM (Nat.le_trans hn (Nat.le_trans hW.size (Nat.le_of_eq hM.symm))))))
  clear hJ hJx hY h0 hxs hBW hW hB
  show Calls Try.prog 32 #[.func (.yield l) #[] #[], .pointer (some ⟨Bv, 0, none⟩)] W _
  go_enter Try.func32, Try.ntmps32
  go_wp2_with fail
  go_loopw [3] (fun s3 wr => ∃ (i : Nat) (pre ys : List (Tk × Nat × Nat)) (O : Nat → Prop), s3 = .int .i64 (i : Int) ∧ i ≤ s.size ∧ Hid (J pre O wr ∧ Wb M O wr ∧ xs = pre ++ ys ∧ Ys s i ys ∧ M ≤ wr.heap.size) ∧ Hid (Boxed wr Bv 9 (.string s))) (fun s3 _ => s.size - (intOf s3).toNat)
  case atStart => exact ⟨0, [], xs, No, rfl, Nat.zero_le _, Lib.hid ⟨H0.out.1, Wb.no _ _, rfl, H0.out.2.1, Nat.le_of_eq H0.out.2.2.1⟩, HB0⟩
  case round =>
    obtain ⟨i, pre, ys, O, rfl, hi, HH, HB⟩ := hrel
    have HN := Lib.hid (tnext_any (w := wr) s i hs hi)
    have c0 := HB.out.cell
    cases hr : nxR s i with
    | no q e =>
      have he := rd_noz hr
      have k1 : ((e : Int) == 0) = false := by simp; omega
      have k2 : ((e : Int) != 0) = true := by simp; omega
      rw [hr] at HN
      unfold nxV at HN
      simp only at HN
      unfold TkV at HN
      have hys := HH.out.2.2.2.1.at_no hr
      have hxs : xs = pre ++ [(⟨0, 0, 0, ⟨#[]⟩⟩, q, e)] := by rw [← hys]; exact HH.out.2.2.1
      clear hr hys he
      go_wp2_with fail
      refine HN.out.mono ?_
      rintro r w2 ⟨rfl, b2⟩
      go_upto_region 2 with fail
      obtain ⟨W2, hW2⟩ : ∃ W2, w2.alloc (.cells #[.int .u8 0, .int .i64 0, .int .i64 0, .string ⟨#[]⟩] 23) = W2 := ⟨_, rfl⟩
      have hbb : Below wr.heap.size wr W2 := by rw [← hW2]; exact b2.trans ((Below.refl _ _).alloc b2.size _)
      have k0 : W2.heap[w2.heap.size]? = some (.cells #[.int .u8 0, .int .i64 0, .int .i64 0, .string ⟨#[]⟩] 23 (0, 0)) := by rw [← hW2]; exact heap_alloc_last _ _
      have t0 := cell_of_row _ _ 0 _ _ _ k0
      have t1 := cell_of_row _ _ 1 _ _ _ k0
      have t2 := cell_of_row _ _ 2 _ _ _ k0
      have t3 := cell_of_row _ _ 3 _ _ _ k0
      rw [hW2]
      have HB2 : Hid (Boxed W2 Bv 9 (.string s)) := Lib.hid ((hbb.block Bv HB.out.lt).trans HB.out)
      obtain ⟨O1, hO1⟩ : ∃ O1 : Nat → Prop, (fun b => O b ∨ (wr.heap.size ≤ b ∧ b < W2.heap.size)) = O1 := ⟨_, rfl⟩
      have hmv : Mv No O wr O1 W2 := by rw [← hO1]; exact mvz_below hbb
      have hJ2 := HJ.out pre O wr O1 W2 HH.out.1 HH.out.2.1 hmv
      have hbs2 : Wb M O1 W2 := hmv.base HH.out.2.1 HH.out.2.2.2.2
      clear hW2 k0 hO1 hmv b2 c0 HN
      obtain ⟨fn, tm, asg, bd, hy, hR⟩ := HY.out 2 pre (⟨0, 0, 0, ⟨#[]⟩⟩, q, e) O1 W2 #[.agg #[.int .u8 0, .int .i64 0, .int .i64 0, .string ⟨#[]⟩], .agg #[.int .i64 (q : Int), .int .i64 (e : Int)]] hJ2 hbs2 rfl ⟨[], hxs⟩
      have HR := Lib.hid hR
      have HX := Lib.hid (And.intro hxs (And.intro hbs2 hbb))
      clear hR hxs hbs2 hbb hJ2
      go_upto_region 3 with fail
      refine (wpIn_wide (n := 3)).1 ?_
      gi_wp2
      refine HR.out.mono ?_
      rintro r W3 (⟨rfl, hJ3, hk3⟩ | ⟨rfl, hx3⟩)
      · have HF := Lib.hid (And.intro hJ3 hk3)
        clear hJ3 hk3 hy HR t0 t1 t2 t3
        gi_wp2
        go_wp2_with fail
        exact bodyPost_ret (v := .tuple #[]) (by simp [results, Try.results32, go_sem]) rfl ⟨⟨_, rfl⟩, .inl ⟨O1, by rw [HX.out.1]; exact HF.out.1, HX.out.2.1.keep HF.out.2.b.size⟩⟩
      · have HF := Lib.hid hx3
        clear hx3 hy HR t0 t1 t2 t3
        gi_wp2
        go_wp2_with fail
        exact bodyPost_ret (v := .tuple #[]) (by simp [results, Try.results32, go_sem]) rfl ⟨⟨_, rfl⟩, .inr ⟨_, ⟨[], by rw [HX.out.1]; simp⟩, HF.out⟩⟩
    | ok t p =>
      obtain ⟨k, a, b, tt⟩ := t
      have hno := nx_ok hi hr
      simp only at hno
      rw [hr] at HN
      unfold nxV at HN
      simp only at HN
      unfold TkV at HN
      have hp : p ≤ s.size := hno.2.2.2.1
      by_cases hk : k = 0
      · subst hk
        have hys := HH.out.2.2.2.1.at_end hr rfl
        have hxs : xs = pre := by have := HH.out.2.2.1; rw [hys, List.append_nil] at this; exact this
        rw [show ((0 : Nat) : Int) = 0 from rfl] at HN
        clear hr hys hno
        go_wp2_with fail
        refine HN.out.mono ?_
        rintro r w2 ⟨rfl, b2⟩
        go_upto_region 2 with fail
        obtain ⟨W2, hW2⟩ : ∃ W2, w2.alloc (.cells #[.int .u8 0, .int .i64 (a : Int), .int .i64 (b : Int), .string tt] 23) = W2 := ⟨_, rfl⟩
        have hbb : Below wr.heap.size wr W2 := by rw [← hW2]; exact b2.trans ((Below.refl _ _).alloc b2.size _)
        have k0 : W2.heap[w2.heap.size]? = some (.cells #[.int .u8 0, .int .i64 (a : Int), .int .i64 (b : Int), .string tt] 23 (0, 0)) := by rw [← hW2]; exact heap_alloc_last _ _
        have t0 := cell_of_row _ _ 0 _ _ _ k0
        have t1 := cell_of_row _ _ 1 _ _ _ k0
        have t2 := cell_of_row _ _ 2 _ _ _ k0
        have t3 := cell_of_row _ _ 3 _ _ _ k0
        rw [hW2]
        have HB2 : Hid (Boxed W2 Bv 9 (.string s)) := Lib.hid ((hbb.block Bv HB.out.lt).trans HB.out)
        obtain ⟨O1, hO1⟩ : ∃ O1 : Nat → Prop, (fun b => O b ∨ (wr.heap.size ≤ b ∧ b < W2.heap.size)) = O1 := ⟨_, rfl⟩
        have hmv : Mv No O wr O1 W2 := by rw [← hO1]; exact mvz_below hbb
        have hJ2 := HJ.out pre O wr O1 W2 HH.out.1 HH.out.2.1 hmv
        have hbs2 : Wb M O1 W2 := hmv.base HH.out.2.1 HH.out.2.2.2.2
        clear hW2 k0 hO1 hmv b2 c0 HN
        have HX := Lib.hid (And.intro hxs (And.intro hJ2 hbs2))
        clear hxs hbs2 hbb hJ2
        go_wp2_with fail
        exact bodyPost_ret (v := .tuple #[]) (by simp [results, Try.results32, go_sem]) rfl ⟨⟨_, rfl⟩, .inl ⟨O1, by rw [HX.out.1]; exact HX.out.2.1, HX.out.2.2⟩⟩
      · obtain ⟨zs, hys, hz⟩ := HH.out.2.2.2.1.at_more hr hk
        have hxs : xs = pre ++ (⟨k, a, b, tt⟩, p, 0) :: zs := by rw [← hys]; exact HH.out.2.2.1
        have hip : i < p := by have := hno.1; have := hno.2.2.2.2.1 hk; omega
        have k3 : ((k : Int) == 0) = false := by simp; omega
        clear hr hys hno
        go_wp2_with fail
        refine HN.out.mono ?_
        rintro r w2 ⟨rfl, b2⟩
        go_upto_region 2 with fail
        obtain ⟨W2, hW2⟩ : ∃ W2, w2.alloc (.cells #[.int .u8 (k : Int), .int .i64 (a : Int), .int .i64 (b : Int), .string tt] 23) = W2 := ⟨_, rfl⟩
        have hbb : Below wr.heap.size wr W2 := by rw [← hW2]; exact b2.trans ((Below.refl _ _).alloc b2.size _)
        have k0 : W2.heap[w2.heap.size]? = some (.cells #[.int .u8 (k : Int), .int .i64 (a : Int), .int .i64 (b : Int), .string tt] 23 (0, 0)) := by rw [← hW2]; exact heap_alloc_last _ _
        have t0 := cell_of_row _ _ 0 _ _ _ k0
        have t1 := cell_of_row _ _ 1 _ _ _ k0
        have t2 := cell_of_row _ _ 2 _ _ _ k0
        have t3 := cell_of_row _ _ 3 _ _ _ k0
        rw [hW2]
        have HB2 : Hid (Boxed W2 Bv 9 (.string s)) := Lib.hid ((hbb.block Bv HB.out.lt).trans HB.out)
        obtain ⟨O1, hO1⟩ : ∃ O1 : Nat → Prop, (fun b => O b ∨ (wr.heap.size ≤ b ∧ b < W2.heap.size)) = O1 := ⟨_, rfl⟩
        have hmv : Mv No O wr O1 W2 := by rw [← hO1]; exact mvz_below hbb
        have hJ2 := HJ.out pre O wr O1 W2 HH.out.1 HH.out.2.1 hmv
        have hbs2 : Wb M O1 W2 := hmv.base HH.out.2.1 HH.out.2.2.2.2
        clear hW2 k0 hO1 hmv b2 c0 HN
        obtain ⟨fn, tm, asg, bd, hy, hR⟩ := HY.out 2 pre (⟨k, a, b, tt⟩, p, 0) O1 W2 #[.agg #[.int .u8 (k : Int), .int .i64 (a : Int), .int .i64 (b : Int), .string tt], .agg #[.int .i64 (p : Int), .int .i64 0]] hJ2 hbs2 rfl ⟨zs, hxs⟩
        have HR := Lib.hid hR
        have HX := Lib.hid (And.intro hxs (And.intro hbs2 (And.intro hbb (And.intro hz hip))))
        clear hR hxs hbs2 hbb hJ2 hz hip
        go_upto_region 3 with fail
        refine (wpIn_wide (n := 3)).1 ?_
        gi_wp2
        refine HR.out.mono ?_
        rintro r W3 (⟨rfl, hJ3, hk3⟩ | ⟨rfl, hx3⟩)
        · have HB3 : Hid (Boxed W3 Bv 9 (.string s)) := Lib.hid ((hk3.o Bv (.inr rfl)).trans HB2.out)
          have HF := Lib.hid (And.intro hJ3 hk3)
          clear hJ3 hk3 hy HR t0 t1 t2 t3
          gi_wp2
          go_wp2_with fail
          go_roundw
          case rel => exact ⟨p, pre ++ [(⟨k, a, b, tt⟩, p, 0)], zs, O1, rfl, hp, Lib.hid ⟨HF.out.1, HX.out.2.1.keep HF.out.2.b.size, by rw [HX.out.1]; simp, HX.out.2.2.2.1, Nat.le_trans HH.out.2.2.2.2 (Nat.le_trans HX.out.2.2.1.size HF.out.2.b.size)⟩, HB3⟩
          case measure => exact esmeas2 rfl (by have := HX.out.2.2.2.2; omega)
        · have HF := Lib.hid hx3
          clear hx3 hy HR t0 t1 t2 t3
          gi_wp2
          go_wp2_with fail
          exact bodyPost_ret (v := .tuple #[]) (by simp [results, Try.results32, go_sem]) rfl ⟨⟨_, rfl⟩, .inr ⟨_, ⟨zs, by rw [HX.out.1]; simp⟩, HF.out⟩⟩
end Go.Proofs.Ytaopjeobapnhbaa.nn
namespace Go.Proofs.Ytaopjeobapnhbaa.nn
open Go.RowKit

theorem info_byte : (Try.prog.info? 5).map (fun i => (i.zero, i.size, i.bytes)) = some (some (.int .u8 0), 1, 1) := by kernel_rfl
theorem info_out {e : TypeId} {z : Value} {s b : Nat} (h : (Try.prog.info? e).map (fun i => (i.zero, i.size, i.bytes)) = some (some z, s, b)) : ∃ i, Try.prog.info? e = some i ∧ i.zero = some z ∧ i.size = s ∧ i.bytes = b := by
  cases hi : Try.prog.info? e with
  | none => rw [hi] at h; cases h
  | some i =>
    rw [hi] at h
    injection h with h
    exact ⟨i, rfl, (Prod.mk.inj h).1, (Prod.mk.inj (Prod.mk.inj h).2).1, (Prod.mk.inj (Prod.mk.inj h).2).2⟩

section
variable {f : Nat → Nat} {n i k q e : Nat} {L t : List UInt8}
theorem lp_ge (hi : i ≤ n) : i ≤ rsK (lp inP L f n i) := by
  cases h : lp inP L f n i with
  | ok a k => exact ((lp_det body_in L).ok hi h).1
  | no q e =>
    by_cases he : e = 3
    · subst he; have := (lp_det body_in L).short hi h; show i ≤ q; omega
    · exact ((lp_det body_in L).form hi h he).1
theorem lp_end (h : f i = 34) (hi : i < n) : lp inP L f n i = .ok L (i + 1) := by
  rw [lp_step body_in L (by omega)]
  unfold inP peek elP
  rw [if_neg (by omega), if_pos h, bind_ok (show one some f n i = .ok (f i) (i + 1) from by unfold one; rw [if_neg (by omega)])]
  rfl
theorem lp_ctl (h : f i < 32) (hi : i < n) : lp inP L f n i = .no i 4 := by
  rw [lp_step body_in L (by omega)]
  unfold inP peek elP
  rw [if_neg (by omega), if_neg (by omega), if_pos h]
  unfold fail_
  rw [if_neg (by omega)]
theorem in_esc (h : f i = 92) (hi : i < n) : inP L f n i = (escP.bind fun t => ret (.inl (L ++ t))) f n (i + 1) := by
  unfold inP peek elP
  rw [if_neg (by omega), if_neg (by omega), if_neg (by omega), if_pos h, bind_ok (show one some f n i = .ok (f i) (i + 1) from by unfold one; rw [if_neg (by omega)])]
theorem in_raw (h1 : f i ≠ 34) (h2 : ¬ f i < 32) (h3 : f i ≠ 92) (hi : i < n) : inP L f n i = (ptP.bind fun t => ret (.inl (L ++ t))) f n i := by
  unfold inP peek elP
  rw [if_neg (by omega), if_neg h1, if_neg h2, if_neg h3]
theorem lp_esc_ok (h : f i = 92) (hi : i < n) (he : escP f n (i + 1) = .ok t k) : lp inP L f n i = lp inP (L ++ t) f n k := by
  rw [lp_step body_in L (by omega), in_esc h hi, bind_ok he]
  rfl
theorem lp_esc_no (h : f i = 92) (hi : i < n) (he : escP f n (i + 1) = .no q e) : lp inP L f n i = .no q e := by
  rw [lp_step body_in L (by omega), in_esc h hi, bind_no he]
theorem lp_raw_ok (h1 : f i ≠ 34) (h2 : ¬ f i < 32) (h3 : f i ≠ 92) (hi : i < n) (hp : pok (sh f i) (n - i) = true) : lp inP L f n i = lp inP (L ++ raw f i (nd (f i))) f n (i + nd (f i)) := by
  rw [lp_step body_in L (by omega), in_raw h1 h2 h3 hi, bind_ok (show ptP f n i = .ok (raw f i (nd (f i))) (i + nd (f i)) from by unfold ptP; rw [if_neg (by omega), if_pos hp])]
  rfl
theorem lp_raw_no (h1 : f i ≠ 34) (h2 : ¬ f i < 32) (h3 : f i ≠ 92) (hi : i < n) (hp : pok (sh f i) (n - i) = false) : lp inP L f n i = .no (i + ckA (sh f i) (n - i)) (ckE (sh f i) (n - i)) := by
  rw [lp_step body_in L (by omega), in_raw h1 h2 h3 hi, bind_no (show ptP f n i = .no (i + ckA (sh f i) (n - i)) (ckE (sh f i) (n - i)) from by unfold ptP; rw [if_neg (by omega), hp, if_neg (by decide)])]
theorem lp_over : lp inP L f n n = .no n 3 := by
  rw [lp_step body_in L (Nat.le_refl _)]
  unfold inP peek
  rw [if_pos (Nat.le_refl _)]
theorem ptK_congr {f g : Nat → Nat} {n : Nat} (h : ∀ j, j < n → f j = g j) : ptK f n = ptK g n := by
  have hp : pok f n = pok g n := by
    by_cases h0 : n = 0
    · subst h0; unfold pok; simp
    · unfold pok
      rw [h 0 (by omega)]
      by_cases hn : n ≠ 0 ∧ nd (g 0) ≠ 0 ∧ nd (g 0) ≤ n
      · rw [al_congr fun j hj => h j (by omega)]
      · rw [decide_eq_false hn]; simp
  unfold ptK
  rw [hp]
  by_cases h0 : pok g n = true
  · rw [if_pos h0, if_pos h0, h 0 (by have := pok_iff.1 h0; omega)]
  · rw [if_neg h0, if_neg h0]
theorem ckA_congr {f g : Nat → Nat} {n : Nat} (h : ∀ j, j < n → f j = g j) : ckA f n = ckA g n := sp_congr h
theorem ckE_congr {f g : Nat → Nat} {n : Nat} (h : ∀ j, j < n → f j = g j) : ckE f n = ckE g n := by unfold ckE; rw [al_congr h, tk_congr h]
end
theorem bt_rest {s : ByteArray} {i j : Nat} (h : i + j < s.size) : bt (s.extract i s.size) j = bt s (i + j) := by
  have h2 : j < (s.extract i s.size).size := by rw [ByteArray.size_extract]; omega
  rw [bt_at h, bt_at h2, ByteArray.getElem_extract]
theorem raw_extract {s : ByteArray} {i k : Nat} (h : i + k ≤ s.size) : (s.extract i (i + k)).data.toList = raw (bt s) i k := by
  apply List.ext_getElem
  · rw [raw_len, len_data, ByteArray.size_extract]; omega
  · intro j h1 h2
    rw [raw_len] at h2
    simp only [raw, List.getElem_map, List.getElem_range]
    have h3 : j < (s.extract i (i + k)).size := by rw [ByteArray.size_extract]; omega
    have e : bt (s.extract i (i + k)) j = bt s (i + j) := by rw [bt_at h3, bt_at (show i + j < s.size by omega), ByteArray.getElem_extract]
    rw [← e, bt_at h3, UInt8.ofNat_toNat]
    rfl
theorem nonempty_scan {s : ByteArray} (h : 0 < s.size) : s.toList.isEmpty = false := by
  rw [ByteArray.toList_eq]
  have : s.data.toList.length = s.size := rfl
  cases hh : s.data.toList with
  | nil => rw [hh] at this; simp at this; omega
  | cons a l => rfl

set_option maxRecDepth 100000 in
set_option maxHeartbeats 1000000 in
theorem rscan_any (s : ByteArray) (w : World) (hs : s.size ≤ 4611686018427387904) (hq : rsK (scanP (bt s) s.size 0) ≤ 140737488355328) :
    Calls Try.prog 17 #[.string s] w (EscAns (scanP (bt s) s.size 0) w) := by
  obtain ⟨i0, hi0, hz0, hz1, hz2⟩ := info_out info_byte
  obtain ⟨R, hR⟩ : ∃ R, scanP (bt s) s.size 0 = R := ⟨_, rfl⟩
  rw [hR] at hq ⊢
  by_cases h0 : s.size = 0
  · have hR2 : R = .no 0 3 := by rw [← hR, h0]; exact bind_no (by unfold one; rw [if_pos (Nat.le_refl _)])
    have HR := Lib.hid hR2
    have hem : s = ⟨#[]⟩ := by
      apply ByteArray.ext
      apply Array.eq_empty_of_size_eq_zero
      exact h0
    subst hem
    clear hR2 hR h0
    go_enter Try.func17, Try.ntmps17
    go_wp2_with fail
    exact bodyPost_ret (v := .tuple #[.string ⟨#[]⟩, .int .i64 0, .int .i64 3]) (by simp [results, Try.results17, go_sem]) rfl (EscAns.no HR.out rfl rfl (Below.refl _ _))
  · have hn0 : 0 < s.size := by omega
    have hne : s.toList.isEmpty = false := nonempty_scan hn0
    have hb0 := bt_at hn0
    by_cases hq0 : bt s 0 = 34
    · have hR2 : lp inP [] (bt s) s.size 1 = R := by
        rw [← hR]
        unfold scanP
        rw [bind_ok (a := 34) (k := 0 + 1) (by unfold one; rw [if_neg (by omega), hq0]; rfl)]
      have q1 : ((s[0].toNat : Int) != 34) = false := by rw [← hb0, hq0]; rfl
      have HR := Lib.hid hR2
      clear hR hR2 hb0 hq0 h0
      go_enter Try.func17, Try.ntmps17
      go_wp2_with fail
      clear q1 hne
      go_loopw [5, 6] (fun s5 s6 wr => ∃ (L : List UInt8) (m c i : Nat) (A : Option Addr), 1 ≤ i ∧ i ≤ s.size ∧ m ≤ i ∧ s5 = .slice A m c ∧ s6 = .int .i64 (i : Int) ∧ Hid (m = L.length ∧ lp inP L (bt s) s.size i = R ∧ wr.ownsRow w.heap.size 5 1 (.slice A m c) m (Lib.byteCells L) ∧ Below w.heap.size w wr)) (fun _ s6 _ => s.size - (intOf s6).toNat)
      case atStart => exact ⟨[], 0, 0, 1, none, by omega, by omega, by omega, rfl, rfl, Lib.hid ⟨rfl, HR.out, World.ownsRow_nil _ _ _ _, Below.refl _ _⟩⟩
      case round =>
        obtain ⟨L, m, c, i, A, hi1, hin, hmi, rfl, rfl, hI⟩ := hrel
        have hsz : w.heap.size ≤ wr.heap.size := hI.out.2.2.2.size
        by_cases hlt : i < s.size
        · have hbi := bt_at hlt
          have hc256 := bt_lt s i
          by_cases h34 : bt s i = 34
          · have HS : Hid (R = .ok L (i + 1)) := Lib.hid (by rw [← hI.out.2.1]; exact lp_end h34 hlt)
            have q1 : ((s[i].toNat : Int) == 34) = true := by rw [← hbi, h34]; rfl
            have kc := conv_list hI.out.1 hI.out.2.2.1
            clear hbi h34
            go_wp2_with fail
            exact bodyPost_ret (v := .tuple #[.string ⟨L.toArray⟩, .int .i64 ((i : Int) + 1), .int .i64 0]) (by simp [results, Try.results17, go_sem]) rfl (EscAns.ok HS.out rfl (by omega) hI.out.2.2.2)
          · have q1 : ((s[i].toNat : Int) == 34) = false := by rw [← hbi]; exact ne_u8 h34
            by_cases h32 : bt s i < 32
            · have HS : Hid (R = .no i 4) := Lib.hid (by rw [← hI.out.2.1]; exact lp_ctl h32 hlt)
              rw [hbi] at h32
              clear hbi h34
              go_wp2_with fail
              exact bodyPost_ret (v := .tuple #[.string ⟨#[]⟩, .int .i64 (i : Int), .int .i64 4]) (by simp [results, Try.results17, go_sem]) rfl (EscAns.no HS.out rfl rfl hI.out.2.2.2)
            · have h32' : 32 ≤ s[i].toNat := by omega
              by_cases h92 : bt s i = 92
              · have q2 : ((s[i].toNat : Int) == 92) = true := by rw [← hbi, h92]; rfl
                have hC := resc_any s (i + 1) wr hs hlt
                unfold EscAns at hC
                have e1 : ((i + 1 : Nat) : Int) = (i : Int) + 1 := by omega
                rw [e1] at hC
                cases he : escP (bt s) s.size (i + 1) with
                | no q e =>
                  rw [he] at hC
                  have HC := Lib.hid hC
                  have HS : Hid (R = .no q e) := Lib.hid (by rw [← hI.out.2.1]; exact lp_esc_no h92 hlt he)
                  have he2 := er_esc he
                  have q3 : ((e : Int) == 0) = false := by simp; omega
                  clear hC he he2 hbi h92 h32 h34 e1
                  go_wp2_with fail
                  refine HC.out.mono ?_
                  rintro r w1 ⟨rfl, hb1⟩
                  have hb2 := Lib.hid (hI.out.2.2.2.trans (hb1.mono hsz))
                  clear hb1
                  simp only [rsT, rsK, rsE]
                  go_wp2_with fail
                  exact bodyPost_ret (v := .tuple #[.string ⟨#[]⟩, .int .i64 (q : Int), .int .i64 (e : Int)]) (by simp [results, Try.results17, go_sem]) rfl (EscAns.no HS.out rfl rfl hb2.out)
                | ok t k =>
                  rw [he] at hC
                  have hk := det_esc.ok (show i + 1 ≤ s.size by omega) he
                  have hr := esc_right he
                  have hkn := hk.2.1
                  have hL : lp inP (L ++ t) (bt s) s.size k = R := by rw [← hI.out.2.1]; exact (lp_esc_ok h92 hlt he).symm
                  have hge := lp_ge (L := L ++ t) (f := bt s) hkn
                  rw [hL] at hge
                  have hkq : k ≤ 140737488355328 := by omega
                  obtain ⟨T, hT⟩ : ∃ T : ByteArray, (⟨t.toArray⟩ : ByteArray) = T := ⟨_, rfl⟩
                  have hTt : T.data.toList = t := by rw [← hT]
                  have hTs : T.size = t.length := by rw [← len_data, hTt]
                  have hts := hr.2.1
                  have hik : i < k := by omega
                  have hmk : m + T.size ≤ k := by omega
                  have HL := Lib.hid hL
                  have HT := Lib.hid (And.intro hTt hTs)
                  have e2 : rsT (.ok t k) = T := hT
                  rw [e2] at hC
                  have HC := Lib.hid hC
                  clear hC he hbi h92 h32 h34 e1 hk hr hL hge hT hTt hTs hts e2
                  go_wp2_with fail
                  refine HC.out.mono ?_
                  rintro r w1 ⟨rfl, hb1⟩
                  have hsz1 : w.heap.size ≤ w1.heap.size := Nat.le_trans hsz hb1.size
                  have hb2 := Lib.hid (hI.out.2.2.2.trans (hb1.mono hsz))
                  have hown := own_below hI.out.2.2.1 hb1
                  clear hb1
                  simp only [rsK, rsE]
                  go_wp2_with (at_builtin; refine wpList_appS rfl (.tmp 84) (.tmp 85) _ _ rfl w.heap.size 5 i0 Try.underlying40 Try.underlying9 hi0 hz0 hz1 hz2 _ m L rfl hown T rfl (by omega) hsz1 ?_; intro v3 w3 hown3 hb3)
                  obtain ⟨A3, c3, rfl, _, _, _⟩ := rd_list (L := L ++ t) (n := m + T.size) (by rw [List.length_append, HT.out.2, hI.out.1]) (by rw [HT.out.1] at hown3; exact hown3)
                  have hI3 : Hid (m + T.size = (L ++ t).length ∧ lp inP (L ++ t) (bt s) s.size k = R ∧ w3.ownsRow w.heap.size 5 1 (.slice A3 (m + T.size) c3) (m + T.size) (Lib.byteCells (L ++ t)) ∧ Below w.heap.size w w3) :=
                    Lib.hid ⟨by rw [List.length_append, HT.out.2, hI.out.1], HL.out, by rw [HT.out.1] at hown3; exact hown3, hb2.out.trans hb3⟩
                  clear hown hown3 hb3
                  go_wp2_with fail
                  go_roundw
                  case rel => exact ⟨L ++ t, m + T.size, c3, k, A3, by omega, hkn, hmk, rfl, rfl, hI3⟩
                  case measure => simp [intOf]; omega
              · have q2 : ((s[i].toNat : Int) == 92) = false := by rw [← hbi]; exact ne_u8 h92
                obtain ⟨s2, hs2⟩ : ∃ s2, s.extract i s.size = s2 := ⟨_, rfl⟩
                have hs2s : s2.size = s.size - i := by rw [← hs2, ByteArray.size_extract]; omega
                have hbt2 : ∀ j, j < s.size - i → bt s2 j = sh (bt s) i j := fun j hj => by rw [← hs2]; exact bt_rest (by omega)
                have hP := rpoint_any s2 wr (by unfold maxLen; omega)
                have hK : ptK (bt s2) s2.size = ptK (sh (bt s) i) (s.size - i) := by rw [hs2s]; exact ptK_congr hbt2
                rw [hK] at hP
                cases hp : pok (sh (bt s) i) (s.size - i) with
                | false =>
                  have e1 : ptK (sh (bt s) i) (s.size - i) = 0 := by unfold ptK; rw [hp, if_neg (by decide)]
                  rw [e1] at hP
                  have hCk := fun wz => rcheck_any s2 wz (by unfold maxLen; omega)
                  have hA : ckA (bt s2) s2.size = ckA (sh (bt s) i) (s.size - i) := by rw [hs2s]; exact ckA_congr hbt2
                  have hE : ckE (bt s2) s2.size = ckE (sh (bt s) i) (s.size - i) := by rw [hs2s]; exact ckE_congr hbt2
                  rw [hA, hE] at hCk
                  have hAle : ckA (sh (bt s) i) (s.size - i) ≤ s.size - i := sp_le
                  have hS : R = .no (i + ckA (sh (bt s) i) (s.size - i)) (ckE (sh (bt s) i) (s.size - i)) := by rw [← hI.out.2.1]; exact lp_raw_no h34 h32 h92 hlt hp
                  obtain ⟨q, hqq⟩ : ∃ q, ckA (sh (bt s) i) (s.size - i) = q := ⟨_, rfl⟩
                  obtain ⟨e, hee⟩ : ∃ e, ckE (sh (bt s) i) (s.size - i) = e := ⟨_, rfl⟩
                  rw [hqq] at hAle
                  rw [hqq, hee] at hS hCk
                  have HS := Lib.hid hS
                  have HP := Lib.hid hP
                  have HCk := Lib.hid hCk
                  have HS2 := Lib.hid hs2
                  clear hS hP hCk hqq hee hA hE hp e1 hK hbt2 hs2s hbi h34 h32 h92 hs2
                  go_wp2_with fail
                  rw [HS2.out]
                  refine HP.out.mono ?_
                  rintro r w1 ⟨rfl, hb1⟩
                  have hb2 := Lib.hid (hI.out.2.2.2.trans (hb1.mono hsz))
                  clear hb1
                  go_wp2_with fail
                  rw [HS2.out]
                  refine (HCk.out _).mono ?_
                  rintro r w2 ⟨rfl, hb3⟩
                  have hb4 := Lib.hid (hb2.out.trans (hb3.mono hb2.out.size))
                  clear hb3
                  go_wp2_with fail
                  exact bodyPost_ret (v := .tuple #[.string ⟨#[]⟩, .int .i64 ((i : Int) + (q : Int)), .int .i64 (e : Int)]) (by simp [results, Try.results17, go_sem]) rfl (EscAns.no HS.out (by omega) rfl hb4.out)
                | true =>
                  have hpi := pok_iff.1 hp
                  obtain ⟨K, hKK⟩ : ∃ K, nd (bt s i) = K := ⟨_, rfl⟩
                  have e0 : sh (bt s) i 0 = bt s i := rfl
                  rw [e0, hKK] at hpi
                  have e1 : ptK (sh (bt s) i) (s.size - i) = K := by unfold ptK; rw [hp, if_pos rfl, e0, hKK]
                  rw [e1] at hP
                  have hK0 : 0 < K := by omega
                  have hKn : i + K ≤ s.size := by omega
                  have q3 : ((K : Int) == 0) = false := by simp; omega
                  have hL : lp inP (L ++ raw (bt s) i K) (bt s) s.size (i + K) = R := by rw [← hI.out.2.1, ← hKK]; exact (lp_raw_ok h34 h32 h92 hlt hp).symm
                  have hge := lp_ge (L := L ++ raw (bt s) i K) (f := bt s) hKn
                  rw [hL] at hge
                  have hkq : i + K ≤ 140737488355328 := by omega
                  obtain ⟨T, hT⟩ : ∃ T : ByteArray, s.extract i (i + K) = T := ⟨_, rfl⟩
                  have hTt : T.data.toList = raw (bt s) i K := by rw [← hT]; exact raw_extract hKn
                  have hTs : T.size = K := by rw [← len_data, hTt, raw_len]
                  obtain ⟨t, ht⟩ : ∃ t, raw (bt s) i K = t := ⟨_, rfl⟩
                  rw [ht] at hTt hL
                  have HL := Lib.hid hL
                  have HT := Lib.hid (And.intro hTt hTs)
                  have HT2 := Lib.hid hT
                  have hmk : m + T.size ≤ i + K := by omega
                  have hlen : (L ++ t).length = m + T.size := by rw [List.length_append, hI.out.1, hTs, ← ht, raw_len]
                  have HLEN := Lib.hid hlen
                  have HP := Lib.hid hP
                  have HS2 := Lib.hid hs2
                  have sl : ∀ W, (Instr.slice 9 (.string s) (some (.int .i64 (i : Int))) (some (.int .i64 ((i : Int) + (K : Int)))) none).run Try.prog W = .ok (.string T) W := fun W => by
                    rw [run_slice_string W _ s .i64 .i64 _ _ Try.underlying9 (by omega) (by omega) (by omega), ← HT2.out]
                    rw [show ((i : Int) + (K : Int)).toNat = i + K by omega, Int.toNat_natCast]
                  clear hP hp e1 hK hbt2 hs2s hbi h34 h32 h92 hpi hKK e0 hL hge hT hTt hTs ht hlen hs2
                  go_wp2_with fail
                  rw [HS2.out]
                  refine HP.out.mono ?_
                  rintro r w1 ⟨rfl, hb1⟩
                  have hsz1 : w.heap.size ≤ w1.heap.size := Nat.le_trans hsz hb1.size
                  have hb2 := Lib.hid (hI.out.2.2.2.trans (hb1.mono hsz))
                  have hown := own_below hI.out.2.2.1 hb1
                  clear hb1
                  go_wp2_with (at_builtin; refine wpList_appS rfl (.tmp 47) (.tmp 53) _ _ rfl w.heap.size 5 i0 Try.underlying40 Try.underlying9 hi0 hz0 hz1 hz2 _ m L rfl hown T rfl (by omega) hsz1 ?_; intro v3 w3 hown3 hb3)
                  obtain ⟨A3, c3, rfl, _, _, _⟩ := rd_list (L := L ++ t) (n := m + T.size) HLEN.out.symm (by rw [HT.out.1] at hown3; exact hown3)
                  have hI3 : Hid (m + T.size = (L ++ t).length ∧ lp inP (L ++ t) (bt s) s.size (i + K) = R ∧ w3.ownsRow w.heap.size 5 1 (.slice A3 (m + T.size) c3) (m + T.size) (Lib.byteCells (L ++ t)) ∧ Below w.heap.size w w3) :=
                    Lib.hid ⟨HLEN.out.symm, HL.out, by rw [HT.out.1] at hown3; exact hown3, hb2.out.trans hb3⟩
                  clear hown hown3 hb3
                  go_wp2_with fail
                  go_roundw
                  case rel => exact ⟨L ++ t, m + T.size, c3, i + K, A3, by omega, hKn, hmk, rfl, by go_num, hI3⟩
                  case measure => simp [intOf]; omega
        · obtain rfl : i = s.size := by omega
          have HS : Hid (R = .no s.size 3) := Lib.hid (by rw [← hI.out.2.1]; exact lp_over)
          go_wp2_with fail
          exact bodyPost_ret (v := .tuple #[.string ⟨#[]⟩, .int .i64 (s.size : Int), .int .i64 3]) (by simp [results, Try.results17, go_sem]) rfl (EscAns.no HS.out rfl rfl hI.out.2.2.2)
    · have hR2 : R = .no 0 4 := by
        rw [← hR]
        unfold scanP
        exact bind_no (by unfold one is_; rw [if_neg (by omega)]; simp [hq0])
      have HR := Lib.hid hR2
      have q1 : ((s[0].toNat : Int) != 34) = true := by rw [← hb0]; simp; omega
      clear hR2 hR hb0 hq0 h0
      go_enter Try.func17, Try.ntmps17
      go_wp2_with fail
      exact bodyPost_ret (v := .tuple #[.string ⟨#[]⟩, .int .i64 0, .int .i64 4]) (by simp [results, Try.results17, go_sem]) rfl (EscAns.no HR.out rfl rfl (Below.refl _ _))
end Go.Proofs.Ytaopjeobapnhbaa.nn
namespace Go.Proofs.Ytaopjeobapnhbaa.nn
open Go.RowKit

def tkC (t : Tk) : List Value := [.int .u8 (t.k : Int), .int .i64 (t.a : Int), .int .i64 (t.b : Int), .string t.t]
def tkL (L : List Tk) : List Value := L.flatMap tkC
theorem tkL_app (L M : List Tk) : tkL (L ++ M) = tkL L ++ tkL M := List.flatMap_append
theorem ys_ls {s : ByteArray} {i : Nat} {xs : List (Tk × Nat × Nat)} (h : Ys s i xs) : ∀ {L : List Tk} {R : Rs (List Tk)}, Ls s i L R →
    ((∀ x ∈ xs, x.2.2 = 0) → R = .ok (L ++ xs.map (·.1)) s.size) ∧ (∀ pre x post, xs = pre ++ x :: post → x.2.2 ≠ 0 → R = .no x.2.1 x.2.2) := by
  induction h with
  | @no i q e h1 =>
    intro L R hL
    have hR := hL.at_no h1
    refine ⟨fun h => absurd (h _ (List.mem_singleton.2 rfl)) (rd_noz h1), fun pre x post hx hx0 => ?_⟩
    cases pre with
    | nil => injection hx with h2 h3; rw [← h2]; exact hR
    | cons y pre => injection hx with h2 h3; cases pre <;> cases h3
  | @fin i p t h1 h2 =>
    intro L R hL
    have hR := hL.at_end h1 h2
    refine ⟨fun _ => by rw [hR]; simp, fun pre x post hx => ?_⟩
    cases pre <;> cases hx
  | @more i p t xs h1 h2 h3 ih =>
    intro L R hL
    obtain ⟨a, b⟩ := ih (hL.at_more h1 h2)
    refine ⟨fun h => ?_, fun pre x post hx hx0 => ?_⟩
    · rw [a fun x hx => h x (List.mem_cons_of_mem _ hx)]
      simp
    · cases pre with
      | nil => injection hx with h4 h5; rw [← h4] at hx0; exact absurd rfl hx0
      | cons y pre => injection hx with h4 h5; exact b pre x post h5 hx0
/-- a row of one's own that holds tokens, apart from the iterator's blocks -/
structure Vl (D : Nat) (O : Nat → Prop) (W : World) (v : Value) (L : List Tk) : Prop where
  r : W.ownsRow D 23 4 v L.length (tkL L)
  n : ∀ b, v.ownBlock = some b → ¬ O b
theorem info_tk : (Try.prog.info? 23).map (fun i => (i.zero, i.size, i.bytes)) = some (some (.agg #[.int .u8 0, .int .i64 0, .int .i64 0, .string ⟨#[]⟩]), 4, 40) := by kernel_rfl
theorem tk_same {w w' : World} {base n size : Nat} {e : TypeId} {v : Value} {xs : List Value} (h : w.ownsRow base e size v n xs) (hb : ∀ b, v.ownBlock = some b → w'.heap[b]? = w.heap[b]?) : w'.ownsRow base e size v n xs := by
  refine ⟨h.1, ?_⟩
  rcases h.2 with h5 | ⟨g, cap, cur, rfl, hb', hg, h6⟩
  · exact .inl h5
  · exact .inr ⟨g, cap, cur, rfl, hb', (hb g rfl).trans hg, h6⟩
theorem Vl.mv {D : Nat} {O O' : Nat → Prop} {W W' : World} {v : Value} {L : List Tk} (h : Vl (D + 2) O W v L) (hm : Mv (EE D) O W O' W') : Vl (D + 2) O' W' v L := by
  refine ⟨tk_same h.r fun b hb => ?_, fun b hb hO => ?_⟩
  · have := h.r.lt b hb
    exact hm.kept b this.2 (h.n b hb) (fun h => by rcases h with h | h <;> omega)
  · have := h.r.lt b hb
    rcases hm.new b hO with h1 | h1
    · exact h.n b hb h1
    · omega
theorem tk_box {D B : Nat} {O O' : Nat → Prop} {W W' : World} {o : Obj} (h : W.heap[B]? = some o) (hm : Mv (EE D) O W O' W') (hb : Wb (D + 2) O W) (hB : B < D) : W'.heap[B]? = some o := by
  rw [hm.kept B (Array.getElem?_eq_some_iff.1 h).1 (fun h => by have := (hb _ h).1; omega) (fun h => by rcases h with h | h <;> omega)]
  exact h
theorem tk_below2 {n₀ D : Nat} {O O' : Nat → Prop} {W W' w0 : World} (h : Below n₀ w0 W) (hm : Mv (EE D) O W O' W') (hb : Wb (D + 2) O W) (hn : n₀ ≤ D) (hs : n₀ ≤ w0.heap.size) : Below n₀ w0 W' :=
  h.trans ⟨hm.os, hm.tape, hm.output, hm.size, fun k hk => hm.kept k (Nat.lt_of_lt_of_le hk (Nat.le_trans hs h.size)) (fun h => by have := (hb _ h).1; omega) (fun h => by rcases h with h | h <;> omega)⟩
/-- the call's boxes: its results, and its list -/
structure Lb (w W : World) (a b c v : Value) : Prop where
  a : Boxed W w.heap.size 33 a
  b : Boxed W (w.heap.size + 1) 3 b
  c : Boxed W (w.heap.size + 2) 24 c
  v : Boxed W (w.heap.size + 3) 33 v
theorem Lb.mv {w W W' : World} {a b c v : Value} {D : Nat} {O O' : Nat → Prop} (h : Lb w W a b c v) (hm : Mv (EE D) O W O' W') (hb : Wb (D + 2) O W) (hD : w.heap.size + 3 < D) : Lb w W' a b c v :=
  ⟨tk_box h.a hm hb (by omega), tk_box h.b hm hb (by omega), tk_box h.c hm hb (by omega), tk_box h.v hm hb hD⟩
def LI (w : World) (D : Nat) (pre : List (Tk × Nat × Nat)) (O : Nat → Prop) (W : World) : Prop := (∀ x ∈ pre, x.2.2 = 0) ∧ (∃ v, Lb w W (.slice none 0 0) (.int .i64 0) (.int .i64 0) v ∧ Vl (D + 2) O W v (pre.map (·.1))) ∧ Below w.heap.size w W
def LX (w : World) (c : Code) (pre : List (Tk × Nat × Nat)) (W : World) : Prop := c = .ret ∧ (∃ pr x, pre = pr ++ [x] ∧ x.2.2 ≠ 0 ∧ ∃ v, Lb w W (.slice none 0 0) (.int .i64 (x.2.1 : Int)) (.int .i64 (x.2.2 : Int)) v) ∧ Below w.heap.size w W
theorem LX.drew {w : World} {c : Code} {pre : List (Tk × Nat × Nat)} {W : World} (h : LX w c pre W) : LX w c pre W.drew := by
  obtain ⟨h1, ⟨pr, x, h2, h3, v, h4⟩, h5⟩ := h
  exact ⟨h1, ⟨pr, x, h2, h3, v, ⟨h4.a, h4.b, h4.c, h4.v⟩⟩, h5.drew⟩
theorem lb_set {w W : World} {a b c v : Value} (h : Lb w W a b c v) (a' b' c' : Value) (hB : Below w.heap.size w W) :
    Lb w (((W.setCell ⟨w.heap.size, 0, none⟩ a').setCell ⟨w.heap.size + 1, 0, none⟩ b').setCell ⟨w.heap.size + 2, 0, none⟩ c') a' b' c' v ∧
    (∀ i, i ≠ w.heap.size → i ≠ w.heap.size + 1 → i ≠ w.heap.size + 2 → (((W.setCell ⟨w.heap.size, 0, none⟩ a').setCell ⟨w.heap.size + 1, 0, none⟩ b').setCell ⟨w.heap.size + 2, 0, none⟩ c').heap[i]? = W.heap[i]?) ∧
    Below w.heap.size w (((W.setCell ⟨w.heap.size, 0, none⟩ a').setCell ⟨w.heap.size + 1, 0, none⟩ b').setCell ⟨w.heap.size + 2, 0, none⟩ c') := by
  have k : ∀ i, i ≠ w.heap.size → i ≠ w.heap.size + 1 → i ≠ w.heap.size + 2 → (((W.setCell ⟨w.heap.size, 0, none⟩ a').setCell ⟨w.heap.size + 1, 0, none⟩ b').setCell ⟨w.heap.size + 2, 0, none⟩ c').heap[i]? = W.heap[i]? := fun i h1 h2 h3 =>
    (Below.heap_setCell _ _ _ _ (by show i ≠ w.heap.size + 2; exact h3)).trans ((Below.heap_setCell _ _ _ _ (by show i ≠ w.heap.size + 1; exact h2)).trans (Below.heap_setCell _ _ _ _ (by show i ≠ w.heap.size; exact h1)))
  refine ⟨⟨?_, ?_, ?_, ?_⟩, k, ?_⟩
  · exact (Below.heap_setCell _ _ _ _ (by show w.heap.size ≠ w.heap.size + 2; omega)).trans ((Below.heap_setCell _ _ _ _ (by show w.heap.size ≠ w.heap.size + 1; omega)).trans (Boxed.set _ h.a))
  · exact (Below.heap_setCell _ _ _ _ (by show w.heap.size + 1 ≠ w.heap.size + 2; omega)).trans (Boxed.set b' (v := b) ((Below.heap_setCell _ _ _ _ (by show w.heap.size + 1 ≠ w.heap.size; omega)).trans h.b))
  · exact Boxed.set c' (v := c) ((Below.heap_setCell _ _ _ _ (by show w.heap.size + 2 ≠ w.heap.size + 1; omega)).trans ((Below.heap_setCell _ _ _ _ (by show w.heap.size + 2 ≠ w.heap.size; omega)).trans h.c))
  · exact (k _ (by omega) (by omega) (by omega)).trans h.v
  · exact ((hB.setCell (p := ⟨w.heap.size, 0, none⟩) (Nat.le_refl _) _).setCell (p := ⟨w.heap.size + 1, 0, none⟩) (Nat.le_succ _) _).setCell (p := ⟨w.heap.size + 2, 0, none⟩) (by show w.heap.size ≤ w.heap.size + 2; omega) _
theorem own_less {w : World} {B B' n size : Nat} {e : TypeId} {v : Value} {xs : List Value} (h : w.ownsRow B e size v n xs) (hB : B' ≤ B) : w.ownsRow B' e size v n xs := by
  refine ⟨h.1, ?_⟩
  rcases h.2 with h5 | ⟨g, cap, cur, rfl, hb', hg, h6⟩
  · exact .inl h5
  · exact .inr ⟨g, cap, cur, rfl, Nat.le_trans hB hb', hg, h6⟩
theorem own_form_tk {w : World} {base n size : Nat} {e : TypeId} {v : Value} {xs : List Value} (h : w.ownsRow base e size v n xs) : ∃ A c, v = .slice A n c := by
  rcases h.2 with ⟨rfl, h0⟩ | ⟨g, cap, cur, rfl, _⟩
  · rw [h0]; exact ⟨_, _, rfl⟩
  · exact ⟨_, _, rfl⟩
theorem tk_news (w : World) (t : Tk) (T : TypeId) (j : Nat) (u : Value) (hu : (tkC t)[j]? = some u) : (w.alloc (.cells #[.int .u8 (t.k : Int), .int .i64 (t.a : Int), .int .i64 (t.b : Int), .string t.t] T)).cell? ((⟨w.heap.size, 0, none⟩ : Addr).add j) = some u := by
  have h := heap_alloc_last w (.cells #[.int .u8 (t.k : Int), .int .i64 (t.a : Int), .int .i64 (t.b : Int), .string t.t] T)
  have hj : j < 4 := by
    have := (List.getElem?_eq_some_iff.1 hu).1
    simpa [tkC] using this
  have a0 := cell_of_row _ _ 0 _ _ _ h
  have a1 := cell_of_row _ _ 1 _ _ _ h
  have a2 := cell_of_row _ _ 2 _ _ _ h
  have a3 := cell_of_row _ _ 3 _ _ _ h
  have : j = 0 ∨ j = 1 ∨ j = 2 ∨ j = 3 := by omega
  rcases this with rfl | rfl | rfl | rfl
  · simp [tkC] at hu; subst hu; exact a0
  · simp [tkC] at hu; subst hu; exact a1
  · simp [tkC] at hu; subst hu; exact a2
  · simp [tkC] at hu; subst hu; exact a3
theorem ys_len {s : ByteArray} {i : Nat} {xs : List (Tk × Nat × Nat)} (h : Ys s i xs) : i ≤ s.size → xs.length ≤ s.size - i + 1 := by
  induction h with
  | no _ => intro _; simp
  | fin _ _ => intro _; simp
  | more h1 h2 h3 ih =>
    intro hi
    have hn := nx_ok hi h1
    have h4 := hn.2.2.2.2.1 h2
    have := ih hn.2.2.2.1
    rw [List.length_cons]
    have h5 := hn.1
    omega
theorem list_fin (w : World) (D : Nat) (hD : D = w.heap.size + 5) (pre : List (Tk × Nat × Nat)) (t : Tk) (p : Nat) (O : Nat → Prop) (W W7 : World) (v v' : Value) (o : Obj) (hall : ∀ x ∈ pre, x.2.2 = 0)
    (hLb : Lb w W (.slice none 0 0) (.int .i64 0) (.int .i64 0) v) (hVl : Vl (D + 2) O W v (pre.map (·.1))) (hB : Below w.heap.size w W) (hb : Wb (D + 2) O W) (hs : D + 2 ≤ W.heap.size)
    (h7 : W7.ownsRow (D + 2) 23 4 v' (pre.length + 1) (tkL (pre.map (·.1)) ++ tkC t)) (hg : (W.alloc o).grownBy W7 v.ownBlock) (hat : v'.ownBlock = v.ownBlock ∨ v'.ownBlock = some (W.alloc o).heap.size) :
    (Kr w.heap.size (OZ O fun b => b = w.heap.size + 4) W (W7.setCell ⟨w.heap.size + 3, 0, none⟩ v') ∧ (W7.setCell ⟨w.heap.size + 3, 0, none⟩ v').heap[D]? = W.heap[D]? ∧ (W7.setCell ⟨w.heap.size + 3, 0, none⟩ v').heap[D + 1]? = W.heap[D + 1]?) ∧
      LI w D (pre ++ [(t, p, 0)]) O (W7.setCell ⟨w.heap.size + 3, 0, none⟩ v') := by
  have hsz : (W.alloc o).heap.size = W.heap.size + 1 := by simp
  have hown : ∀ b, v.ownBlock = some b → D + 2 ≤ b ∧ b < W.heap.size := fun b h => hVl.r.lt b h
  have keep0 : ∀ b, b < W.heap.size → v.ownBlock ≠ some b → W7.heap[b]? = W.heap[b]? := fun b h1 h2 => (hg.block b (by omega) (fun e => h2 e.symm)).trans (Below.heap_alloc _ _ _ h1)
  have keep : ∀ b, b < W.heap.size → v.ownBlock ≠ some b → b ≠ w.heap.size + 3 → (W7.setCell ⟨w.heap.size + 3, 0, none⟩ v').heap[b]? = W.heap[b]? := fun b h1 h2 h3 => (Below.heap_setCell _ _ _ _ (by show b ≠ w.heap.size + 3; exact h3)).trans (keep0 b h1 h2)
  have nown : ∀ b, b < D + 2 → v.ownBlock ≠ some b := fun b h1 h2 => by have := hown b h2; omega
  have hbl : Below w.heap.size W (W7.setCell ⟨w.heap.size + 3, 0, none⟩ v') :=
    ((((Below.refl w.heap.size W).alloc (by omega) o).grown hg (by omega) (fun k hk => by have := hown k hk; omega)).setCell (p := ⟨w.heap.size + 3, 0, none⟩) (by show w.heap.size ≤ w.heap.size + 3; omega) v')
  refine ⟨⟨⟨hbl, fun b hb' => ?_⟩, keep D (by omega) (nown D (by omega)) (by omega), keep (D + 1) (by omega) (nown _ (by omega)) (by omega)⟩, ?_, ⟨v', ⟨?_, ?_, ?_, ?_⟩, ?_, ?_⟩, hB.trans hbl⟩
  · rcases hb' with h | h
    · have := hb b h
      exact keep b this.2 (fun h2 => hVl.n b h2 h) (by omega)
    · have h : b = w.heap.size + 4 := h
      exact keep b (by omega) (nown b (by omega)) (by omega)
  · intro x hx
    rcases List.mem_append.1 hx with h | h
    · exact hall x h
    · rw [List.mem_singleton.1 h]
  · exact (keep _ (by omega) (nown _ (by omega)) (by omega)).trans hLb.a
  · exact (keep _ (by omega) (nown _ (by omega)) (by omega)).trans hLb.b
  · exact (keep _ (by omega) (nown _ (by omega)) (by omega)).trans hLb.c
  · exact Boxed.set _ ((keep0 _ (by omega) (nown _ (by omega))).trans hLb.v)
  · have e1 : ((pre ++ [(t, p, 0)]).map (fun x : Tk × Nat × Nat => x.1)).length = pre.length + 1 := by simp
    have e2 : tkL ((pre ++ [(t, p, 0)]).map (fun x : Tk × Nat × Nat => x.1)) = tkL (pre.map (·.1)) ++ tkC t := by rw [List.map_append, tkL_app]; simp [tkL]
    rw [e1, e2]
    refine tk_same h7 fun b hb' => Below.heap_setCell _ _ _ _ ?_
    show b ≠ w.heap.size + 3
    have := h7.lt b hb'
    omega
  · intro b hb' hO
    rcases hat with h | h
    · exact hVl.n b (h ▸ hb') hO
    · rw [h] at hb'
      injection hb' with hb'
      have := hb b hO
      omega
theorem list_ret (w : World) (D : Nat) (hD : D = w.heap.size + 5) (pre : List (Tk × Nat × Nat)) (t : Tk) (p e : Nat) (O : Nat → Prop) (W : World) (v : Value) (he : e ≠ 0)
    (hLb : Lb w W (.slice none 0 0) (.int .i64 0) (.int .i64 0) v) (hB : Below w.heap.size w W) (_ : Wb (D + 2) O W) (_ : D + 2 ≤ W.heap.size) :
    let W' := ((W.setCell ⟨w.heap.size, 0, none⟩ (.slice none 0 0)).setCell ⟨w.heap.size + 1, 0, none⟩ (.int .i64 (p : Int))).setCell ⟨w.heap.size + 2, 0, none⟩ (.int .i64 (e : Int))
    (W'.heap[D]? = W.heap[D]? ∧ W'.heap[D + 1]? = W.heap[D + 1]?) ∧ LX w .ret (pre ++ [(t, p, e)]) W' := by
  intro W'
  have k : ∀ b, b ≠ w.heap.size → b ≠ w.heap.size + 1 → b ≠ w.heap.size + 2 → W'.heap[b]? = W.heap[b]? := fun b h1 h2 h3 =>
    (Below.heap_setCell _ _ _ _ (by show b ≠ w.heap.size + 2; exact h3)).trans ((Below.heap_setCell _ _ _ _ (by show b ≠ w.heap.size + 1; exact h2)).trans (Below.heap_setCell _ _ _ _ (by show b ≠ w.heap.size; exact h1)))
  refine ⟨⟨k _ (by omega) (by omega) (by omega), k _ (by omega) (by omega) (by omega)⟩, rfl, ⟨pre, (t, p, e), rfl, he, v, ?_, ?_, ?_, ?_⟩, ?_⟩
  · exact (Below.heap_setCell _ _ _ _ (by show w.heap.size ≠ w.heap.size + 2; omega)).trans ((Below.heap_setCell _ _ _ _ (by show w.heap.size ≠ w.heap.size + 1; omega)).trans (Boxed.set _ hLb.a))
  · exact (Below.heap_setCell _ _ _ _ (by show w.heap.size + 1 ≠ w.heap.size + 2; omega)).trans (Boxed.set (.int .i64 (p : Int)) (v := .int .i64 0) ((Below.heap_setCell _ _ _ _ (by show w.heap.size + 1 ≠ w.heap.size; omega)).trans hLb.b))
  · exact Boxed.set (.int .i64 (e : Int)) (v := .int .i64 0) ((Below.heap_setCell _ _ _ _ (by show w.heap.size + 2 ≠ w.heap.size + 1; omega)).trans ((Below.heap_setCell _ _ _ _ (by show w.heap.size + 2 ≠ w.heap.size; omega)).trans hLb.c))
  · exact (k _ (by omega) (by omega) (by omega)).trans hLb.v
  · exact ((hB.setCell (p := ⟨w.heap.size, 0, none⟩) (Nat.le_refl _) _).setCell (p := ⟨w.heap.size + 1, 0, none⟩) (Nat.le_succ _) _).setCell (p := ⟨w.heap.size + 2, 0, none⟩) (by show w.heap.size ≤ w.heap.size + 2; omega) _
section
variable {w : World}
def LsAns (R : Rs (List Tk)) (w : World) (e : Ending) (w' : World) : Prop :=
  (match R with
  | .ok L n => ∃ v, e = .returned (.tuple #[v, .int .i64 (n : Int), .int .i64 0]) ∧ w'.ownsRow w.heap.size 23 4 v L.length (tkL L)
  | .no q er => e = .returned (.tuple #[.slice none 0 0, .int .i64 (q : Int), .int .i64 (er : Int)])) ∧ Below w.heap.size w w'
theorem list_end (R : Rs (List Tk)) (w : World) (D : Nat) (W : World) (a : Act) (v : Value) (p e : Nat) (g0 : Boxed W w.heap.size 33 v) (g1 : Boxed W (w.heap.size + 1) 3 (.int .i64 (p : Int))) (g2 : Boxed W (w.heap.size + 2) 24 (.int .i64 (e : Int)))
    (gD : W.heap[D]? = some (.deferred (some []))) (hD : D = w.heap.size + 5) (hB : Below w.heap.size w W) (h2 : a.defers = [{ target := .collected D, args := #[] }])
    (t2 : a.tmps[2]? = some (.pointer (some ⟨w.heap.size, 0, none⟩))) (t3 : a.tmps[3]? = some (.pointer (some ⟨w.heap.size + 1, 0, none⟩))) (t4 : a.tmps[4]? = some (.pointer (some ⟨w.heap.size + 1 + 1, 0, none⟩)))
    (hfin : ∀ W2, (∀ b, b ≠ D → W2.heap[b]? = W.heap[b]?) → Below w.heap.size w W2 → LsAns R w (.returned (.tuple #[v, .int .i64 (p : Int), .int .i64 (e : Int)])) W2) :
    bodyPostM Fence.wide 3 Try.prog Try.f11 (LsAns R w) .ret a W := by
  obtain ⟨tmps, defers⟩ := a
  simp only at h2 t2 t3 t4
  subst h2
  refine ⟨by simp, .inl ⟨_, _, rfl, run_takeDeferred gD, ?_⟩⟩
  have k : ∀ b, b ≠ D → (W.putObj D (.deferred none)).heap[b]? = W.heap[b]? := fun b h => World.putObj_heap_other (by omega)
  have c0 : (W.putObj D (.deferred none)).cell? ⟨w.heap.size, 0, none⟩ = some v := (World.cell?_of_block (k _ (by show w.heap.size ≠ D; omega))).trans g0.cell
  have c1 : (W.putObj D (.deferred none)).cell? ⟨w.heap.size + 1, 0, none⟩ = some (.int .i64 (p : Int)) := (World.cell?_of_block (k _ (by show w.heap.size + 1 ≠ D; omega))).trans g1.cell
  have c2 : (W.putObj D (.deferred none)).cell? ⟨w.heap.size + 1 + 1, 0, none⟩ = some (.int .i64 (e : Int)) := (World.cell?_of_block (k _ (by show w.heap.size + 1 + 1 ≠ D; omega))).trans g2.cell
  refine ⟨.tuple #[v, .int .i64 (p : Int), .int .i64 (e : Int)], ?_, hfin _ k (hB.trans (belowK_b (w := w) (Nat.le_refl _) _ _ _ _ (by omega) gD rfl rfl))⟩
  have h3 : tmps[2]?.getD undef = .pointer (some ⟨w.heap.size, 0, none⟩) := by rw [t2]; rfl
  have h4 : tmps[3]?.getD undef = .pointer (some ⟨w.heap.size + 1, 0, none⟩) := by rw [t3]; rfl
  have h5 : tmps[4]?.getD undef = .pointer (some ⟨w.heap.size + 1 + 1, 0, none⟩) := by rw [t4]; rfl
  simp [results, Try.results11, go_sem, h3, h4, h5, c0, c1, c2]
attribute [local go_sem] Oper.semAt_some
theorem tall_any (s : ByteArray) (w : World) : Calls Try.prog 20 #[.string s] w fun e w' => e = .returned (.func (.func 32) #[] #[.pointer (some ⟨w.heap.size, 0, none⟩)]) ∧ w' = w.alloc (.cells #[.string s] 9) := by
  have kf : ∀ p W, (Instr.makeFunc (.func 32) #[] #[p]).run Try.prog W = .ok (.func (.func 32) #[] #[p]) W := fun _ _ => rfl
  go_enter Try.func20, Try.ntmps20
  go_wp2_with fail
  go_ret
  exact ⟨rfl, rfl⟩
set_option maxRecDepth 100000 in
set_option maxHeartbeats 8000000 in
theorem tlist_any (s : ByteArray) (hs : s.size ≤ 4194304) (R : Rs (List Tk)) (hR : Ls s 0 [] R) : Calls Try.prog 11 #[.string s] w (LsAns R w) := by
  obtain ⟨i0, hi0, hz0, hz1, hz2⟩ := info_out info_tk
  obtain ⟨xs, hxs⟩ := Ys.ex s s.size 0 (Nat.zero_le _) (Nat.le_refl _)
  have HY := Lib.hid (ys_ls hxs hR)
  have HA := Lib.hid (fun W => tall_any s W)
  obtain ⟨W4, hW4⟩ : ∃ W4, (((w.alloc (.cells #[.slice none 0 0] 33)).alloc (.cells #[.int .i64 0] 3)).alloc (.cells #[.int .i64 0] 24)).alloc (.cells #[.slice none 0 0] 33) = W4 := ⟨_, rfl⟩
  obtain ⟨W5, hW5⟩ : ∃ W5, W4.alloc (.cells #[.string s] 9) = W5 := ⟨_, rfl⟩
  have z4 : W4.heap.size = w.heap.size + 4 := by rw [← hW4]; simp
  have z5 : W5.heap.size = w.heap.size + 5 := by rw [← hW5]; simp [z4]
  have HW4 := Lib.hid hW4
  have HW5 := Lib.hid hW5
  refine callsIn_wide.1 (callsIn_of_wp_marks (n := 3) Try.func11 rfl trivial (wpIn_wide.2 ?_) rfl)
  simp only [Try.ntmps11, List.size_toArray, List.length_cons, List.length_nil, Nat.reduceAdd, Nat.reduceSub, Array.replicate_succ, Array.replicate_zero, List.push_toArray, List.append_toArray, List.nil_append, List.cons_append]
  go_wp2_with fail
  refine (HA.out _).mono ?_
  rintro e w' ⟨rfl, rfl⟩
  go_wp2_with fail
  have hz5 : W5.heap.size = w.heap.size + 5 := z5
  have B4 : Below w.heap.size w W4 := by rw [← hW4]; exact (((((Below.refl _ w).alloc (Nat.le_refl _) _).alloc (by simp) _).alloc (by simp; omega) _).alloc (by simp; omega) _)
  have B5 : Below W4.heap.size W4 W5 := by rw [← hW5]; exact (Below.refl _ _).alloc (Nat.le_refl _) _
  have hB : Boxed W5 (w.heap.size + 4) 9 (.string s) := by rw [← hW5, ← z4]; exact Boxed.new W4 _ _
  have hb5 : Below w.heap.size w W5 := B4.trans (B5.mono (by omega))
  have hL5 : Lb w W5 (.slice none 0 0) (.int .i64 0) (.int .i64 0) (.slice none 0 0) := by
    have k : ∀ i, i < w.heap.size + 4 → W5.heap[i]? = W4.heap[i]? := fun i hi => B5.block i (by omega)
    refine ⟨(k _ (by omega)).trans ?_, (k _ (by omega)).trans ?_, (k _ (by omega)).trans ?_, (k _ (by omega)).trans ?_⟩
    · rw [← hW4]; exact (((Boxed.new w 33 (.slice none 0 0)).alloc _).alloc _).alloc _
    · rw [← hW4]; have := ((Boxed.new (w.alloc (.cells #[.slice none 0 0] 33)) 3 (.int .i64 0)).alloc (.cells #[.int .i64 0] 24)).alloc (.cells #[.slice none 0 0] 33); rw [World.size_alloc] at this; exact this
    · rw [← hW4]; have := (Boxed.new ((w.alloc (.cells #[.slice none 0 0] 33)).alloc (.cells #[.int .i64 0] 3)) 24 (.int .i64 0)).alloc (.cells #[.slice none 0 0] 33); rw [World.size_alloc, World.size_alloc] at this; exact this
    · rw [← hW4]; have := Boxed.new (((w.alloc (.cells #[.slice none 0 0] 33)).alloc (.cells #[.int .i64 0] 3)).alloc (.cells #[.int .i64 0] 24)) 33 (.slice none 0 0); rw [World.size_alloc, World.size_alloc, World.size_alloc] at this; exact this
  have hI0 : LI w W5.heap.size [] No W5 := ⟨fun x hx => (by cases hx), ⟨_, hL5, ⟨World.ownsRow_nil _ _ _ _, fun b h => by cases h⟩⟩, hb5⟩
  have HG := Lib.hid (gives_tk s (by omega) xs hxs w.heap.size W5 (w.heap.size + 4) (by omega) hB)
  have HI0 := Lib.hid hI0
  clear hI0 hL5 hb5 hB B4 B5 hW4 hW5 HW4 HW5 HA hR
  refine (wpIn_wide (n := 3)).1 ?_
  refine rfz_law (Z := fun b => b = w.heap.size + 4) (gf := 32) (lb := #[.pointer (some ⟨w.heap.size + 4, 0, none⟩)]) rfl (enters_of Try.func32 (by kernel_rfl) rfl) HG.out (fun b hb => by rw [hb, z5]; omega) (by omega) (fun _ _ _ _ h => by rw [h]; rfl)
    (LI w W5.heap.size) (LX w)
    (fun pre O W O' W' h hb hm => ⟨h.1, by obtain ⟨v, h1, h2⟩ := h.2.1; exact ⟨v, h1.mv hm hb (by omega), h2.mv hm⟩, tk_below2 h.2.2 hm hb (by omega) (Nat.le_refl _)⟩)
    (fun c pre W O' W' h hm => ⟨h.1, by obtain ⟨pr, x, h1, h2, v, h3⟩ := h.2.1; exact ⟨pr, x, h1, h2, v, h3.mv hm (Wb.no _ _) (by omega)⟩, tk_below2 h.2.2 hm (Wb.no _ _) (by omega) (Nat.le_refl _)⟩) HI0.out
    (fun x O a' W => ∃ bt bf : Nat, a' = { tmps := #[.string s, undef, .pointer (some ⟨w.heap.size, 0, none⟩), .pointer (some ⟨w.heap.size + 1, 0, none⟩), .pointer (some ⟨w.heap.size + 1 + 1, 0, none⟩), .pointer (some ⟨w.heap.size + 1 + 1 + 1, 0, none⟩), .pointer (some ⟨bt, 0, none⟩), .pointer (some ⟨bf, 0, none⟩), .string s, .func (.func 32) #[] #[.pointer (some ⟨w.heap.size + 4, 0, none⟩)], TkV x.1.k x.1.a x.1.b x.1.t, .agg #[.int .i64 (x.2.1 : Int), .int .i64 (x.2.2 : Int)], undef, undef, undef, undef, undef, undef, undef, undef, undef, undef, undef, undef, undef, undef], defers := [] } ∧
      (W5.heap.size + 2 ≤ bt ∧ ¬ O bt ∧ W.heap[bt]? = some (.cells #[.int .u8 (x.1.k : Int), .int .i64 (x.1.a : Int), .int .i64 (x.1.b : Int), .string x.1.t] 23 (0, 0))) ∧
      (W5.heap.size + 2 ≤ bf ∧ ¬ O bf ∧ W.heap[bf]? = some (.cells #[.int .i64 (x.2.1 : Int), .int .i64 (x.2.2 : Int)] 54 (0, 0))))
    (fun x O a' W o h hb => by
      obtain ⟨bt, bf, h1, ⟨h2, h3, h4⟩, h5, h6, h7⟩ := h
      exact ⟨bt, bf, h1, ⟨h2, h3, (World.putObj_heap_other (by omega)).trans h4⟩, h5, h6, (World.putObj_heap_other (by omega)).trans h7⟩) ?assign ?body ?done ?stop
  case assign =>
    intro l pre x O W args K hI hb hs ha hK
    have ha2 : args = #[TkV x.1.k x.1.a x.1.b x.1.t, .agg #[.int .i64 (x.2.1 : Int), .int .i64 (x.2.2 : Int)]] := ha
    subst ha2
    obtain ⟨V, hV⟩ : ∃ V, (W.alloc (.cells #[.int .u8 (x.1.k : Int), .int .i64 (x.1.a : Int), .int .i64 (x.1.b : Int), .string x.1.t] 23)).alloc (.cells #[.int .i64 (x.2.1 : Int), .int .i64 (x.2.2 : Int)] 54) = V := ⟨_, rfl⟩
    have bv : Below W.heap.size W V := by rw [← hV]; exact ((Below.refl _ W).alloc (Nat.le_refl _) _).alloc (by simp) _
    have zv : V.heap.size = W.heap.size + 2 := by rw [← hV]; simp
    have hmv : Mv (EE W5.heap.size) O W O V := by rw [← hV]; exact ⟨rfl, rfl, rfl, by simp; omega, fun _ h => h, fun _ h => .inl h, fun b hb _ _ => (((Below.refl _ W).alloc (Nat.le_refl _) _).alloc (by simp) _).block b hb⟩
    have hOl : ∀ b, W.heap.size ≤ b → ¬ O b := fun b hb' h => by have := (hb b h).2; omega
    have k1 : V.heap[W.heap.size]? = some (.cells #[.int .u8 (x.1.k : Int), .int .i64 (x.1.a : Int), .int .i64 (x.1.b : Int), .string x.1.t] 23 (0, 0)) := by rw [← hV]; exact (((Below.refl _ _).alloc (Nat.le_refl _) _).block W.heap.size (by simp)).trans (heap_alloc_last _ _)
    have k2 : V.heap[W.heap.size + 1]? = some (.cells #[.int .i64 (x.2.1 : Int), .int .i64 (x.2.2 : Int)] 54 (0, 0)) := by
      rw [← hV]
      have := heap_alloc_last (W.alloc (.cells #[.int .u8 (x.1.k : Int), .int .i64 (x.1.a : Int), .int .i64 (x.1.b : Int), .string x.1.t] 23)) (.cells #[.int .i64 (x.2.1 : Int), .int .i64 (x.2.2 : Int)] 54)
      rw [World.size_alloc] at this
      exact this
    have hfin := hK _ V ⟨bv.mono (by omega), fun b hb' => bv.block b (by rcases hb' with h | h; exact (hb b h).2; omega)⟩ (bv.block _ (by omega)) (bv.block _ (by omega)) ⟨hI.1, by obtain ⟨v, h1, h2⟩ := hI.2.1; exact ⟨v, h1.mv hmv hb (by omega), h2.mv hmv⟩, tk_below2 hI.2.2 hmv hb (by omega) (Nat.le_refl _)⟩ ⟨W.heap.size, W.heap.size + 1, rfl, ⟨by omega, hOl _ (Nat.le_refl _), k1⟩, by omega, hOl _ (by omega), k2⟩
    have HF := Lib.hid hfin
    clear hK hI hb hs HG HI0 hfin k1 k2 hmv bv hOl HY zv
    unfold TkV at *
    gi_wp2
    exact HF.out
  case body =>
    rintro l pre ⟨t, p, e⟩ O a' W ⟨hall, ⟨v, hLb, hVl⟩, hB⟩ hb hs ⟨bt, bf, rfl, ⟨t1, t2, t3⟩, f1, f2, f3⟩ ⟨q, hq⟩
    simp only at t3 f3
    have tc0 := cell_of_row _ _ 0 _ _ _ t3
    have tc1 := cell_of_row _ _ 1 _ _ _ t3
    have tc2 := cell_of_row _ _ 2 _ _ _ t3
    have tc3 := cell_of_row _ _ 3 _ _ _ t3
    have fc0 := cell_of_row _ _ 0 _ _ _ f3
    have fc1 := cell_of_row _ _ 1 _ _ _ f3
    have la := hLb.a.cell
    have lb := hLb.b.cell
    have lc := hLb.c.cell
    have lv := hLb.v.cell
    have laf := hLb.a.frozen
    have lbf := hLb.b.frozen
    have lcf := hLb.c.frozen
    have lvf := hLb.v.frozen
    have HK := Lib.hid (And.intro hall (And.intro hLb (And.intro hVl (And.intro hB (And.intro hb (And.intro hs (And.intro t3 (And.intro hq t1))))))))
    unfold TkV
    simp only
    by_cases he : e = 0
    · subst he
      have hlen : pre.length + 1 ≤ 4194305 := by
        have h1 := ys_len hxs (Nat.zero_le _)
        rw [hq, List.length_append, List.length_cons] at h1
        omega
      have hml : (pre.map (fun x : Tk × Nat × Nat => x.1)).length = pre.length := by simp
      have hown : W.ownsRow (W5.heap.size + 2) 23 4 v pre.length (tkL (pre.map (·.1))) := by have := hVl.r; rw [hml] at this; exact this
      have HFIN : Hid (∀ v' W7 o, W7.ownsRow (W5.heap.size + 2) 23 4 v' (pre.length + 1) (tkL (pre.map (·.1)) ++ tkC t) → (W.alloc o).grownBy W7 v.ownBlock → (v'.ownBlock = v.ownBlock ∨ v'.ownBlock = some (W.alloc o).heap.size) → _) := Lib.hid fun v' W7 o h7 hg hat => list_fin w W5.heap.size z5 pre t p O W W7 v v' o hall hLb hVl hB hb hs h7 hg hat
      have HW7 : Hid (∀ W7 o, (W.alloc o).grownBy W7 v.ownBlock → W7.cell? ⟨w.heap.size + 3, 0, none⟩ = some v ∧ W7.frozen? ⟨w.heap.size + 3, 0, none⟩ = false) := Lib.hid fun W7 o hg => by
        have hbl := Boxed.lt hLb.v
        have e : W7.heap[w.heap.size + 3]? = W.heap[w.heap.size + 3]? := (hg.block _ (by simp; omega) (fun h => by have := hVl.r.lt _ h.symm; omega)).trans (Below.heap_alloc _ _ _ hbl)
        exact ⟨(World.cell?_of_block e).trans lv, (World.frozen?_of_block e).trans lvf⟩
      clear hall hLb hVl hB hb t3 f3 hq HG HI0 HY la lb lc laf lbf lcf HK
      gi_wp2_with (gi_at_builtin; refine wpListIn_append_own_at _ rfl _ _ 33 rfl (W5.heap.size + 2) 23 i0 _ 4 40 Try.underlying33 hi0 hz0 hz1 hz2 rfl (by decide) v pre.length _ rfl (hown.alloc _) ⟨W.heap.size, 0, none⟩ 1 1 (tkC t) rfl rfl (tk_news W t _) (fun y hy => by simp [tkC] at hy; rcases hy with rfl | rfl | rfl | rfl <;> rfl) (by unfold maxLen; omega) (by omega) (by simp; omega) ?_)
      intro v' w7 h7 hg7 _ hat
      obtain ⟨k0, k1⟩ := HW7.out _ _ hg7
      have hF := Lib.hid (HFIN.out v' w7 _ (by rw [z5]; exact h7) hg7 (by rw [World.size_alloc]; exact hat))
      obtain ⟨A', c', rfl⟩ := own_form_tk h7
      clear h7 hg7 hat HFIN HW7
      gi_wp2
      exact hF.out
    · have k1 : ((e : Int) != 0) = true := by simp; omega
      have HFR := Lib.hid (list_ret w W5.heap.size z5 pre t p e O W v he hLb hB hb hs)
      clear hall hLb hVl hB hb hs t3 f3 hq HG HI0 HY lv lvf HK
      gi_wp2
      gi_region
      all_goals
        gi_wp2
        first | exact ⟨HFR.out.1, HFR.out.2.drew⟩ | exact HFR.out
  case done =>
    rintro O W ⟨hall, ⟨v, hLb, hVl⟩, hB⟩ hK
    obtain ⟨A', c', rfl⟩ := own_form_tk hVl.r
    have la := hLb.a.cell
    have lb := hLb.b.cell
    have lc := hLb.c.cell
    have lv := hLb.v.cell
    have laf := hLb.a.frozen
    have lbf := hLb.b.frozen
    have lcf := hLb.c.frozen
    have HR2 : Hid (R = .ok ([] ++ xs.map (·.1)) s.size) := Lib.hid (HY.out.1 hall)
    have HK := Lib.hid (And.intro hLb (And.intro hVl (And.intro hB hK)))
    clear hall hLb hVl hB hK HG HI0 HY
    have HSET := Lib.hid (lb_set HK.out.1 (.slice A' (xs.map (fun x : Tk × Nat × Nat => x.1)).length c') (.int .i64 (s.size : Int)) (.int .i64 0) HK.out.2.2.1)
    have HOWN : Hid (∀ W2 : World, (∀ b, b ≠ W5.heap.size → W2.heap[b]? = (((W.setCell ⟨w.heap.size, 0, none⟩ (.slice A' (xs.map (fun x : Tk × Nat × Nat => x.1)).length c')).setCell ⟨w.heap.size + 1, 0, none⟩ (.int .i64 (s.size : Int))).setCell ⟨w.heap.size + 2, 0, none⟩ (.int .i64 0)).heap[b]?) → W2.ownsRow w.heap.size 23 4 (.slice A' (xs.map (fun x : Tk × Nat × Nat => x.1)).length c') (xs.map (fun x : Tk × Nat × Nat => x.1)).length (tkL (xs.map (·.1)))) := Lib.hid fun W2 h2 =>
      own_less (tk_same HK.out.2.1.r fun b hb' => by
        have := HK.out.2.1.r.lt b hb'
        exact (h2 b (by omega)).trans (HSET.out.2.1 b (by omega) (by omega) (by omega))) (by omega)
    have hlm : (xs.map (fun x : Tk × Nat × Nat => x.1)).length = xs.length := by simp
    go_wp2_with fail
    rw [hlm] at HSET HOWN
    refine list_end R w W5.heap.size _ _ (.slice A' xs.length c') s.size 0 HSET.out.1.a HSET.out.1.b HSET.out.1.c ((HSET.out.2.1 _ (by omega) (by omega) (by omega)).trans HK.out.2.2.2) z5 HSET.out.2.2 (by rw [z5]) rfl rfl rfl (fun W2 h2 hb2 => ?_)
    rw [HR2.out]
    refine ⟨⟨_, rfl, ?_⟩, hb2⟩
    have := HOWN.out W2 h2
    simpa using this
  case stop =>
    rintro c pre W ⟨q, hq⟩ ⟨rfl, ⟨pr, x, rfl, hx, v, hLb⟩, hB⟩ hK
    have HR2 : Hid (R = .no x.2.1 x.2.2) := Lib.hid (HY.out.2 pr x q (by rw [hq]; simp) hx)
    have HK := Lib.hid (And.intro hLb (And.intro hB hK))
    clear hLb hB hK HG HI0 HY hq
    gi_wp2
    go_wp2_with fail
    exact list_end R w W5.heap.size W _ (.slice none 0 0) x.2.1 x.2.2 HK.out.1.a HK.out.1.b HK.out.1.c HK.out.2.2 z5 HK.out.2.1 rfl rfl rfl rfl (fun W2 _ hb2 => by rw [HR2.out]; exact ⟨rfl, hb2⟩)
end
end Go.Proofs.Ytaopjeobapnhbaa.nn
