/- The walk of the document's within, and its Check and Within. -/
import Derived.Test.YtakbahhoiggmhaaRefNeed
import Derived.Test.YtakbahhoiggmhaaTakeAll
import Derived.Lib.MinMax
import Derived.IntWalk
import Derived.BigQuiet
import Derived.Deep.QuietTactic
namespace Go.Proofs.Ytakbahhoiggmhaa.nn
open Go.RowKit

theorem drew_below {B : Nat} {a w : World} (h : Below B a w) (j : Nat) : Below B a (w.drewN j) := ⟨h.os, h.tape, h.output, h.size, h.block⟩
theorem ret_two {a b c d : Nat} (h1 : a = b) (h2 : c = d) : Ending.returned (.tuple #[.int .i64 (a : Int), .int .i64 (c : Int)]) = .returned (.tuple #[.int .i64 (b : Int), .int .i64 (d : Int)]) := by rw [h1, h2]
theorem nd_lt (x : Nat) : nd x < 5 := by have := nd_cases x; omega

set_option maxRecDepth 100000 in
set_option maxHeartbeats 1000000 in
theorem rwithin_any (s : ByteArray) (n : Int) (w : World) (hs : s.size ≤ maxLen) (hn : -1 ≤ n) (hn' : n ≤ maxLen) :
    Calls Try.prog 25 #[.string s, .int .i64 n] w fun r w' => r = .returned (.tuple #[.int .i64 (spw (bt s) n s.size : Int), .int .i64 (wE (bt s) n s.size : Int)]) ∧ Below w.heap.size w w' := by
  unfold maxLen at hs hn'
  go_enter Try.func25, Try.ntmps25
  go_wp2
  go_loopw [6] (fun s6 wr => ∃ i : Nat, i ≤ s.size ∧ s6 = .int .i64 (i : Int) ∧ Hid (aw (bt s) n i = true) ∧ Hid ((tk (bt s) t0 i).c = 0) ∧ Hid (Below w.heap.size w wr)) (fun s6 _ => s.size - (intOf s6).toNat)
  case atStart => exact ⟨0, Nat.zero_le _, rfl, Lib.hid rfl, Lib.hid rfl, Lib.hid (Below.refl _ _)⟩
  case round =>
    obtain ⟨i, hi, rfl, haw, hc, hb⟩ := hrel
    by_cases hlt : i < s.size
    · have hC := need_any (bt s i) wr (bt_lt s i)
      have hbi := bt_at hlt
      have hk5 := nd_lt (bt s i)
      obtain ⟨k, hk⟩ : ∃ k, nd (bt s i) = k := ⟨_, rfl⟩
      rw [hk] at hC hk5
      have HK := Lib.hid hk
      rw [hbi] at hC
      have HC := Lib.hid hC
      have HBI := Lib.hid hbi
      clear hC hbi hk
      by_cases hbad : k = 0 ∨ 0 ≤ n ∧ n < (k : Int) + i
      · have hno : aw (bt s) n (i + 1) = false := first_no (aw_al haw.out) hc.out (by rw [HK.out]; exact hbad)
        have HA := Lib.hid (ans_no haw.out hno hlt)
        clear hno
        by_cases hk0 : k = 0
        · subst hk0
          clear hbad
          go_wp2_with fail
          refine HC.out.mono ?_
          rintro r w1 ⟨rfl, rfl⟩
          go_wp2_with fail
          go_ret2
          exact ⟨ret_two HA.out.1.symm HA.out.2.symm, hb.out⟩
        · have h0 : 0 ≤ n := by omega
          have h1 : n - i < (k : Int) := by omega
          clear hbad
          go_wp2_with fail
          refine HC.out.mono ?_
          rintro r w1 ⟨rfl, rfl⟩
          go_wp2_with fail
          go_ret2
          exact ⟨ret_two HA.out.1.symm HA.out.2.symm, hb.out⟩
      · have hk0 : k ≠ 0 := by omega
        have hroom : n < 0 ∨ (k : Int) + i ≤ n := by omega
        obtain ⟨hy1, hy2⟩ := first_yes haw.out hc.out (by rw [HK.out]; exact hk0) (by rw [HK.out]; exact hroom)
        rw [HK.out] at hy2
        have HY1 := Lib.hid hy1
        have HY2 := Lib.hid hy2
        clear hy1 hy2 hbad
        by_cases h0 : 0 ≤ n
        all_goals
          first | (have h1 : (k : Int) ≤ n - i := by omega) | (have h1 : n < 0 := by omega)
          clear hroom
          have q1 : ((k : Int) == 0) = false := by simp; omega
          have q2 : n < 0 ∨ decide (n - (i : Int) < (k : Int)) = false := by first | exact .inl h1 | exact .inr (decide_eq_false (by omega))
          first | (have q3 := q2.resolve_left (by omega)) | skip
          clear q2
          go_wp2_with fail
          refine HC.out.mono ?_
          rintro r w1 ⟨rfl, rfl⟩
          go_wp2_with fail
          go_loopw [8] (fun s8 wq => ∃ j : Nat, 1 ≤ j ∧ j ≤ k ∧ i + j ≤ s.size ∧ s8 = .int .i64 (j : Int) ∧ Hid (aw (bt s) n (i + j) = true) ∧ Hid (In (bt s) i j k) ∧ Hid (Below w.heap.size w wq)) (fun s8 _ => k - (intOf s8).toNat)
          case atStart => exact ⟨1, by omega, by omega, by omega, rfl, HY1, HY2, hb⟩
          case round =>
            obtain ⟨j, hj1, hjk, hij, rfl, hawj, hin, hbq⟩ := hrel
            by_cases hj : j < k
            · by_cases he : i + j < s.size
              · have hbj := bt_at he
                have hC2 := fun wz => (may_any (bt s i) j (bt s (i + j)) wz (bt_lt s i) (bt_lt s _) (by omega)).mono (fun _ _ h => And.intro h.1 h.2.symm)
                by_cases hy : my (bt s i) j (bt s (i + j)) = true
                · obtain ⟨z1, z2⟩ := next_yes hawj.out hin.out hj hj1 hy
                  have Z1 := Lib.hid z1
                  have Z2 := Lib.hid z2
                  rw [hy, hbj, HBI.out] at hC2
                  have HC2 := Lib.hid hC2
                  clear z1 z2 hy hC2 hbj
                  go_wp2_with fail
                  have k1 : IntKind.i64.wrap ((i : Int) + (j : Int)) = (i : Int) + (j : Int) := IntWalk.i64_in _ (by omega)
                  have k2 : 0 ≤ (i : Int) + (j : Int) := by omega
                  have k3 : ((i : Int) + (j : Int)).toNat = i + j := by omega
                  go_quiet ((go_at_call 29; exact Calls.quiet_of_same (HC2.out _)))
                  clear k1
                  go_wp2_with fail
                  go_roundw
                  case rel => exact ⟨j + 1, by omega, by omega, by omega, by go_num, Z1, Z2, Lib.hid (drew_below hbq.out _)⟩
                  case measure => simp [intOf]; omega
                · have hy' : my (bt s i) j (bt s (i + j)) = false := by simpa using hy
                  have z1 : aw (bt s) n (i + j + 1) = false := by
                    cases hh : aw (bt s) n (i + j + 1) with
                    | false => rfl
                    | true => have := next_no (aw_al hawj.out) hin.out hj hy'; rw [aw_al hh] at this; cases this
                  have HA := Lib.hid (ans_no hawj.out z1 he)
                  rw [hy', hbj, HBI.out] at hC2
                  have HC2 := Lib.hid hC2
                  clear z1 hy hy' hC2 hbj
                  go_wp2_with fail
                  have k1 : IntKind.i64.wrap ((i : Int) + (j : Int)) = (i : Int) + (j : Int) := IntWalk.i64_in _ (by omega)
                  have k2 : 0 ≤ (i : Int) + (j : Int) := by omega
                  have k3 : ((i : Int) + (j : Int)).toNat = i + j := by omega
                  go_quiet ((go_at_call 29; exact Calls.quiet_of_same (HC2.out _)))
                  clear k1
                  go_wp2_with fail
                  go_ret2
                  exact ⟨ret_two HA.out.1.symm HA.out.2.symm, drew_below hbq.out _⟩
              · have hE : i + j = s.size := by omega
                have hA := ans_short (f := bt s) (N := n) (m := i + j) hawj.out (by rw [hin.out.1]; omega)
                rw [hE] at hA
                have HA := Lib.hid hA
                clear hA
                go_wp2_with fail
                go_ret2
                exact ⟨ret_two HA.out.1.symm HA.out.2.symm, hbq.out⟩
            · obtain rfl : j = k := by omega
              have HC0 := Lib.hid (in_end hin.out)
              go_wp2_with fail
              go_roundw
              case rel => exact ⟨i + j, by omega, by go_num, hawj, HC0, hbq⟩
              case measure => simp [intOf]; omega
    · obtain rfl : i = s.size := by omega
      by_cases hl : (s.size : Int) < n
      · have HA := Lib.hid (ans_less haw.out hl)
        by_cases h0 : 0 ≤ n
        · go_wp2_with fail
          go_ret2
          exact ⟨ret_two HA.out.1.symm HA.out.2.symm, hb.out⟩
        · omega
      · have HA := Lib.hid (ans_all haw.out hc.out hl)
        by_cases h0 : 0 ≤ n
        · go_wp2_with fail
          go_ret2
          exact ⟨ret_two HA.out.1.symm HA.out.2.symm, hb.out⟩
        · go_wp2_with fail
          go_ret2
          exact ⟨ret_two HA.out.1.symm HA.out.2.symm, hb.out⟩
end Go.Proofs.Ytakbahhoiggmhaa.nn
