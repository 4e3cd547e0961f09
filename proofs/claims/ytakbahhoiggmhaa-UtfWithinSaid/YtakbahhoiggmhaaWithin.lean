/- The walks of Within, and of the document's Within. -/
import Derived.Test.YtakbahhoiggmhaaCheck
namespace Go.Proofs.Ytakbahhoiggmhaa.nn
open Go.RowKit

set_option maxRecDepth 100000 in
set_option maxHeartbeats 1000000 in
theorem within_any (s : ByteArray) (n : Int) (w : World) (hs : s.size ≤ maxLen) (hn : -9223372036854775808 ≤ n) (hn' : n ≤ maxLen) (N m : Nat) (hN : max n 0 = (N : Int)) (hm : min s.size N = m) :
    Calls Try.prog 12 #[.string s, .int .i64 n] w fun r w' => r = .returned (.tuple #[.int .i64 (spw (bt s) N m : Int), .int .i64 (wE (bt s) N m : Int)]) ∧ Below w.heap.size w w' := by
  unfold maxLen at hs hn'
  have q2 : min (s.size : Int) (N : Int) = (m : Int) := by omega
  obtain ⟨s', hs'⟩ : ∃ s', s.extract 0 m = s' := ⟨_, rfl⟩
  have hsz : s'.size = m := by rw [← hs', ByteArray.size_extract]; omega
  have hbt : ∀ i, i < m → bt s i = bt s' i := fun i hi => by
    subst hs'
    have h1 : i < s.size := by omega
    have h2 : i < (s.extract 0 m).size := by omega
    rw [bt_at h1, bt_at h2, ByteArray.getElem_extract]
    simp
  have HBT := Lib.hid hbt
  have HM := Lib.hid hm
  have hmN : m ≤ N := by omega
  have hN' : (N : Int) ≤ 9223372036854775807 := by omega
  clear hm hbt
  go_enter Try.func12, Try.ntmps12
  go_wp2
  have HQ := Lib.hid (And.intro hsz hN)
  clear q2 hs' hsz hN
  go_loopw [18] (fun s18 wr => ∃ i : Nat, i ≤ m ∧ s18 = .int .i64 (i : Int) ∧ Hid (aw (bt s) N i = true) ∧ Hid (Sc wr w.heap.size 45 [] (tk (bt s) t0 i)) ∧ Hid (Below w.heap.size w wr)) (fun s18 _ => m - (intOf s18).toNat)
  case atStart => exact ⟨0, Nat.zero_le _, rfl, Lib.hid rfl, Lib.hid (sc_new w), Lib.hid ((Below.refl _ _).alloc (Nat.le_refl _) _)⟩
  case round =>
    obtain ⟨i, hi, rfl, haw, hsc, hb⟩ := hrel
    by_cases hlt : i < m
    · have hC := take_any (tk (bt s) t0 i) w.heap.size 0 45 [] (bt s i) wr hsc.out rfl (bt_lt s i) (gd_lt (gd_go gd_zero i))
      have h2 : i < s'.size := by rw [HQ.out.1]; exact hlt
      have hx : bt s i = s'[i].toNat := (HBT.out i hlt).trans (bt_at h2)
      by_cases hy : ok (tk (bt s) t0 i) (bt s i) = true
      · have ha1 : al (bt s) t0 (i + 1) = true := by rw [al_succ, aw_al haw.out, hy]; rfl
        have htk : tk (bt s) t0 (i + 1) = nx (tk (bt s) t0 i) (bt s i) := tk_succ (aw_al haw.out)
        rw [hy, hx] at hC
        rw [hx] at htk
        have HT := Lib.hid htk
        have HC := Lib.hid hC
        have hc4 := gd_lt (gd_go gd_zero (i + 1) (f := bt s))
        obtain ⟨c, hc⟩ : ∃ c, (tk (bt s) t0 (i + 1)).c = c := ⟨_, rfl⟩
        rw [hc] at hc4
        by_cases hr : c + (i + 1) ≤ N
        · have haw1 := Lib.hid (aw_mk haw.out ha1 (.inr (by rw [hc]; omega)))
          have HCC := Lib.hid hc
          have hr' : (c : Int) ≤ (N : Int) - ((i : Int) + 1) := by omega
          clear hy hx hC htk ha1 hc
          go_wp2_with fail
          refine HC.out.mono ?_
          rintro r w1 ⟨rfl, hb1, hs1⟩
          have c0 := hs1.c0 (off := 0) rfl
          rw [← HT.out, HCC.out] at c0
          have hs2 : Hid (Sc w1 w.heap.size 45 [] (tk (bt s) t0 (i + 1))) := Lib.hid (by rw [HT.out]; exact hs1)
          have hb2 := Lib.hid (hb.out.trans hb1)
          clear hs1 hb1
          go_wp2_with fail
          go_roundw
          case rel => exact ⟨i + 1, by omega, by go_num, haw1, hs2, hb2⟩
          case measure => simp [intOf]; omega
        · have hno : aw (bt s) N (i + 1) = false := by
            have h3 : ¬ ((N : Int) < 0 ∨ ((tk (bt s) t0 (i + 1)).c : Int) + (i + 1) ≤ N) := by rw [hc]; omega
            rw [aw, decide_eq_false h3]
            simp
          have HA := Lib.hid (ans_no haw.out hno hlt)
          have HCC := Lib.hid hc
          have hr' : (N : Int) - ((i : Int) + 1) < (c : Int) := by omega
          clear hy hx hC htk ha1 hc hno
          go_wp2_with fail
          refine HC.out.mono ?_
          rintro r w1 ⟨rfl, hb1, hs1⟩
          have c0 := hs1.c0 (off := 0) rfl
          rw [← HT.out, HCC.out] at c0
          have hb2 := Lib.hid (hb.out.trans hb1)
          clear hs1 hb1
          go_wp2_with fail
          go_ret2
          exact ⟨ret_two HA.out.1.symm HA.out.2.symm, hb2.out⟩
      · have hy' : ok (tk (bt s) t0 i) (bt s i) = false := by simpa using hy
        have hno : aw (bt s) N (i + 1) = false := by
          have : al (bt s) t0 (i + 1) = false := by rw [al_succ, hy']; simp
          rw [aw, this]
          simp
        have HA := Lib.hid (ans_no haw.out hno hlt)
        rw [hy', hx] at hC
        have HC := Lib.hid hC
        clear hy hx hC hno hy'
        go_wp2_with fail
        refine HC.out.mono ?_
        rintro r w1 ⟨rfl, hb1, hs1⟩
        have hb2 := Lib.hid (hb.out.trans hb1)
        clear hs1 hb1
        go_wp2_with fail
        go_ret2
        exact ⟨ret_two HA.out.1.symm HA.out.2.symm, hb2.out⟩
    · obtain rfl : i = m := by omega
      have hsz := HQ.out.1
      by_cases hl : i < N
      · have HA := Lib.hid (ans_less (f := bt s) (N := N) haw.out (by omega))
        go_wp2_with fail
        go_ret2
        exact ⟨ret_two HA.out.1.symm HA.out.2.symm, hb.out⟩
      · obtain rfl : i = N := by omega
        have hz : (tk (bt s) t0 i).c = 0 := by
          by_cases h0 : 0 < i
          · have := aw_room haw.out h0
            omega
          · obtain rfl : i = 0 := by omega
            rfl
        have HA := Lib.hid (ans_all (f := bt s) (N := i) haw.out hz (by omega))
        clear hz
        go_wp2_with fail
        go_ret2
        exact ⟨ret_two HA.out.1.symm HA.out.2.symm, hb.out⟩

theorem rwithin2_any (s : ByteArray) (n : Int) (w : World) (hs : s.size ≤ maxLen) (hn : -9223372036854775808 ≤ n) (hn' : n ≤ maxLen) (N m : Nat) (hN : max n 0 = (N : Int)) (hm : min s.size N = m) :
    Calls Try.prog 13 #[.string s, .int .i64 n] w fun r w' => r = .returned (.tuple #[.int .i64 (spw (bt s) N m : Int), .int .i64 (wE (bt s) N m : Int)]) ∧ Below w.heap.size w w' := by
  have q2 : min (s.size : Int) (N : Int) = (m : Int) := by omega
  obtain ⟨s', hs'⟩ : ∃ s', s.extract 0 m = s' := ⟨_, rfl⟩
  have hsz : s'.size = m := by rw [← hs', ByteArray.size_extract]; omega
  have hbt : ∀ i, i < m → bt s i = bt s' i := fun i hi => by
    subst hs'
    have h1 : i < s.size := by omega
    have h2 : i < (s.extract 0 m).size := by omega
    rw [bt_at h1, bt_at h2, ByteArray.getElem_extract]
    simp
  have hC := rwithin_any s' N w (by omega) (by omega) (by unfold maxLen at *; omega)
  rw [hsz, ← spw_congr hbt, ← wE_congr hbt] at hC
  have HC := Lib.hid hC
  unfold maxLen at hs hn'
  clear hm hbt hC
  go_enter Try.func13, Try.ntmps13
  go_wp2_with fail
  refine HC.out.mono ?_
  rintro r w1 ⟨rfl, hb⟩
  go_wp2_with fail
  go_ret2
  exact ⟨rfl, hb⟩
end Go.Proofs.Ytakbahhoiggmhaa.nn
