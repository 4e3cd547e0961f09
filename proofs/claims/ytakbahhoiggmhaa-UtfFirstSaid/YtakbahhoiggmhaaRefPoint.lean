/- The walk of the document's Point. -/
import Derived.Test.YtakbahhoiggmhaaPoint
namespace Go.Proofs.Ytakbahhoiggmhaa.nn
open Go.RowKit

theorem empty_of {s : ByteArray} (h : s.size = 0) : s = ⟨#[]⟩ := by
  apply ByteArray.ext
  exact Array.eq_empty_of_size_eq_zero h

theorem hd_mask' {x k : Nat} (hx : x < 256) (h2 : 2 ≤ k) (h4 : k ≤ 4) : bits .and .i64 (x : Int) (255 / 2 ^ (k + 1)) = ((x % 2 ^ (7 - k) : Nat) : Int) := by
  match k, h2, h4 with
  | 2, _, _ => exact (i64_and_nat x 31 (by omega) (by decide)).trans (by rw [and_mask x 5])
  | 3, _, _ => exact (i64_and_nat x 15 (by omega) (by decide)).trans (by rw [and_mask x 4])
  | 4, _, _ => exact (i64_and_nat x 7 (by omega) (by decide)).trans (by rw [and_mask x 3])
theorem nonempty {s : ByteArray} (h : 0 < s.size) : s.toList.isEmpty = false := by
  have e : s.toList = s.data.toList := ByteArray.toList_eq s
  rw [e, List.isEmpty_eq_false_iff]
  intro h2
  have : s.data.toList.length = 0 := by rw [h2]; rfl
  have h3 : s.size = s.data.toList.length := rfl
  omega

set_option maxRecDepth 100000 in
set_option maxHeartbeats 1000000 in
theorem rpoint_any (s : ByteArray) (w : World) (hs : s.size ≤ maxLen) :
    Calls Try.prog 16 #[.string s] w fun r w' => r = .returned (.tuple #[.int .i64 (ptV (bt s) s.size : Int), .int .i64 (ptK (bt s) s.size : Int)]) ∧ Below w.heap.size w w' := by
  unfold maxLen at hs
  by_cases h0 : s.size = 0
  · have hA := pok_no (f := bt s) (n := s.size) (.inl h0)
    rw [hA.1, hA.2]
    clear hA
    obtain rfl := empty_of h0
    clear h0
    go_enter Try.func16, Try.ntmps16
    go_wp2
    go_ret2
    exact ⟨rfl, Below.refl _ _⟩
  · have hC := fun wz => need_any (bt s 0) wz (bt_lt s 0)
    have hb0 : bt s 0 = (s[0]'(by omega)).toNat := bt_at (by omega)
    have hk5 := nd_lt (bt s 0)
    have hx := bt_lt s 0
    obtain ⟨k, hk⟩ : ∃ k, nd (bt s 0) = k := ⟨_, rfl⟩
    rw [hk] at hC hk5
    have HK := Lib.hid hk
    rw [hb0] at hC
    have HC := Lib.hid hC
    have h0' : 0 < s.size := by omega
    have hne : s.toList.isEmpty = false := nonempty h0'
    by_cases hbad : k = 0 ∨ s.size < k
    · have hA := pok_no (f := bt s) (n := s.size) (by rw [hk]; rcases hbad with h | h; exact .inr (.inl h); exact .inr (.inr (.inl h)))
      rw [hA.1, hA.2]
      by_cases hk0 : k = 0
      · subst hk0
        clear hA hbad hC hb0 hk hx hk5
        go_enter Try.func16, Try.ntmps16
        go_wp2_with fail
        refine (HC.out _).mono ?_
        rintro r w1 ⟨rfl, rfl⟩
        go_wp2_with fail
        go_ret2
        exact ⟨rfl, Below.refl _ _⟩
      · have hb' : s.size < k := by omega
        have q1 : ((k : Int) == 0) = false := by simp; omega
        clear hA hbad hC hb0 hk hx
        go_enter Try.func16, Try.ntmps16
        go_wp2_with fail
        refine (HC.out _).mono ?_
        rintro r w1 ⟨rfl, rfl⟩
        go_wp2_with fail
        go_ret2
        exact ⟨rfl, Below.refl _ _⟩
    · have q1 : ((k : Int) == 0) = false := by simp; omega
      have q2 : k ≤ s.size := by omega
      have hfy := first_yes (f := bt s) (N := -1) (i := 0) rfl rfl (by rw [hk]; omega) (.inl (by omega))
      rw [hk] at hfy
      have HY := Lib.hid hfy
      by_cases hk1 : k = 1
      · subst hk1
        have hA := pok_yes (f := bt s) (n := s.size) (by omega) hk (by omega) q2 (aw_al hfy.1)
        have HA := Lib.hid hA
        have E1 : wrap64 ((s[0]'(by omega)).toNat : Int) = (bt s 0 : Int) := by rw [← hb0]; exact wrap64_nat (by omega)
        have HE := Lib.hid E1
        clear hA hbad hC hb0 hk hfy E1
        go_enter Try.func16, Try.ntmps16
        go_wp2_with fail
        refine (HC.out _).mono ?_
        rintro r w1 ⟨rfl, rfl⟩
        go_wp2_with fail
        go_ret2
        refine ⟨?_, Below.refl _ _⟩
        rw [HA.out.1, HA.out.2]
        exact congrArg (fun x => Ending.returned (.tuple #[.int .i64 x, .int .i64 1])) HE.out
      · have q3 : ((k : Int) == 1) = false := by simp; omega
        have E1 : wrap64 ((s[0]'(by omega)).toNat : Int) = (bt s 0 : Int) := by rw [← hb0]; exact wrap64_nat (by omega)
        have h2k : 2 ≤ k := by
          rcases nd_cases (bt s 0) with h | h | h | h | h <;> omega
        have E2 : bits .and .i64 (bt s 0 : Int) (255 / 2 ^ (k + 1)) = (pv (bt s) k 0 : Int) := by
          rw [hd_mask' hx h2k (by omega)]
          unfold pv hdv
          rw [if_neg hk1]
        have HB := Lib.hid hb0
        clear hbad hC hb0 hk hfy
        go_enter Try.func16, Try.ntmps16
        go_wp2_with fail
        refine (HC.out _).mono ?_
        rintro r w1 ⟨rfl, rfl⟩
        go_wp2_with fail
        go_quiet (fail)
        go_wp2_with fail
        have hbw := Lib.hid (drew_below (Below.refl w.heap.size w) nq)
        generalize w.drewN nq = wd at hbw ⊢
        clear E1 E2
        go_loopw [5, 6] (fun s5 s6 wr => ∃ p : Nat, 1 ≤ p ∧ p ≤ k ∧ s5 = .int .i64 (pv (bt s) k (p - 1) : Int) ∧ s6 = .int .i64 (p : Int) ∧ Hid (aw (bt s) (-1) (0 + p) = true) ∧ Hid (In (bt s) 0 p k) ∧ Hid (Below w.heap.size w wr)) (fun _ s6 _ => k - (intOf s6).toNat)
        case atStart => exact ⟨1, by omega, by omega, rfl, rfl, Lib.hid HY.out.1, Lib.hid HY.out.2, hbw⟩
        case round =>
          obtain ⟨p, hp1, hpk, rfl, rfl, haw, hin, hb⟩ := hrel
          by_cases hlt : p < k
          · have hls : p < s.size := by omega
            have hbj := bt_at hls
            have hC2 := fun wz => (may_any (bt s 0) p (bt s p) wz (bt_lt s 0) (bt_lt s _) (by omega)).mono (fun _ _ h => And.intro h.1 h.2.symm)
            by_cases hy : my (bt s 0) p (bt s p) = true
            · have hz : 0 + p = p := Nat.zero_add _
              have hy2 : my (bt s 0) p (bt s (0 + p)) = true := by rw [hz]; exact hy
              obtain ⟨z1, z2⟩ := next_yes haw.out hin.out hlt (by omega) hy2
              have Z1 := Lib.hid z1
              have Z2 := Lib.hid z2
              rw [hy, HB.out, hbj] at hC2
              have HC2 := Lib.hid hC2
              have hbl := bt_lt s p
              have hv := pv_le (bt s) k hx (j := p - 1) (by omega)
              have H3 : Hid (pv (bt s) k p = pv (bt s) k (p - 1) * 64 + bt s p % 64) := Lib.hid (by obtain ⟨j, rfl⟩ : ∃ j, p = j + 1 := ⟨p - 1, by omega⟩; rfl)
              obtain ⟨b, hbb⟩ : ∃ b, bt s p = b := ⟨_, rfl⟩
              obtain ⟨v, hvv⟩ : ∃ v, pv (bt s) k (p - 1) = v := ⟨_, rfl⟩
              rw [hbb] at hbj hbl
              rw [hvv] at hv
              have E3 : s[p].toNat = b := hbj.symm
              have hq : b % 64 < 64 := Nat.mod_lt _ (by decide)
              have E6 : bits .or .i64 ((v : Int) * 64) ((b : Int) % 64) = ((v * 64 + b % 64 : Nat) : Int) := i64_join v (b % 64) (Nat.lt_trans hv (by decide)) hq
              have E7 : wrap64 (b : Int) = (b : Int) := wrap64_nat (Nat.lt_trans hbl (by decide))
              have E4 : bits .and .i64 (b : Int) 63 = (b : Int) % 64 := i64_63 b (Nat.lt_trans hbl (by decide))
              have HV := Lib.hid (And.intro hbb hvv)
              have HE := Lib.hid (And.intro E3 (And.intro E6 (And.intro E7 E4)))
              rw [hvv]
              clear hbj hbb hvv z1 z2 hy hy2 hC2 hz E3 E4 E6 E7
              go_wp2_with fail
              go_quiet ((go_at_call 29; exact Calls.quiet_of_same (HC2.out _)))
              obtain ⟨E3, E6, E7, E4⟩ := HE.out
              go_wp2_with fail
              clear E3 E6 E7 E4
              go_roundw
              case rel => exact ⟨p + 1, by omega, by omega, by rw [Nat.add_sub_cancel, H3.out, HV.out.1, HV.out.2]; first | rfl | go_num, by go_num, Z1, Z2, Lib.hid (drew_below hb.out _)⟩
              case measure => simp [intOf]; omega
            · have hy' : my (bt s 0) p (bt s p) = false := by simpa using hy
              have hz : 0 + p = p := Nat.zero_add _
              have z1 := next_no (aw_al haw.out) hin.out hlt (by rw [hz]; exact hy')
              rw [hz] at z1
              have hA := pok_no (f := bt s) (n := s.size) (.inr (.inr (.inr (dead z1 (by rw [HK.out]; omega)))))
              have HA := Lib.hid hA
              rw [hy', HB.out, hbj] at hC2
              have HC2 := Lib.hid hC2
              clear z1 hy hy' hC2 hbj hA hz
              go_wp2_with fail
              go_quiet ((go_at_call 29; exact Calls.quiet_of_same (HC2.out _)))
              go_wp2_with fail
              go_ret2
              exact ⟨ret_two HA.out.2.symm HA.out.1.symm, drew_below hb.out _⟩
          · obtain rfl : p = k := by omega
            have hA := pok_yes (f := bt s) (n := s.size) (by omega) HK.out (by omega) q2 (by have := aw_al haw.out; rwa [Nat.zero_add] at this)
            have HA := Lib.hid hA
            clear hA
            go_wp2_with fail
            go_ret2
            exact ⟨ret_two HA.out.2.symm HA.out.1.symm, hb.out⟩
end Go.Proofs.Ytakbahhoiggmhaa.nn
