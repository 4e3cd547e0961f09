/- The walks of Bits, Shl, Shr, and of Bytes as far as its length goes. -/
import Derived.Test.YtnikoojgoiobjaaDoorShiftDown
import Derived.Test.YtnikoojgoiobjaaDoorBitsNum
namespace Go.Proofs.YtnikoojgoiobjaaDoor.nn
open Go.RowKit

theorem bits_val {f : Nat → Nat} {n j : Nat} (lf : Lt (2 ^ 32) f n) (h : tr f n = j + 1) : bl (sm (2 ^ 32) f n) = 32 * j + bl (f j) ∧ f j ≠ 0 ∧ j < n := by
  have hle := tr_le f n
  have ht := tr_trm f n
  rw [h] at ht hle
  have hne : f j ≠ 0 := by
    rcases ht with ht | ht
    · omega
    · simpa using ht
  rw [← sm_tr, h]
  exact ⟨bl_sm 32 (lf.mono hle) hne, hne, by omega⟩

set_option maxRecDepth 100000 in
set_option maxHeartbeats 400000 in
theorem bits_any (A : Option Addr) (n c : Nat) (f : Nat → Nat) (w : World) (hA : Rd w .u32 A n f) (lf : Lt (2 ^ 32) f n) (hn : n ≤ c) (hc : c ≤ maxLen) (hreach : n * 4 ≤ 140737488355328) :
    Calls Tryd.prog 25 #[.slice A n c] w fun e w' => e = .returned (.int .i64 (bl (sm (2 ^ 32) f n))) ∧ w = w' := by
  have HT := Lib.hid (trim_any A n c f w hA hn hc)
  have hle := tr_le f n
  rcases hj : tr f n with _ | j
  · have H0 : Hid (bl (sm (2 ^ 32) f n) = 0) := by
      rw [← sm_tr, hj]; rfl
    rw [hj] at HT
    clear hj
    go_enter Tryd.func25, Tryd.ntmps25
    go_wp2_with (go_at_call 30; refine HT.out.mono ?_; rintro e w' ⟨rfl, rfl⟩)
    go_ret
    exact ⟨by rw [H0.out]; rfl, rfl⟩
  · obtain ⟨h1, h2, h3⟩ := bits_val lf hj
    have bx := lf j h3
    have hlen := Lib.hid ((Go.Proofs.Tryd.bits_Len32 (f j : Int) w (by omega) (by omega)).mono (R' := fun e w' => e = .returned (.int .i64 (bl (f j))) ∧ w = w') (by
      rintro e w' ⟨rfl, rfl⟩
      exact ⟨by rw [Int.toNat_natCast, bitLen_bl 32 _ bx (by omega)], rfl⟩))
    have H1 := Lib.hid h1
    rw [hj] at HT hle
    have hbl : bl (f j) ≤ 32 := by
      rcases Nat.lt_or_ge 32 (bl (f j)) with h | h
      · have h4 := (bl_ge h2).1
        have h5 : 2 ^ 32 ≤ 2 ^ (bl (f j) - 1) := Nat.pow_le_pow_right (by decide) (by omega)
        omega
      · exact h
    obtain ⟨b, off, rfl, _, hcell⟩ := hA (by omega)
    have hx := hcell j h3
    clear h1 h2 hj hcell
    go_enter Tryd.func25, Tryd.ntmps25
    go_wp2_with (first
      | (go_at_call 30; refine HT.out.mono ?_; rintro e w' ⟨rfl, rfl⟩)
      | (go_at_call 47; refine hlen.out.mono ?_; rintro e w' ⟨rfl, rfl⟩))
    go_ret
    refine ⟨ret_int ?_, rfl⟩
    rw [H1.out]
    omega

/-- what Shl and Shr answer -/
def shlR (n : Nat) (f : Nat → Nat) (z : Int) : Nat := if 4096 < tr f n ∨ z < 0 ∨ sm (2 ^ 32) f n = 0 ∨ 131072 - (bl (sm (2 ^ 32) f n) : Int) < z then 0 else sm (2 ^ 32) f n * 2 ^ z.toNat
def shlE (n : Nat) (f : Nat → Nat) (z : Int) : Nat := if 4096 < tr f n then 2 else if z < 0 then 1 else if sm (2 ^ 32) f n = 0 then 0 else if 131072 - (bl (sm (2 ^ 32) f n) : Int) < z then 2 else 0
def shrR (n : Nat) (f : Nat → Nat) (z : Int) : Nat := if 4096 < tr f n ∨ z < 0 then 0 else sm (2 ^ 32) f n / 2 ^ z.toNat
def shrE (n : Nat) (f : Nat → Nat) (z : Int) : Nat := if 4096 < tr f n then 2 else if z < 0 then 1 else 0

theorem shiftDown_any (A : Option Addr) (n c s : Nat) (f : Nat → Nat) (w : World) (hA : Rd w .u32 A n f) (lf : Lt (2 ^ 32) f n) (hn : n ≤ c) (hcm : c ≤ maxLen) (hreach : n * 4 ≤ 140737488355328) (hb : s ≤ 9223372036854775807) :
    Calls Tryd.prog 42 #[.slice A n c, .int .i64 s] w fun e w' => One w w' e (sm (2 ^ 32) f n / 2 ^ s) n := by
  rcases Nat.lt_or_ge (s / 32) n with h | h
  · exact shiftDown_some A n c s (s / 32) (s % 32) f w hA lf (by omega) (by omega) h hn hcm hreach
  · exact shiftDown_none A n c s (s / 32) (s % 32) f w lf (by omega) (by omega) h hb

set_option maxRecDepth 100000 in
set_option maxHeartbeats 400000 in
theorem shr_any (A : Option Addr) (n c : Nat) (z : Int) (f : Nat → Nat) (w : World) (hA : Rd w .u32 A n f) (lf : Lt (2 ^ 32) f n) (hn : n ≤ c) (hc : c ≤ maxLen) (hz : z ≤ 9223372036854775807) :
    Calls Tryd.prog 18 #[.slice A n c, .int .i64 z] w fun e w' => Res w w' e (shrR n f z) (shrE n f z) := by
  have hle := tr_le f n
  unfold maxLen at hc
  by_cases hl : 4096 < tr f n
  · have hd := Lib.hid (decide_eq_true hl)
    have H1 : Hid (shrR n f z = 0) := if_pos (.inl hl)
    have H2 : Hid (shrE n f z = 2) := if_pos hl
    clear hl
    go_enter Tryd.func18, Tryd.ntmps18
    go_wp2_with (go_at_call 27; refine (long_one _ _ _ _ _ _ hA hn (by unfold maxLen; omega) true hd.out).mono ?_; rintro e w' ⟨rfl, rfl⟩)
    go_ret2
    rw [H1.out, H2.out]
    exact ⟨none, 0, 0, _, rfl, num_nil _, (Below.refl _ _).alloc (Nat.le_refl _) _⟩
  · have hd := Lib.hid (decide_eq_false hl)
    by_cases hz0 : z < 0
    · have H1 : Hid (shrR n f z = 0) := if_pos (.inr hz0)
      have H2 : Hid (shrE n f z = 1) := (if_neg hl).trans (if_pos hz0)
      clear hl
      go_enter Tryd.func18, Tryd.ntmps18
      go_wp2_with (go_at_call 27; refine (long_one _ _ _ _ _ _ hA hn (by unfold maxLen; omega) false hd.out).mono ?_; rintro e w' ⟨rfl, rfl⟩)
      go_ret2
      rw [H1.out, H2.out]
      exact ⟨none, 0, 0, _, rfl, num_nil _, (Below.refl _ _).alloc (Nat.le_refl _) _⟩
    · obtain ⟨s, rfl⟩ := Int.eq_ofNat_of_zero_le (show 0 ≤ z by omega)
      have H1 : Hid (shrR n f s = sm (2 ^ 32) f (tr f n) / 2 ^ s) := by
        have : ¬ (4096 < tr f n ∨ (s : Int) < 0) := by omega
        show shrR n f s = _
        rw [shrR, if_neg this, Int.toNat_natCast, sm_tr]
      have H2 : Hid (shrE n f s = 0) := (if_neg hl).trans (if_neg hz0)
      have bs : s ≤ 9223372036854775807 := by omega
      have HD := Lib.hid (shiftDown_any A (tr f n) c s f (w.alloc (.cells #[.slice A n c] 22)) ((hA.alloc _).mono hle) (lf.mono hle) (by omega) (by unfold maxLen; omega) (by omega) bs)
      clear hl hz0 hz
      go_enter Tryd.func18, Tryd.ntmps18
      go_wp2_with (first
        | (go_at_call 27; refine (long_one _ _ _ _ _ _ hA hn (by unfold maxLen; omega) false hd.out).mono ?_; rintro e w' ⟨rfl, rfl⟩)
        | (go_at_call 30; refine (trim_any _ _ _ _ _ (hA.alloc _) hn (by unfold maxLen; omega)).mono ?_; rintro e w' ⟨rfl, rfl⟩)
        | (go_at_call 42; refine HD.out.mono ?_; rintro e w' ⟨A3, n3, c3, f3, rfl, hn3, _, hb3⟩))
      go_ret2
      rw [H1.out, H2.out]
      exact ⟨A3, n3, c3, f3, rfl, hn3, ((Below.refl _ _).alloc (Nat.le_refl _) _).trans (hb3.mono (by rw [hsz]; omega))⟩

set_option maxRecDepth 100000 in
set_option maxHeartbeats 1000000 in
theorem shl_any (A : Option Addr) (n c : Nat) (z : Int) (f : Nat → Nat) (w : World) (hA : Rd w .u32 A n f) (lf : Lt (2 ^ 32) f n) (hn : n ≤ c) (hc : c ≤ maxLen) (hreach : n * 4 ≤ 140737488355328) (hz : z ≤ 9223372036854775807) (hzl : -9223372036854775808 ≤ z) :
    Calls Tryd.prog 17 #[.slice A n c, .int .i64 z] w fun e w' => Res w w' e (shlR n f z) (shlE n f z) := by
  have hle := tr_le f n
  unfold maxLen at hc
  by_cases hl : 4096 < tr f n
  · have hd := Lib.hid (decide_eq_true hl)
    have H1 : Hid (shlR n f z = 0) := if_pos (.inl hl)
    have H2 : Hid (shlE n f z = 2) := if_pos hl
    clear hl
    go_enter Tryd.func17, Tryd.ntmps17
    go_wp2_with (go_at_call 27; refine (long_one _ _ _ _ _ _ hA hn (by unfold maxLen; omega) true hd.out).mono ?_; rintro e w' ⟨rfl, rfl⟩)
    go_ret2
    rw [H1.out, H2.out]
    exact ⟨none, 0, 0, _, rfl, num_nil _, (Below.refl _ _).alloc (Nat.le_refl _) _⟩
  · have hd := Lib.hid (decide_eq_false hl)
    have hbw : Below w.heap.size w (w.alloc (.cells #[.slice A n c] 22)) := (Below.refl _ _).alloc (Nat.le_refl _) _
    by_cases hz0 : z < 0
    · have H1 : Hid (shlR n f z = 0) := if_pos (.inr (.inl hz0))
      have H2 : Hid (shlE n f z = 1) := (if_neg hl).trans (if_pos hz0)
      clear hl
      go_enter Tryd.func17, Tryd.ntmps17
      go_wp2_with (go_at_call 27; refine (long_one _ _ _ _ _ _ hA hn (by unfold maxLen; omega) false hd.out).mono ?_; rintro e w' ⟨rfl, rfl⟩)
      go_ret2
      rw [H1.out, H2.out]
      exact ⟨none, 0, 0, _, rfl, num_nil _, hbw⟩
    · have HB := Lib.hid (bits_any A n c f (w.alloc (.cells #[.slice A n c] 22)) (hA.alloc _) lf hn (by unfold maxLen; omega) hreach)
      by_cases hv0 : sm (2 ^ 32) f n = 0
      · have H1 : Hid (shlR n f z = 0) := if_pos (.inr (.inr (.inl hv0)))
        have H2 : Hid (shlE n f z = 0) := (if_neg hl).trans ((if_neg hz0).trans (if_pos hv0))
        rw [hv0, bl_zero] at HB
        clear hl hv0
        go_enter Tryd.func17, Tryd.ntmps17
        go_wp2_with (first
          | (go_at_call 27; refine (long_one _ _ _ _ _ _ hA hn (by unfold maxLen; omega) false hd.out).mono ?_; rintro e w' ⟨rfl, rfl⟩)
          | (go_at_call 25; refine HB.out.mono ?_; rintro e w' ⟨rfl, rfl⟩))
        go_ret2
        rw [H1.out, H2.out]
        exact ⟨none, 0, 0, _, rfl, num_nil _, hbw⟩
      · have hbl0 := (bl_ge hv0).2
        have hblm : bl (sm (2 ^ 32) f n) ≤ 131072 := by
          have h1 := sm_lt (lf.mono hle)
          rw [sm_tr, ← Nat.pow_mul] at h1
          have := bl_le h1
          omega
        obtain ⟨K, hK⟩ : ∃ K, bl (sm (2 ^ 32) f n) = K := ⟨_, rfl⟩
        rw [hK] at HB hbl0 hblm
        have HK := Lib.hid hK
        by_cases hbig : 131072 - (K : Int) < z
        · have H1 : Hid (shlR n f z = 0) := if_pos (.inr (.inr (.inr (by rw [hK]; exact hbig))))
          have H2 : Hid (shlE n f z = 2) := (if_neg hl).trans ((if_neg hz0).trans ((if_neg hv0).trans (if_pos (by rw [hK]; exact hbig))))
          clear hl hv0 hK
          go_enter Tryd.func17, Tryd.ntmps17
          go_wp2_with (first
            | (go_at_call 27; refine (long_one _ _ _ _ _ _ hA hn (by unfold maxLen; omega) false hd.out).mono ?_; rintro e w' ⟨rfl, rfl⟩)
            | (go_at_call 25; refine HB.out.mono ?_; rintro e w' ⟨rfl, rfl⟩))
          go_ret2
          rw [H1.out, H2.out]
          exact ⟨none, 0, 0, _, rfl, num_nil _, hbw⟩
        · obtain ⟨s, rfl⟩ := Int.eq_ofNat_of_zero_le (show 0 ≤ z by omega)
          have H1 : Hid (shlR n f s = sm (2 ^ 32) f (tr f n) * 2 ^ s) := by
            have : ¬ (4096 < tr f n ∨ (s : Int) < 0 ∨ sm (2 ^ 32) f n = 0 ∨ 131072 - (bl (sm (2 ^ 32) f n) : Int) < s) := by rw [hK]; omega
            show shlR n f s = _
            rw [shlR, if_neg this, Int.toNat_natCast, sm_tr]
          have H2 : Hid (shlE n f s = 0) := (if_neg hl).trans ((if_neg hz0).trans ((if_neg hv0).trans (if_neg (by rw [hK]; exact hbig))))
          have HD := Lib.hid (shiftUp_any A (tr f n) c s (s / 32) (s % 32) f (w.alloc (.cells #[.slice A n c] 22)) ((hA.alloc _).mono hle) (lf.mono hle) (by omega) (by omega) (by omega))
          clear hl hz0 hv0 hK
          go_enter Tryd.func17, Tryd.ntmps17
          go_wp2_with (first
            | (go_at_call 27; refine (long_one _ _ _ _ _ _ hA hn (by unfold maxLen; omega) false hd.out).mono ?_; rintro e w' ⟨rfl, rfl⟩)
            | (go_at_call 25; refine HB.out.mono ?_; rintro e w' ⟨rfl, rfl⟩)
            | (go_at_call 30; refine (trim_any _ _ _ _ _ (hA.alloc _) hn (by unfold maxLen; omega)).mono ?_; rintro e w' ⟨rfl, rfl⟩)
            | (go_at_call 41; refine HD.out.mono ?_; rintro e w' ⟨A3, n3, c3, f3, rfl, hn3, _, hb3⟩))
          go_ret2
          rw [H1.out, H2.out]
          exact ⟨A3, n3, c3, f3, rfl, hn3, hbw.trans (hb3.mono (by rw [hsz]; omega))⟩
end Go.Proofs.YtnikoojgoiobjaaDoor.nn
