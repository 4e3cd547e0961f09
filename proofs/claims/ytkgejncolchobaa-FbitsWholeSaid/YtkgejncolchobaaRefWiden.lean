/- The walk of the document's Widen. -/
import Derived.Test.YtkgejncolchobaaRefExact
namespace Go.Proofs.Ytkgejncolchobaa.nn
open Go.RowKit

def bia (k : Nat) : Nat := if k = 16 then 15 else if k = 32 then 127 else 1023
def wdm (k x : Nat) : Nat := fr k x * 2 ^ (52 - fb k)
/-- how far m goes to the left until its highest bit is bit 52 -/
def nrm (m : Nat) : Nat := 52 - m.log2
def clk (k x : Nat) : Nat := cl5 (xb k) (ex k x) (fr k x)
/-- the bits of width 64 -/
def wdV (k x : Nat) : Nat :=
  if clk k x = 0 then jv (sg k x) 0 0 else if clk k x = 2 then jv (sg k x) (ex k x + 1023 - bia k) (wdm k x) else if clk k x = 1 then (if k = 64 then x else jv (sg k x) (1024 - bia k - nrm (wdm k x)) (wdm k x * 2 ^ nrm (wdm k x) - 4503599627370496)) else jv (sg k x) 2047 (wdm k x)
def wiV (k : Int) (x : Nat) : Nat := if fits k x then wdV k.toNat x else 0
def WiAns (k : Int) (x : Nat) (W : World) (e : Ending) (W' : World) : Prop := e = .returned (.tuple #[.int .u64 (wiV k x : Int), .int .i64 (paE k x : Int)]) ∧ Below W.heap.size W W'
theorem ret_wi {a c : Int} (h1 : a = c) : Ending.returned (.tuple #[.int .u64 a, .int .i64 0]) = .returned (.tuple #[.int .u64 c, .int .i64 0]) := by rw [h1]
theorem nrm_lt {m t : Nat} (hm : 0 < m) (hb : m < 4503599627370496) : (t < nrm m ↔ m * 2 ^ t < 4503599627370496) := by
  have h1 := Nat.log2_self_le (n := m) (by omega)
  have h2 := Nat.lt_log2_self (n := m)
  have h3 : m.log2 < 52 := (Nat.log2_lt (by omega)).2 hb
  unfold nrm
  constructor
  · intro h
    have h4 : m * 2 ^ t < 2 ^ (m.log2 + 1) * 2 ^ t := Nat.mul_lt_mul_of_pos_right h2 (Nat.two_pow_pos t)
    rw [← Nat.pow_add] at h4
    have h5 : 2 ^ (m.log2 + 1 + t) ≤ 2 ^ 52 := pow_up (by omega)
    exact Nat.lt_of_lt_of_le h4 h5
  · intro h
    rcases Nat.lt_or_ge t (52 - m.log2) with h' | h'
    · exact h'
    · have h4 : 2 ^ m.log2 * 2 ^ t ≤ m * 2 ^ t := Nat.mul_le_mul_right _ h1
      rw [← Nat.pow_add] at h4
      have h5 : 2 ^ 52 ≤ 2 ^ (m.log2 + t) := pow_up (by omega)
      exact absurd (Nat.lt_of_le_of_lt (Nat.le_trans h5 h4) h) (by decide)
theorem nrm_hi {m : Nat} (hm : 0 < m) (hb : m < 4503599627370496) : m * 2 ^ nrm m < 9007199254740992 ∧ 4503599627370496 ≤ m * 2 ^ nrm m := by
  have h1 := Nat.log2_self_le (n := m) (by omega)
  have h2 := Nat.lt_log2_self (n := m)
  have h3 : m.log2 < 52 := (Nat.log2_lt (by omega)).2 hb
  unfold nrm
  have h4 : m * 2 ^ (52 - m.log2) < 2 ^ (m.log2 + 1) * 2 ^ (52 - m.log2) := Nat.mul_lt_mul_of_pos_right h2 (Nat.two_pow_pos _)
  have h5 : 2 ^ m.log2 * 2 ^ (52 - m.log2) ≤ m * 2 ^ (52 - m.log2) := Nat.mul_le_mul_right _ h1
  rw [← Nat.pow_add] at h4 h5
  rw [show m.log2 + 1 + (52 - m.log2) = 53 by omega] at h4
  rw [show m.log2 + (52 - m.log2) = 52 by omega] at h5
  rw [show (2 : Nat) ^ 53 = 9007199254740992 by decide] at h4
  rw [show (2 : Nat) ^ 52 = 4503599627370496 by decide] at h5
  exact ⟨h4, h5⟩
theorem and_low (a : Nat) (h1 : 4503599627370496 ≤ a) (h2 : a < 9007199254740992) : bits .and .u64 (a : Int) 4503599627370495 = ((a - 4503599627370496 : Nat) : Int) := by
  rw [show (4503599627370495 : Int) = ((2 ^ 52 - 1 : Nat) : Int) from rfl, u64_and_nat a (2 ^ 52 - 1) (by omega) (by decide), and_mask a 52]
  have : a % 2 ^ 52 = a - 4503599627370496 := by rw [show (2 : Nat) ^ 52 = 4503599627370496 by decide]; omega
  rw [this]

set_option maxRecDepth 100000 in
set_option maxHeartbeats 2000000 in
theorem widen_16 (x : Nat) (w : World) (X M c : Nat) (S : Bool) (hX : X ≤ 31) (hM : M < 1024) (_ : x < 18446744073709551616)
    (HP : Hid (Calls Try.prog 13 #[.int .i64 16, .int .u64 (x : Int)] w fun e W' => e = .returned (.tuple #[.bool S, .int .i64 (X : Int), .int .u64 (M : Int), .int .i64 0]) ∧ Below w.heap.size w W'))
    (HW : Hid (∀ w, Calls Try.prog 29 #[.int .i64 16] w fun e w' => e = .returned (.tuple #[.int .i64 5, .int .i64 10]) ∧ w = w'))
    (HC : Hid (∀ w, Calls Try.prog 11 #[.int .i64 16, .int .u64 (x : Int)] w fun e W' => e = .returned (.tuple #[.int .i64 (c : Int), .int .i64 0]) ∧ Below w.heap.size w W'))
    (hc : c = 0 ∨ (c = 1 ∧ 0 < M ∧ X = 0) ∨ (c = 2 ∧ 0 < X ∧ X < 31) ∨ c = 3 ∨ c = 4) :
    Calls Try.prog 16 #[.int .i64 16, .int .u64 (x : Int)] w fun e W' => e = .returned (.tuple #[.int .u64 ((if c = 0 then jv S 0 0 else if c = 2 then jv S (X + 1023 - 15) (M * 4398046511104) else if c = 1 then jv S (1024 - 15 - nrm (M * 4398046511104)) (M * 4398046511104 * 2 ^ nrm (M * 4398046511104) - 4503599627370496) else jv S 2047 (M * 4398046511104) : Nat) : Int), .int .i64 0]) ∧ Below w.heap.size w W' := by
  rcases hc with rfl | ⟨rfl, hM0, rfl⟩ | ⟨rfl, hX0, hXT⟩ | rfl | rfl
  · rw [if_pos rfl]
    go_enter Try.func16, Try.ntmps16
    go_wp2_with fail
    refine HP.out.mono ?_
    rintro e w1 ⟨rfl, hb⟩
    have HB := Lib.hid hb
    have HC' := Lib.hid (HC.out w1)
    clear hb
    go_wp2_with fail
    refine (HW.out _).mono ?_
    rintro e w2 ⟨rfl, rfl⟩
    go_wp2_with fail
    refine HC'.out.mono ?_
    rintro e w2 ⟨rfl, hb2⟩
    have HB2 := Lib.hid (HB.out.trans (hb2.mono HB.out.size))
    clear hb2 HB HC'
    go_wp2_with fail
    refine (rjoin_any S 0 0 _ (by omega) (by omega)).mono ?_
    rintro e w3 ⟨rfl, rfl⟩
    go_wp2_with fail
    go_ret2
    exact ⟨ret_wi rfl, HB2.out⟩
  · rw [if_neg (by decide), if_neg (by decide), if_pos rfl]
    obtain ⟨N, hN⟩ : ∃ N, M * 4398046511104 = N := ⟨_, rfl⟩
    have hNi : (M : Int) * 4398046511104 = (N : Int) := by omega
    have hN0 : 0 < N := by omega
    have hNb : N < 4503599627370496 := by omega
    rw [hN]
    have hhi := nrm_hi hN0 hNb
    have hnl : nrm N ≤ 52 := by unfold nrm; omega
    have HNL := Lib.hid (fun t => nrm_lt (t := t) hN0 hNb)
    obtain ⟨t, ht⟩ : ∃ t, nrm N = t := ⟨_, rfl⟩
    rw [ht] at hhi hnl HNL ⊢
    clear hN ht
    go_enter Try.func16, Try.ntmps16
    go_wp2_with fail
    refine HP.out.mono ?_
    rintro e w1 ⟨rfl, hb⟩
    have HB := Lib.hid hb
    have HC' := Lib.hid (HC.out w1)
    clear hb
    go_wp2_with fail
    refine (HW.out _).mono ?_
    rintro e w2 ⟨rfl, rfl⟩
    go_wp2_with fail
    refine HC'.out.mono ?_
    rintro e w2 ⟨rfl, hb2⟩
    have HB2 := Lib.hid (HB.out.trans (hb2.mono HB.out.size))
    clear hb2 HB HC'
    go_wp2_with fail
    go_loopw [8, 7] (fun s8 s7 wr => ∃ (j u : Nat) (y : Int), j ≤ t ∧ u < 9007199254740992 ∧ s8 = .int .u64 (u : Int) ∧ s7 = .int .i64 y ∧ y = 1009 - (j : Int) ∧ Hid (u = N * 2 ^ j ∧ Below w.heap.size w wr)) (fun _ s7 _ => (intOf s7).toNat)
    case atStart => exact ⟨0, N, 1009, Nat.zero_le _, by omega, by first | rfl | (rw [hNi]), rfl, by omega, Lib.hid ⟨by simp, HB2.out⟩⟩
    case round =>
      obtain ⟨j, u, y, hj, hu, rfl, rfl, hy, hI⟩ := hrel
      have hlj := HNL.out j
      rw [← hI.out.1] at hlj
      by_cases hlt : j < t
      · have hus := hlj.1 hlt
        have q5 : ((u : Int) / 4503599627370496 == 0) = true := by simp; omega
        have hI2 : Hid (u * 2 = N * 2 ^ (j + 1) ∧ Below w.heap.size w wr) := Lib.hid ⟨by rw [Nat.pow_succ, ← Nat.mul_assoc, ← hI.out.1], hI.out.2⟩
        clear hlj
        go_wp2_with fail
        go_roundw
        case rel => exact ⟨j + 1, u * 2, _, hlt, by omega, by go_num, rfl, by omega, hI2⟩
        case measure => simp [intOf]; omega
      · obtain rfl : j = t := by omega
        have hus : 4503599627370496 ≤ u := by omega
        have q5 : ((u : Int) / 4503599627370496 == 0) = false := by simp; omega
        have t9 := and_low u hus hu
        obtain ⟨v, hv⟩ : ∃ v, u - 4503599627370496 = v := ⟨_, rfl⟩
        rw [hv] at t9
        have hvb : v < 4503599627370496 := by omega
        have HV := Lib.hid hv
        have hyn : y = ((1009 - j : Nat) : Int) := by omega
        have hjs : 1009 - j < 2048 := by omega
        clear hlj hv hy
        obtain ⟨z, hz⟩ : ∃ z, 1009 - j = z := ⟨_, rfl⟩
        rw [hz] at hyn hjs
        subst hyn
        have HZ := Lib.hid hz
        clear hz
        go_wp2_with fail
        refine (rjoin_any S z v _ hjs hvb).mono ?_
        rintro e w3 ⟨rfl, rfl⟩
        go_wp2_with fail
        go_ret2
        exact ⟨ret_wi (by rw [← hI.out.1, HV.out, ← HZ.out]), hI.out.2⟩
  · rw [if_neg (by decide), if_pos rfl]
    obtain ⟨Y, hY⟩ : ∃ Y, X + 1023 - 15 = Y := ⟨_, rfl⟩
    obtain ⟨N, hN⟩ : ∃ N, M * 4398046511104 = N := ⟨_, rfl⟩
    have hYi : (X : Int) - 15 + 1023 = (Y : Int) := by omega
    have hNi : (M : Int) * 4398046511104 = (N : Int) := by omega
    have hYb : Y < 2048 := by omega
    have hNb : N < 4503599627370496 := by omega
    rw [hY, hN]
    clear hY hN
    go_enter Try.func16, Try.ntmps16
    go_wp2_with fail
    refine HP.out.mono ?_
    rintro e w1 ⟨rfl, hb⟩
    have HB := Lib.hid hb
    have HC' := Lib.hid (HC.out w1)
    clear hb
    go_wp2_with fail
    refine (HW.out _).mono ?_
    rintro e w2 ⟨rfl, rfl⟩
    go_wp2_with fail
    refine HC'.out.mono ?_
    rintro e w2 ⟨rfl, hb2⟩
    have HB2 := Lib.hid (HB.out.trans (hb2.mono HB.out.size))
    clear hb2 HB HC'
    go_wp2_with fail
    refine (rjoin_any S Y N _ hYb hNb).mono ?_
    rintro e w3 ⟨rfl, rfl⟩
    go_wp2_with fail
    go_ret2
    exact ⟨ret_wi rfl, HB2.out⟩
  · rw [if_neg (by decide), if_neg (by decide), if_neg (by decide)]
    obtain ⟨N, hN⟩ : ∃ N, M * 4398046511104 = N := ⟨_, rfl⟩
    have hNi : (M : Int) * 4398046511104 = (N : Int) := by omega
    have hNb : N < 4503599627370496 := by omega
    rw [hN]
    clear hN
    go_enter Try.func16, Try.ntmps16
    go_wp2_with fail
    refine HP.out.mono ?_
    rintro e w1 ⟨rfl, hb⟩
    have HB := Lib.hid hb
    have HC' := Lib.hid (HC.out w1)
    clear hb
    go_wp2_with fail
    refine (HW.out _).mono ?_
    rintro e w2 ⟨rfl, rfl⟩
    go_wp2_with fail
    refine HC'.out.mono ?_
    rintro e w2 ⟨rfl, hb2⟩
    have HB2 := Lib.hid (HB.out.trans (hb2.mono HB.out.size))
    clear hb2 HB HC'
    go_wp2_with fail
    refine (rjoin_any S 2047 N _ (by omega) hNb).mono ?_
    rintro e w3 ⟨rfl, rfl⟩
    go_wp2_with fail
    go_ret2
    exact ⟨ret_wi rfl, HB2.out⟩
  · rw [if_neg (by decide), if_neg (by decide), if_neg (by decide)]
    obtain ⟨N, hN⟩ : ∃ N, M * 4398046511104 = N := ⟨_, rfl⟩
    have hNi : (M : Int) * 4398046511104 = (N : Int) := by omega
    have hNb : N < 4503599627370496 := by omega
    rw [hN]
    clear hN
    go_enter Try.func16, Try.ntmps16
    go_wp2_with fail
    refine HP.out.mono ?_
    rintro e w1 ⟨rfl, hb⟩
    have HB := Lib.hid hb
    have HC' := Lib.hid (HC.out w1)
    clear hb
    go_wp2_with fail
    refine (HW.out _).mono ?_
    rintro e w2 ⟨rfl, rfl⟩
    go_wp2_with fail
    refine HC'.out.mono ?_
    rintro e w2 ⟨rfl, hb2⟩
    have HB2 := Lib.hid (HB.out.trans (hb2.mono HB.out.size))
    clear hb2 HB HC'
    go_wp2_with fail
    refine (rjoin_any S 2047 N _ (by omega) hNb).mono ?_
    rintro e w3 ⟨rfl, rfl⟩
    go_wp2_with fail
    go_ret2
    exact ⟨ret_wi rfl, HB2.out⟩
set_option maxRecDepth 100000 in
set_option maxHeartbeats 2000000 in
theorem widen_32 (x : Nat) (w : World) (X M c : Nat) (S : Bool) (hX : X ≤ 255) (hM : M < 8388608) (_ : x < 18446744073709551616)
    (HP : Hid (Calls Try.prog 13 #[.int .i64 32, .int .u64 (x : Int)] w fun e W' => e = .returned (.tuple #[.bool S, .int .i64 (X : Int), .int .u64 (M : Int), .int .i64 0]) ∧ Below w.heap.size w W'))
    (HW : Hid (∀ w, Calls Try.prog 29 #[.int .i64 32] w fun e w' => e = .returned (.tuple #[.int .i64 8, .int .i64 23]) ∧ w = w'))
    (HC : Hid (∀ w, Calls Try.prog 11 #[.int .i64 32, .int .u64 (x : Int)] w fun e W' => e = .returned (.tuple #[.int .i64 (c : Int), .int .i64 0]) ∧ Below w.heap.size w W'))
    (hc : c = 0 ∨ (c = 1 ∧ 0 < M ∧ X = 0) ∨ (c = 2 ∧ 0 < X ∧ X < 255) ∨ c = 3 ∨ c = 4) :
    Calls Try.prog 16 #[.int .i64 32, .int .u64 (x : Int)] w fun e W' => e = .returned (.tuple #[.int .u64 ((if c = 0 then jv S 0 0 else if c = 2 then jv S (X + 1023 - 127) (M * 536870912) else if c = 1 then jv S (1024 - 127 - nrm (M * 536870912)) (M * 536870912 * 2 ^ nrm (M * 536870912) - 4503599627370496) else jv S 2047 (M * 536870912) : Nat) : Int), .int .i64 0]) ∧ Below w.heap.size w W' := by
  rcases hc with rfl | ⟨rfl, hM0, rfl⟩ | ⟨rfl, hX0, hXT⟩ | rfl | rfl
  · rw [if_pos rfl]
    go_enter Try.func16, Try.ntmps16
    go_wp2_with fail
    refine HP.out.mono ?_
    rintro e w1 ⟨rfl, hb⟩
    have HB := Lib.hid hb
    have HC' := Lib.hid (HC.out w1)
    clear hb
    go_wp2_with fail
    refine (HW.out _).mono ?_
    rintro e w2 ⟨rfl, rfl⟩
    go_wp2_with fail
    refine HC'.out.mono ?_
    rintro e w2 ⟨rfl, hb2⟩
    have HB2 := Lib.hid (HB.out.trans (hb2.mono HB.out.size))
    clear hb2 HB HC'
    go_wp2_with fail
    refine (rjoin_any S 0 0 _ (by omega) (by omega)).mono ?_
    rintro e w3 ⟨rfl, rfl⟩
    go_wp2_with fail
    go_ret2
    exact ⟨ret_wi rfl, HB2.out⟩
  · rw [if_neg (by decide), if_neg (by decide), if_pos rfl]
    obtain ⟨N, hN⟩ : ∃ N, M * 536870912 = N := ⟨_, rfl⟩
    have hNi : (M : Int) * 536870912 = (N : Int) := by omega
    have hN0 : 0 < N := by omega
    have hNb : N < 4503599627370496 := by omega
    rw [hN]
    have hhi := nrm_hi hN0 hNb
    have hnl : nrm N ≤ 52 := by unfold nrm; omega
    have HNL := Lib.hid (fun t => nrm_lt (t := t) hN0 hNb)
    obtain ⟨t, ht⟩ : ∃ t, nrm N = t := ⟨_, rfl⟩
    rw [ht] at hhi hnl HNL ⊢
    clear hN ht
    go_enter Try.func16, Try.ntmps16
    go_wp2_with fail
    refine HP.out.mono ?_
    rintro e w1 ⟨rfl, hb⟩
    have HB := Lib.hid hb
    have HC' := Lib.hid (HC.out w1)
    clear hb
    go_wp2_with fail
    refine (HW.out _).mono ?_
    rintro e w2 ⟨rfl, rfl⟩
    go_wp2_with fail
    refine HC'.out.mono ?_
    rintro e w2 ⟨rfl, hb2⟩
    have HB2 := Lib.hid (HB.out.trans (hb2.mono HB.out.size))
    clear hb2 HB HC'
    go_wp2_with fail
    go_loopw [8, 7] (fun s8 s7 wr => ∃ (j u : Nat) (y : Int), j ≤ t ∧ u < 9007199254740992 ∧ s8 = .int .u64 (u : Int) ∧ s7 = .int .i64 y ∧ y = 897 - (j : Int) ∧ Hid (u = N * 2 ^ j ∧ Below w.heap.size w wr)) (fun _ s7 _ => (intOf s7).toNat)
    case atStart => exact ⟨0, N, 897, Nat.zero_le _, by omega, by first | rfl | (rw [hNi]), rfl, by omega, Lib.hid ⟨by simp, HB2.out⟩⟩
    case round =>
      obtain ⟨j, u, y, hj, hu, rfl, rfl, hy, hI⟩ := hrel
      have hlj := HNL.out j
      rw [← hI.out.1] at hlj
      by_cases hlt : j < t
      · have hus := hlj.1 hlt
        have q5 : ((u : Int) / 4503599627370496 == 0) = true := by simp; omega
        have hI2 : Hid (u * 2 = N * 2 ^ (j + 1) ∧ Below w.heap.size w wr) := Lib.hid ⟨by rw [Nat.pow_succ, ← Nat.mul_assoc, ← hI.out.1], hI.out.2⟩
        clear hlj
        go_wp2_with fail
        go_roundw
        case rel => exact ⟨j + 1, u * 2, _, hlt, by omega, by go_num, rfl, by omega, hI2⟩
        case measure => simp [intOf]; omega
      · obtain rfl : j = t := by omega
        have hus : 4503599627370496 ≤ u := by omega
        have q5 : ((u : Int) / 4503599627370496 == 0) = false := by simp; omega
        have t9 := and_low u hus hu
        obtain ⟨v, hv⟩ : ∃ v, u - 4503599627370496 = v := ⟨_, rfl⟩
        rw [hv] at t9
        have hvb : v < 4503599627370496 := by omega
        have HV := Lib.hid hv
        have hyn : y = ((897 - j : Nat) : Int) := by omega
        have hjs : 897 - j < 2048 := by omega
        clear hlj hv hy
        obtain ⟨z, hz⟩ : ∃ z, 897 - j = z := ⟨_, rfl⟩
        rw [hz] at hyn hjs
        subst hyn
        have HZ := Lib.hid hz
        clear hz
        go_wp2_with fail
        refine (rjoin_any S z v _ hjs hvb).mono ?_
        rintro e w3 ⟨rfl, rfl⟩
        go_wp2_with fail
        go_ret2
        exact ⟨ret_wi (by rw [← hI.out.1, HV.out, ← HZ.out]), hI.out.2⟩
  · rw [if_neg (by decide), if_pos rfl]
    obtain ⟨Y, hY⟩ : ∃ Y, X + 1023 - 127 = Y := ⟨_, rfl⟩
    obtain ⟨N, hN⟩ : ∃ N, M * 536870912 = N := ⟨_, rfl⟩
    have hYi : (X : Int) - 127 + 1023 = (Y : Int) := by omega
    have hNi : (M : Int) * 536870912 = (N : Int) := by omega
    have hYb : Y < 2048 := by omega
    have hNb : N < 4503599627370496 := by omega
    rw [hY, hN]
    clear hY hN
    go_enter Try.func16, Try.ntmps16
    go_wp2_with fail
    refine HP.out.mono ?_
    rintro e w1 ⟨rfl, hb⟩
    have HB := Lib.hid hb
    have HC' := Lib.hid (HC.out w1)
    clear hb
    go_wp2_with fail
    refine (HW.out _).mono ?_
    rintro e w2 ⟨rfl, rfl⟩
    go_wp2_with fail
    refine HC'.out.mono ?_
    rintro e w2 ⟨rfl, hb2⟩
    have HB2 := Lib.hid (HB.out.trans (hb2.mono HB.out.size))
    clear hb2 HB HC'
    go_wp2_with fail
    refine (rjoin_any S Y N _ hYb hNb).mono ?_
    rintro e w3 ⟨rfl, rfl⟩
    go_wp2_with fail
    go_ret2
    exact ⟨ret_wi rfl, HB2.out⟩
  · rw [if_neg (by decide), if_neg (by decide), if_neg (by decide)]
    obtain ⟨N, hN⟩ : ∃ N, M * 536870912 = N := ⟨_, rfl⟩
    have hNi : (M : Int) * 536870912 = (N : Int) := by omega
    have hNb : N < 4503599627370496 := by omega
    rw [hN]
    clear hN
    go_enter Try.func16, Try.ntmps16
    go_wp2_with fail
    refine HP.out.mono ?_
    rintro e w1 ⟨rfl, hb⟩
    have HB := Lib.hid hb
    have HC' := Lib.hid (HC.out w1)
    clear hb
    go_wp2_with fail
    refine (HW.out _).mono ?_
    rintro e w2 ⟨rfl, rfl⟩
    go_wp2_with fail
    refine HC'.out.mono ?_
    rintro e w2 ⟨rfl, hb2⟩
    have HB2 := Lib.hid (HB.out.trans (hb2.mono HB.out.size))
    clear hb2 HB HC'
    go_wp2_with fail
    refine (rjoin_any S 2047 N _ (by omega) hNb).mono ?_
    rintro e w3 ⟨rfl, rfl⟩
    go_wp2_with fail
    go_ret2
    exact ⟨ret_wi rfl, HB2.out⟩
  · rw [if_neg (by decide), if_neg (by decide), if_neg (by decide)]
    obtain ⟨N, hN⟩ : ∃ N, M * 536870912 = N := ⟨_, rfl⟩
    have hNi : (M : Int) * 536870912 = (N : Int) := by omega
    have hNb : N < 4503599627370496 := by omega
    rw [hN]
    clear hN
    go_enter Try.func16, Try.ntmps16
    go_wp2_with fail
    refine HP.out.mono ?_
    rintro e w1 ⟨rfl, hb⟩
    have HB := Lib.hid hb
    have HC' := Lib.hid (HC.out w1)
    clear hb
    go_wp2_with fail
    refine (HW.out _).mono ?_
    rintro e w2 ⟨rfl, rfl⟩
    go_wp2_with fail
    refine HC'.out.mono ?_
    rintro e w2 ⟨rfl, hb2⟩
    have HB2 := Lib.hid (HB.out.trans (hb2.mono HB.out.size))
    clear hb2 HB HC'
    go_wp2_with fail
    refine (rjoin_any S 2047 N _ (by omega) hNb).mono ?_
    rintro e w3 ⟨rfl, rfl⟩
    go_wp2_with fail
    go_ret2
    exact ⟨ret_wi rfl, HB2.out⟩
set_option maxRecDepth 100000 in
set_option maxHeartbeats 2000000 in
theorem widen_64 (x : Nat) (w : World) (X M c : Nat) (S : Bool) (hX : X ≤ 2047) (hM : M < 4503599627370496) (_ : x < 18446744073709551616)
    (HP : Hid (Calls Try.prog 13 #[.int .i64 64, .int .u64 (x : Int)] w fun e W' => e = .returned (.tuple #[.bool S, .int .i64 (X : Int), .int .u64 (M : Int), .int .i64 0]) ∧ Below w.heap.size w W'))
    (HW : Hid (∀ w, Calls Try.prog 29 #[.int .i64 64] w fun e w' => e = .returned (.tuple #[.int .i64 11, .int .i64 52]) ∧ w = w'))
    (HC : Hid (∀ w, Calls Try.prog 11 #[.int .i64 64, .int .u64 (x : Int)] w fun e W' => e = .returned (.tuple #[.int .i64 (c : Int), .int .i64 0]) ∧ Below w.heap.size w W'))
    (hc : c = 0 ∨ (c = 1 ∧ 0 < M ∧ X = 0) ∨ (c = 2 ∧ 0 < X ∧ X < 2047) ∨ c = 3 ∨ c = 4) :
    Calls Try.prog 16 #[.int .i64 64, .int .u64 (x : Int)] w fun e W' => e = .returned (.tuple #[.int .u64 ((if c = 0 then jv S 0 0 else if c = 2 then jv S (X + 1023 - 1023) (M * 1) else if c = 1 then x else jv S 2047 (M * 1) : Nat) : Int), .int .i64 0]) ∧ Below w.heap.size w W' := by
  rcases hc with rfl | ⟨rfl, hM0, rfl⟩ | ⟨rfl, hX0, hXT⟩ | rfl | rfl
  · rw [if_pos rfl]
    go_enter Try.func16, Try.ntmps16
    go_wp2_with fail
    refine HP.out.mono ?_
    rintro e w1 ⟨rfl, hb⟩
    have HB := Lib.hid hb
    have HC' := Lib.hid (HC.out w1)
    clear hb
    go_wp2_with fail
    refine (HW.out _).mono ?_
    rintro e w2 ⟨rfl, rfl⟩
    go_wp2_with fail
    refine HC'.out.mono ?_
    rintro e w2 ⟨rfl, hb2⟩
    have HB2 := Lib.hid (HB.out.trans (hb2.mono HB.out.size))
    clear hb2 HB HC'
    go_wp2_with fail
    refine (rjoin_any S 0 0 _ (by omega) (by omega)).mono ?_
    rintro e w3 ⟨rfl, rfl⟩
    go_wp2_with fail
    go_ret2
    exact ⟨ret_wi rfl, HB2.out⟩
  · rw [if_neg (by decide), if_neg (by decide), if_pos rfl]
    go_enter Try.func16, Try.ntmps16
    go_wp2_with fail
    refine HP.out.mono ?_
    rintro e w1 ⟨rfl, hb⟩
    have HB := Lib.hid hb
    have HC' := Lib.hid (HC.out w1)
    clear hb
    go_wp2_with fail
    refine (HW.out _).mono ?_
    rintro e w2 ⟨rfl, rfl⟩
    go_wp2_with fail
    refine HC'.out.mono ?_
    rintro e w2 ⟨rfl, hb2⟩
    have HB2 := Lib.hid (HB.out.trans (hb2.mono HB.out.size))
    clear hb2 HB HC'
    go_wp2_with fail
    go_ret2
    exact ⟨rfl, HB2.out⟩
  · rw [if_neg (by decide), if_pos rfl]
    obtain ⟨Y, hY⟩ : ∃ Y, X + 1023 - 1023 = Y := ⟨_, rfl⟩
    obtain ⟨N, hN⟩ : ∃ N, M * 1 = N := ⟨_, rfl⟩
    have hYi : (X : Int) - 1023 + 1023 = (Y : Int) := by omega
    obtain rfl : N = M := by omega
    have hYb : Y < 2048 := by omega
    have hNb : N < 4503599627370496 := by omega
    rw [hY, hN]
    clear hY hN
    go_enter Try.func16, Try.ntmps16
    go_wp2_with fail
    refine HP.out.mono ?_
    rintro e w1 ⟨rfl, hb⟩
    have HB := Lib.hid hb
    have HC' := Lib.hid (HC.out w1)
    clear hb
    go_wp2_with fail
    refine (HW.out _).mono ?_
    rintro e w2 ⟨rfl, rfl⟩
    go_wp2_with fail
    refine HC'.out.mono ?_
    rintro e w2 ⟨rfl, hb2⟩
    have HB2 := Lib.hid (HB.out.trans (hb2.mono HB.out.size))
    clear hb2 HB HC'
    go_wp2_with fail
    refine (rjoin_any S Y N _ hYb hNb).mono ?_
    rintro e w3 ⟨rfl, rfl⟩
    go_wp2_with fail
    go_ret2
    exact ⟨ret_wi rfl, HB2.out⟩
  · rw [if_neg (by decide), if_neg (by decide), if_neg (by decide)]
    obtain ⟨N, hN⟩ : ∃ N, M * 1 = N := ⟨_, rfl⟩
    obtain rfl : N = M := by omega
    have hNb : N < 4503599627370496 := by omega
    rw [hN]
    clear hN
    go_enter Try.func16, Try.ntmps16
    go_wp2_with fail
    refine HP.out.mono ?_
    rintro e w1 ⟨rfl, hb⟩
    have HB := Lib.hid hb
    have HC' := Lib.hid (HC.out w1)
    clear hb
    go_wp2_with fail
    refine (HW.out _).mono ?_
    rintro e w2 ⟨rfl, rfl⟩
    go_wp2_with fail
    refine HC'.out.mono ?_
    rintro e w2 ⟨rfl, hb2⟩
    have HB2 := Lib.hid (HB.out.trans (hb2.mono HB.out.size))
    clear hb2 HB HC'
    go_wp2_with fail
    refine (rjoin_any S 2047 N _ (by omega) hNb).mono ?_
    rintro e w3 ⟨rfl, rfl⟩
    go_wp2_with fail
    go_ret2
    exact ⟨ret_wi rfl, HB2.out⟩
  · rw [if_neg (by decide), if_neg (by decide), if_neg (by decide)]
    obtain ⟨N, hN⟩ : ∃ N, M * 1 = N := ⟨_, rfl⟩
    obtain rfl : N = M := by omega
    have hNb : N < 4503599627370496 := by omega
    rw [hN]
    clear hN
    go_enter Try.func16, Try.ntmps16
    go_wp2_with fail
    refine HP.out.mono ?_
    rintro e w1 ⟨rfl, hb⟩
    have HB := Lib.hid hb
    have HC' := Lib.hid (HC.out w1)
    clear hb
    go_wp2_with fail
    refine (HW.out _).mono ?_
    rintro e w2 ⟨rfl, rfl⟩
    go_wp2_with fail
    refine HC'.out.mono ?_
    rintro e w2 ⟨rfl, hb2⟩
    have HB2 := Lib.hid (HB.out.trans (hb2.mono HB.out.size))
    clear hb2 HB HC'
    go_wp2_with fail
    refine (rjoin_any S 2047 N _ (by omega) hNb).mono ?_
    rintro e w3 ⟨rfl, rfl⟩
    go_wp2_with fail
    go_ret2
    exact ⟨ret_wi rfl, HB2.out⟩
end Go.Proofs.Ytkgejncolchobaa.nn
