/- The walks of the document's join and shift. -/
import Derived.Test.YtkgejncolchobaaRefClass
namespace Go.Proofs.Ytkgejncolchobaa.nn
open Go.RowKit

/-- the bits of parts, width 64 -/
def jv (neg : Bool) (x m : Nat) : Nat := (if neg then 9223372036854775808 else 0) + x * 4503599627370496 + m
theorem or_add (a b k : Nat) (ha : a % 2 ^ k = 0) (hb : b < 2 ^ k) : a ||| b = a + b := by
  obtain ⟨c, rfl⟩ : ∃ c, a = 2 ^ k * c := ⟨a / 2 ^ k, by have := Nat.div_add_mod a (2 ^ k); omega⟩
  rw [Nat.two_pow_add_eq_or_of_lt hb]
theorem u64_join (a b k : Nat) (ha : a % 2 ^ k = 0) (hb : b < 2 ^ k) (hab : a + b < 18446744073709551616) : bits .or .u64 (a : Int) (b : Int) = ((a + b : Nat) : Int) := by
  rw [u64_or_nat a b (by omega) (by omega), or_add a b k ha hb]
theorem ret_u {a b : Int} (h : a = b) : Ending.returned (.int .u64 a) = .returned (.int .u64 b) := by rw [h]

theorem or_top {c : Nat} (h : c < 9223372036854775808) : bits .or .u64 (c : Int) 9223372036854775808 = ((c + 9223372036854775808 : Nat) : Int) := by
  have := u64_or_nat c 9223372036854775808 (by omega) (by decide)
  rw [Nat.or_comm, or_add 9223372036854775808 c 63 (by decide) (by omega), Nat.add_comm] at this
  exact this
set_option maxRecDepth 100000 in
set_option maxHeartbeats 1000000 in
theorem rjoin_any (neg : Bool) (x m : Nat) (w : World) (hx : x < 2048) (hm : m < 4503599627370496) :
    Calls Try.prog 33 #[.bool neg, .int .i64 (x : Int), .int .u64 (m : Int)] w fun e w' => e = .returned (.int .u64 (jv neg x m : Int)) ∧ w = w' := by
  have t1 : bits .or .u64 ((x : Int) * 4503599627370496) (m : Int) = (x : Int) * 4503599627370496 + (m : Int) := by
    have h := u64_join (x * 4503599627370496) m 52 (by omega) (by omega) (by omega)
    have e1 : (x : Int) * 4503599627370496 = ((x * 4503599627370496 : Nat) : Int) := by omega
    rw [e1, h]
    omega
  have t2 : bits .or .u64 ((x : Int) * 4503599627370496 + (m : Int)) 9223372036854775808 = (x : Int) * 4503599627370496 + (m : Int) + 9223372036854775808 := by
    have h := or_top (c := x * 4503599627370496 + m) (by omega)
    have e1 : (x : Int) * 4503599627370496 + (m : Int) = ((x * 4503599627370496 + m : Nat) : Int) := by omega
    rw [e1, h]
    omega
  cases neg with
  | false =>
    have e : jv false x m = x * 4503599627370496 + m := by unfold jv; simp
    rw [e]
    have HT := Lib.hid (And.intro hx hm)
    clear e t2
    go_enter Try.func33, Try.ntmps33
    go_wp2
    go_ret
    exact ⟨ret_u (by clear t1; omega), rfl⟩
  | true =>
    have e : jv true x m = 9223372036854775808 + x * 4503599627370496 + m := by unfold jv; simp
    rw [e]
    clear e
    go_enter Try.func33, Try.ntmps33
    go_wp2
    go_ret
    exact ⟨ret_u (by clear t1 t2; omega), rfl⟩

/-- m by n bits to the right, if none is lost -/
def shOk (m n : Nat) : Bool := decide (m % 2 ^ n = 0)
def shV (m n : Nat) : Nat := if m % 2 ^ n = 0 then m / 2 ^ n else 0
theorem u64_one (a : Nat) (ha : a < 18446744073709551616) : bits .and .u64 (a : Int) 1 = ((a % 2 : Nat) : Int) := (u64_and_nat a 1 ha (by decide)).trans (by rw [and_mask a 1])
theorem mod_step {m i : Nat} (h : m % 2 ^ i = 0) : (m % 2 ^ (i + 1) = 0 ↔ m / 2 ^ i % 2 = 0) := by
  have h1 := Nat.mod_pow_succ (b := 2) (x := m) (k := i)
  rw [h, Nat.zero_add] at h1
  rw [h1]
  have hp := Nat.two_pow_pos i
  constructor
  · intro h2
    rcases Nat.mul_eq_zero.1 h2 with h3 | h3
    · omega
    · exact h3
  · intro h2; rw [h2, Nat.mul_zero]
theorem mod_mono {m i n : Nat} (h : m % 2 ^ n = 0) (hi : i ≤ n) : m % 2 ^ i = 0 := by
  obtain ⟨c, rfl⟩ := Nat.dvd_of_mod_eq_zero h
  obtain ⟨d, rfl⟩ : ∃ d, n = i + d := ⟨n - i, by omega⟩
  rw [Nat.pow_add, Nat.mul_assoc]
  exact Nat.mul_mod_right _ _
set_option maxRecDepth 100000 in
set_option maxHeartbeats 1000000 in
theorem rshift_any (m n : Nat) (w : World) (hm : m < 18446744073709551616) (hn : n ≤ 100000) :
    Calls Try.prog 34 #[.int .u64 (m : Int), .int .i64 (n : Int)] w fun e w' => e = .returned (.tuple #[.int .u64 (shV m n : Int), .bool (shOk m n)]) ∧ w = w' := by
  obtain ⟨V, hV⟩ : ∃ V, shV m n = V := ⟨_, rfl⟩
  obtain ⟨O, hO⟩ : ∃ O, shOk m n = O := ⟨_, rfl⟩
  have HV := Lib.hid (And.intro hV hO)
  rw [hV, hO]
  clear hV hO
  go_enter Try.func34, Try.ntmps34
  go_wp2
  go_loop [0, 6] (fun s0 s6 => ∃ i u : Nat, i ≤ n ∧ u < 18446744073709551616 ∧ s0 = .int .u64 (u : Int) ∧ s6 = .int .i64 (i : Int) ∧ Hid (u = m / 2 ^ i ∧ m % 2 ^ i = 0)) (fun _ s6 => n - (intOf s6).toNat)
  case atStart => exact ⟨0, m, Nat.zero_le _, hm, rfl, rfl, Lib.hid ⟨by simp, by simp [Nat.mod_one]⟩⟩
  case round =>
    obtain ⟨i, u, hi, hu, rfl, rfl, hI⟩ := hrel
    by_cases hlt : i < n
    · have hs := mod_step hI.out.2
      rw [← hI.out.1] at hs
      obtain ⟨r, hr⟩ : ∃ r, u % 2 = r := ⟨_, rfl⟩
      have t1 := u64_one u hu
      rw [hr] at t1 hs
      by_cases hr0 : r = 0
      · subst hr0
        have hI2 : Hid (u / 2 = m / 2 ^ (i + 1) ∧ m % 2 ^ (i + 1) = 0) := Lib.hid ⟨by rw [Nat.pow_succ, ← Nat.div_div_eq_div_mul, ← hI.out.1], hs.2 rfl⟩
        clear hs hr
        go_wp2_with fail
        clear t1
        go_round
        case rel => exact ⟨i + 1, u / 2, hlt, by omega, by go_num, by go_num, hI2⟩
        case measure => simp [intOf]; omega
      · have hr1 : r = 1 := by omega
        subst hr1
        have hno : ¬ m % 2 ^ n = 0 := fun h => hr0 (hs.1 (mod_mono h hlt))
        have HA : Hid (V = 0 ∧ O = false) := Lib.hid ⟨by rw [← HV.out.1]; unfold shV; rw [if_neg hno], by rw [← HV.out.2]; unfold shOk; exact decide_eq_false hno⟩
        clear hs hr hr0 hno
        go_wp2_with fail
        go_ret2
        exact ⟨by rw [HA.out.1, HA.out.2]; rfl, rfl⟩
    · obtain rfl : i = n := by omega
      have HA : Hid (V = u ∧ O = true) := Lib.hid ⟨by rw [← HV.out.1, hI.out.1]; unfold shV; rw [if_pos hI.out.2], by rw [← HV.out.2]; unfold shOk; exact decide_eq_true hI.out.2⟩
      go_wp2_with fail
      go_ret2
      exact ⟨by rw [HA.out.1, HA.out.2]; rfl, rfl⟩
end Go.Proofs.Ytkgejncolchobaa.nn
