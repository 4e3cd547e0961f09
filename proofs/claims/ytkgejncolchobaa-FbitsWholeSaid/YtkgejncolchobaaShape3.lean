/- The real fbits: shift. -/
import Derived.Test.YtkgejncolchobaaShape2
namespace Go.Proofs.Ytkgejncolchobaa.nn
open Go.RowKit

/-- m times 2^n: what is whole and has no more than 64 bits -/
def sOk (m : Nat) (n : Int) : Bool := if n < 0 then decide (m % 2 ^ (-n).toNat = 0) else decide (m * 2 ^ n.toNat < 18446744073709551616)
def sV (m : Nat) (n : Int) : Nat := if n < 0 then m / 2 ^ (-n).toNat else m * 2 ^ n.toNat % 18446744073709551616
theorem p64 : (2 : Nat) ^ 64 = 18446744073709551616 := by decide
theorem ret_sh {a c : Int} {b d : Bool} (h1 : a = c) (h2 : b = d) : Ending.returned (.tuple #[.int .u64 a, .bool b]) = .returned (.tuple #[.int .u64 c, .bool d]) := by rw [h1, h2]
theorem wrap_u64_nat (a : Nat) : IntKind.u64.wrap (a : Int) = ((a % 18446744073709551616 : Nat) : Int) := by
  rw [IntKind.wrap_u64]
  omega
section
variable {m d : Nat}
theorem big_pow (h : 64 ≤ d) : 18446744073709551616 ≤ 2 ^ d := by rw [← p64]; exact Nat.pow_le_pow_right (by decide) h
theorem down_min (hm : m < 18446744073709551616) : m / 2 ^ min d 64 = m / 2 ^ d ∧ m % 2 ^ min d 64 = m % 2 ^ d := by
  rcases Nat.le_total d 64 with h | h
  · rw [Nat.min_eq_left h]; exact ⟨rfl, rfl⟩
  · have h1 := big_pow h
    rw [Nat.min_eq_right h, p64, Nat.div_eq_of_lt hm, Nat.div_eq_of_lt (by omega), Nat.mod_eq_of_lt hm, Nat.mod_eq_of_lt (by omega)]
    exact ⟨rfl, rfl⟩
theorem beq_nat {a b : Nat} : ((a : Int) == (b : Int)) = decide (a = b) := by
  by_cases h : a = b
  · rw [h, decide_eq_true rfl]; simp
  · rw [decide_eq_false h]; simp; omega
theorem down_v (hm : m < 18446744073709551616) (h1 : 1 ≤ d) : (m : Int) / 2 ^ min d 64 = (sV m (-(d : Int)) : Int) ∧ (IntKind.u64.wrap ((m : Int) / 2 ^ min d 64 * 2 ^ min d 64) == (m : Int)) = sOk m (-(d : Int)) := by
  obtain ⟨a1, a2⟩ := down_min (d := d) hm
  have e1 : (m : Int) / 2 ^ min d 64 = ((m / 2 ^ min d 64 : Nat) : Int) := by simp
  have e2 : (m : Int) / 2 ^ min d 64 * 2 ^ min d 64 = ((m / 2 ^ min d 64 * 2 ^ min d 64 : Nat) : Int) := by simp
  have h2 : m / 2 ^ min d 64 * 2 ^ min d 64 ≤ m := Nat.div_mul_le_self _ _
  have h3 := Nat.div_add_mod m (2 ^ min d 64)
  rw [e2, wrap_u64_nat, Nat.mod_eq_of_lt (by omega), e1]
  unfold sV sOk
  rw [if_pos (by omega), if_pos (by omega), show (-(-(d : Int))).toNat = d by omega, ← a1, ← a2, beq_nat]
  refine ⟨rfl, ?_⟩
  rw [Nat.mul_comm] at h3
  generalize m / 2 ^ min d 64 * 2 ^ min d 64 = a at h2 h3 ⊢
  generalize m % 2 ^ min d 64 = b at h3 ⊢
  by_cases hb : b = 0
  · rw [decide_eq_true hb, decide_eq_true (by omega)]
  · rw [decide_eq_false hb, decide_eq_false (by omega)]
theorem up_v (hm : m < 18446744073709551616) : IntKind.u64.wrap ((m : Int) * 2 ^ min d 64) = (sV m (d : Int) : Int) ∧ (IntKind.u64.wrap ((m : Int) * 2 ^ min d 64) / 2 ^ min d 64 == (m : Int)) = sOk m (d : Int) := by
  have e1 : (m : Int) * 2 ^ min d 64 = ((m * 2 ^ min d 64 : Nat) : Int) := by simp
  have e2 : ((m * 2 ^ min d 64 % 18446744073709551616 : Nat) : Int) / 2 ^ min d 64 = ((m * 2 ^ min d 64 % 18446744073709551616 / 2 ^ min d 64 : Nat) : Int) := by simp
  rw [e1, wrap_u64_nat, e2, beq_nat]
  unfold sV sOk
  rw [if_neg (by omega), if_neg (by omega), Int.toNat_natCast]
  rcases Nat.lt_or_ge d 64 with h | h
  · rw [Nat.min_eq_left (by omega)]
    refine ⟨rfl, ?_⟩
    have hp := Nat.two_pow_pos d
    by_cases hb : m * 2 ^ d < 18446744073709551616
    · rw [decide_eq_true hb, Nat.mod_eq_of_lt hb, Nat.mul_div_cancel _ hp, decide_eq_true rfl]
    · rw [decide_eq_false hb, decide_eq_false]
      intro hc
      have h2 := Nat.div_mul_le_self (m * 2 ^ d % 18446744073709551616) (2 ^ d)
      rw [hc] at h2
      have h3 := Nat.mod_lt (m * 2 ^ d) (show 18446744073709551616 > 0 by decide)
      omega
  · have h1 := big_pow h
    obtain ⟨c, rfl⟩ : ∃ c, d = 64 + c := ⟨d - 64, by omega⟩
    rw [Nat.min_eq_right h, p64, Nat.mul_mod_left, Nat.pow_add, p64, ← Nat.mul_assoc, Nat.mul_right_comm, Nat.mul_mod_left, Nat.zero_div]
    refine ⟨rfl, ?_⟩
    have hp := Nat.two_pow_pos c
    rcases Nat.eq_zero_or_pos m with h0 | h0
    · subst h0; rw [Nat.zero_mul, Nat.zero_mul]; rfl
    · have h2 : 1 ≤ m * 2 ^ c := Nat.mul_pos h0 hp
      rw [decide_eq_false (by omega), decide_eq_false (by omega)]
end
set_option maxRecDepth 100000 in
set_option maxHeartbeats 1000000 in
theorem shift_down (m d : Nat) (w : World) (hm : m < 18446744073709551616) (h1 : 1 ≤ d) (h2 : d ≤ 5000) :
    Calls Try.prog 36 #[.int .u64 (m : Int), .int .i64 (-(d : Int))] w fun e w' => e = .returned (.tuple #[.int .u64 (sV m (-(d : Int)) : Int), .bool (sOk m (-(d : Int)))]) ∧ Below w.heap.size w w' := by
  have HV := Lib.hid (down_v hm h1)
  obtain ⟨V, hV⟩ : ∃ V, sV m (-(d : Int)) = V := ⟨_, rfl⟩
  obtain ⟨O, hO⟩ : ∃ O, sOk m (-(d : Int)) = O := ⟨_, rfl⟩
  rw [hV, hO] at HV ⊢
  clear hV hO
  have q1 : decide (-(d : Int) < 0) = true := decide_eq_true (by omega)
  go_enter Try.func36, Try.ntmps36
  go_wp2_with fail
  go_quiet (fail)
  go_wp2_with fail
  go_ret2
  exact ⟨ret_sh HV.out.1 HV.out.2, drewN_below (Below.refl _ _) nq⟩
set_option maxRecDepth 100000 in
set_option maxHeartbeats 1000000 in
theorem shift_up (m d : Nat) (w : World) (hm : m < 18446744073709551616) (h2 : d ≤ 5000) :
    Calls Try.prog 36 #[.int .u64 (m : Int), .int .i64 (d : Int)] w fun e w' => e = .returned (.tuple #[.int .u64 (sV m (d : Int) : Int), .bool (sOk m (d : Int))]) ∧ Below w.heap.size w w' := by
  have HV := Lib.hid (up_v (d := d) hm)
  obtain ⟨V, hV⟩ : ∃ V, sV m (d : Int) = V := ⟨_, rfl⟩
  obtain ⟨O, hO⟩ : ∃ O, sOk m (d : Int) = O := ⟨_, rfl⟩
  rw [hV, hO] at HV ⊢
  clear hV hO
  have q1 : decide ((d : Int) < 0) = false := decide_eq_false (by omega)
  go_enter Try.func36, Try.ntmps36
  go_wp2_with fail
  go_quiet (fail)
  go_wp2_with fail
  go_ret2
  exact ⟨ret_sh HV.out.1 HV.out.2, drewN_below (Below.refl _ _) nq⟩
theorem shift_any (m : Nat) (n : Int) (w : World) (hm : m < 18446744073709551616) (h1 : -5000 ≤ n) (h2 : n ≤ 5000) :
    Calls Try.prog 36 #[.int .u64 (m : Int), .int .i64 n] w fun e w' => e = .returned (.tuple #[.int .u64 (sV m n : Int), .bool (sOk m n)]) ∧ Below w.heap.size w w' := by
  by_cases h : n < 0
  · obtain ⟨d, rfl⟩ : ∃ d : Nat, n = -(d : Int) := ⟨(-n).toNat, by omega⟩
    exact shift_down m d w hm (by omega) (by omega)
  · obtain ⟨d, rfl⟩ : ∃ d : Nat, n = (d : Int) := ⟨n.toNat, by omega⟩
    exact shift_up m d w hm (by omega)
end Go.Proofs.Ytkgejncolchobaa.nn
