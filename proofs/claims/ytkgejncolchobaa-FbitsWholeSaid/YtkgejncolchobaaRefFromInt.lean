/- The walk of the document's FromInt. -/
import Derived.Test.YtkgejncolchobaaRefWiden
namespace Go.Proofs.Ytkgejncolchobaa.nn
open Go.RowKit

/-- the number that is turned, and what its 53 highest bits are -/
def fiN (neg : Bool) (n : Nat) : Nat := n + neg.toNat
def fiO (v : Nat) : Bool := decide (v * 2 ^ 52 % 2 ^ v.log2 = 0)
def fiV (neg : Bool) (v : Nat) : Nat := if v = 0 then 0 else if fiO v then jv neg (1023 + v.log2) (v * 2 ^ 52 / 2 ^ v.log2 - 2 ^ 52) else 0
def FiAns (neg : Bool) (n : Nat) (W : World) (e : Ending) (W' : World) : Prop := e = .returned (.tuple #[.int .u64 (fiV neg (fiN neg n) : Int), .bool (fiO (fiN neg n))]) ∧ W = W'

section
variable {v : Nat}
theorem fi_big : fiO (2 ^ 64) = true ∧ fiV true (2 ^ 64) = jv true 1087 0 := by
  have h : (2 ^ 64 : Nat).log2 = 64 := Nat.log2_two_pow
  have ho : fiO (2 ^ 64) = true := by
    unfold fiO
    rw [h]
    decide
  refine ⟨ho, ?_⟩
  unfold fiV
  rw [ho, h, if_neg (by decide), if_pos rfl]
theorem fi_zero : fiO 0 = true ∧ ∀ neg, fiV neg 0 = 0 := ⟨by decide, fun _ => rfl⟩
/-- what is left when the low bits, all 0, are taken away -/
theorem log2_div {v t : Nat} (h : 2 ^ t ≤ v) : (v / 2 ^ t).log2 = v.log2 - t := by
  have hv : v ≠ 0 := by have := Nat.two_pow_pos t; omega
  have hq : v / 2 ^ t ≠ 0 := by have := Nat.div_pos h (Nat.two_pow_pos t); omega
  have ht : t ≤ v.log2 := (Nat.le_log2 hv).2 h
  apply Nat.le_antisymm
  · have h1 := Nat.lt_log2_self (n := v)
    have h2 : v / 2 ^ t < 2 ^ (v.log2 + 1 - t) := Nat.div_lt_of_lt_mul (by rw [← Nat.pow_add, show t + (v.log2 + 1 - t) = v.log2 + 1 by omega]; exact h1)
    have := (Nat.log2_lt hq).2 h2
    omega
  · refine (Nat.le_log2 hq).2 ((Nat.le_div_iff_mul_le (Nat.two_pow_pos t)).2 ?_)
    rw [← Nat.pow_add, show v.log2 - t + t = v.log2 by omega]
    exact Nat.log2_self_le hv
/-- v is a number u of at most 53 bits, t bits to the left: what is answered hangs on u -/
theorem fi_up {u t : Nat} (h : v = u * 2 ^ t) (h1 : 2 ^ 52 ≤ u) (h2 : u < 2 ^ 53) : fiO v = true ∧ v.log2 = 52 + t ∧ v * 2 ^ 52 / 2 ^ v.log2 = u := by
  have hp := Nat.two_pow_pos t
  have hl : v.log2 = 52 + t := by
    have hv : v ≠ 0 := by rw [h]; exact Nat.ne_of_gt (Nat.mul_pos (by omega) hp)
    apply Nat.le_antisymm
    · have : v < 2 ^ (53 + t) := by rw [h, Nat.pow_add]; exact Nat.mul_lt_mul_of_pos_right h2 hp
      have := (Nat.log2_lt hv).2 this
      omega
    · refine (Nat.le_log2 hv).2 ?_
      rw [h, Nat.pow_add]
      exact Nat.mul_le_mul_right _ h1
  have e : v * 2 ^ 52 = u * 2 ^ v.log2 := by rw [hl, h, Nat.pow_add, Nat.mul_assoc, Nat.mul_comm (2 ^ t)]
  refine ⟨?_, hl, ?_⟩
  · unfold fiO
    rw [e, Nat.mul_mod_left]
    rfl
  · rw [e, Nat.mul_div_cancel _ (Nat.two_pow_pos _)]
/-- v is a number of fewer bits than 53: it goes t bits to the left -/
theorem fi_down {u t : Nat} (h : u = v * 2 ^ t) (h1 : 2 ^ 52 ≤ u) (h2 : u < 2 ^ 53) : fiO v = true ∧ v.log2 = 52 - t ∧ t ≤ 52 ∧ v * 2 ^ 52 / 2 ^ v.log2 = u := by
  have hp := Nat.two_pow_pos t
  have hv : v ≠ 0 := by rintro rfl; rw [Nat.zero_mul] at h; omega
  have ht : t ≤ 52 := by
    rcases Nat.lt_or_ge 52 t with h' | h'
    · have : 2 ^ 53 ≤ 2 ^ t := Nat.pow_le_pow_right (by decide) h'
      have : 1 * 2 ^ t ≤ v * 2 ^ t := Nat.mul_le_mul_right _ (by omega)
      omega
    · exact h'
  have e2 : (2 : Nat) ^ 52 = 2 ^ (52 - t) * 2 ^ t := by rw [← Nat.pow_add]; congr 1; omega
  have e3 : (2 : Nat) ^ 53 = 2 ^ (53 - t) * 2 ^ t := by rw [← Nat.pow_add]; congr 1; omega
  have hl : v.log2 = 52 - t := by
    apply Nat.le_antisymm
    · have : v < 2 ^ (53 - t) := Nat.lt_of_mul_lt_mul_right (a := 2 ^ t) (by rw [← h, ← e3]; exact h2)
      have := (Nat.log2_lt hv).2 this
      omega
    · refine (Nat.le_log2 hv).2 ?_
      exact Nat.le_of_mul_le_mul_right (by rw [← h, ← e2]; exact h1) hp
  have e : v * 2 ^ 52 = u * 2 ^ v.log2 := by rw [hl, h, Nat.mul_assoc, ← Nat.pow_add, show t + (52 - t) = 52 by omega]
  refine ⟨?_, hl, ht, ?_⟩
  · unfold fiO
    rw [e, Nat.mul_mod_left]
    rfl
  · rw [e, Nat.mul_div_cancel _ (Nat.two_pow_pos _)]
/-- a bit is lost -/
theorem fi_no {u t : Nat} (h : v = u * 2 ^ t) (h1 : 2 ^ 53 ≤ u) (h2 : u % 2 = 1) : fiO v = false := by
  have hp := Nat.two_pow_pos t
  unfold fiO
  refine decide_eq_false fun hc => ?_
  have hv : v ≠ 0 := by rw [h]; exact Nat.ne_of_gt (Nat.mul_pos (by omega) hp)
  have hl : 53 + t ≤ v.log2 := by
    refine (Nat.le_log2 hv).2 ?_
    rw [h, Nat.pow_add]
    exact Nat.mul_le_mul_right _ h1
  have hd : 2 ^ (53 + t) ∣ v * 2 ^ 52 := Nat.dvd_trans (Nat.pow_dvd_pow 2 hl) (Nat.dvd_of_mod_eq_zero hc)
  rw [h, show u * 2 ^ t * 2 ^ 52 = u * 2 ^ (52 + t) by rw [Nat.pow_add]; ac_rfl, show 53 + t = 1 + (52 + t) by omega, Nat.pow_add] at hd
  have := Nat.dvd_of_mul_dvd_mul_right (Nat.two_pow_pos (52 + t)) hd
  omega
theorem fi_t {u t : Nat} (hv : v < 2 ^ 64) (h : v = u * 2 ^ t) (hu : 0 < u) : t < 64 := by
  rcases Nat.lt_or_ge t 64 with h' | h'
  · exact h'
  · have h1 : 2 ^ 64 ≤ 2 ^ t := Nat.pow_le_pow_right (by decide) h'
    have h2 : 1 * 2 ^ t ≤ u * 2 ^ t := Nat.mul_le_mul_right _ hu
    omega
theorem fi_t2 {a u t : Nat} (h : a = u * 2 ^ t) (ha : a < 2 ^ 53) (hu : 0 < u) : t < 53 := by
  rcases Nat.lt_or_ge t 53 with h' | h'
  · exact h'
  · have h1 : 2 ^ 53 ≤ 2 ^ t := Nat.pow_le_pow_right (by decide) h'
    have h2 : 1 * 2 ^ t ≤ u * 2 ^ t := Nat.mul_le_mul_right _ hu
    omega
theorem p52 : (2 : Nat) ^ 52 = 4503599627370496 := by decide
theorem p53 : (2 : Nat) ^ 53 = 9007199254740992 := by decide
theorem fi_none {neg : Bool} (hv : v ≠ 0) (h : fiO v = false) : fiV neg v = 0 := by
  unfold fiV
  rw [if_neg hv, h, if_neg (by decide)]
theorem fi_some {neg : Bool} (hv : v ≠ 0) (h : fiO v = true) : fiV neg v = jv neg (1023 + v.log2) (v * 2 ^ 52 / 2 ^ v.log2 - 2 ^ 52) := by
  unfold fiV
  rw [if_neg hv, h, if_pos rfl]
/-- the end of both loops -/
theorem fi_end {u t a t2 : Nat} (h : v = u * 2 ^ t) (h1 : t = 0 ∨ 2 ^ 52 ≤ u) (h2 : a = u * 2 ^ t2) (h3 : 2 ^ 52 ≤ a) (h4 : a < 2 ^ 53) (ht : t < 64) : fiO v = true ∧ (1023 + v.log2 < 2048 ∧ 1075 + (t : Int) - (t2 : Int) = 1023 + (v.log2 : Int)) ∧ v * 2 ^ 52 / 2 ^ v.log2 = a := by
  by_cases h0 : t2 = 0
  · subst h0
    rw [Nat.pow_zero, Nat.mul_one] at h2
    subst h2
    obtain ⟨a1, a2, a3⟩ := fi_up h h3 h4
    exact ⟨a1, ⟨by omega, by omega⟩, a3⟩
  · have hu : u < 2 ^ 52 := by
      rcases Nat.lt_or_ge u (2 ^ 52) with h' | h'
      · exact h'
      · have e1 : 2 ^ 1 ≤ 2 ^ t2 := Nat.pow_le_pow_right (by decide) (by omega)
        have e2 : 2 ^ 52 * 2 ^ 1 ≤ u * 2 ^ t2 := Nat.mul_le_mul h' e1
        omega
    obtain rfl : t = 0 := by omega
    rw [Nat.pow_zero, Nat.mul_one] at h
    subst h
    obtain ⟨a1, a2, a3, a4⟩ := fi_down h2 h3 h4
    exact ⟨a1, ⟨by omega, by omega⟩, a4⟩
end
set_option maxRecDepth 100000 in
set_option maxHeartbeats 4000000 in
theorem rfromInt_any (neg : Bool) (n : Nat) (w : World) (hn : n < 18446744073709551616) : Calls Try.prog 24 #[.bool neg, .int .u64 (n : Int)] w (FiAns neg n w) := by
  unfold FiAns fiN
  cases neg
  · rw [show n + false.toNat = n from rfl]
    by_cases h0 : n = 0
    · subst h0
      rw [fi_zero.1, fi_zero.2 false]
      go_enter Try.func24, Try.ntmps24
      go_wp2_with fail
      go_ret2
      exact ⟨rfl, rfl⟩
    · obtain ⟨v, hvv⟩ : ∃ v, n = v := ⟨_, rfl⟩
      subst hvv
      obtain ⟨v, hvv⟩ : ∃ v, n = v := ⟨_, rfl⟩
      subst hvv
      have hv64 := hn
      have hv0 : 0 < n := by omega
      have q0 := ne_int (c := (n : Int)) (k := 0) (by omega)
      have HN0 := Lib.hid h0
      have HB : Hid (n < 2 ^ 64) := Lib.hid hn
      obtain ⟨A, hA⟩ : ∃ A, fiV false n = A := ⟨_, rfl⟩
      obtain ⟨O, hO⟩ : ∃ O, fiO n = O := ⟨_, rfl⟩
      have HV := Lib.hid (And.intro hA hO)
      rw [hA, hO]
      clear hA hO h0 hn
      go_enter Try.func24, Try.ntmps24
      go_wp2_with fail
      clear q0
      go_loop [1, 6] (fun s1 s4 => ∃ t u : Nat, t < 64 ∧ 0 < u ∧ u < 18446744073709551616 ∧ s1 = .int .u64 (u : Int) ∧ s4 = .int .i64 (1075 + (t : Int)) ∧ Hid (n = u * 2 ^ t ∧ (t = 0 ∨ 2 ^ 52 ≤ u))) (fun s1 _ => (intOf s1).toNat)
      case atStart => exact ⟨0, n, by decide, hv0, hv64, rfl, rfl, Lib.hid ⟨by simp, .inl rfl⟩⟩
      case round =>
        obtain ⟨t, u, ht, hu0, hu64, rfl, rfl, hI⟩ := hrel
        by_cases hbig : 9007199254740992 ≤ u
        · have q2 : ((u : Int) / 9007199254740992 != 0) = true := by simp; omega
          have t1 := u64_one u hu64
          obtain ⟨r, hr⟩ : ∃ r, u % 2 = r := ⟨_, rfl⟩
          rw [hr] at t1
          by_cases hr0 : r = 0
          · subst hr0
            have hI2 : Hid (n = u / 2 * 2 ^ (t + 1) ∧ (t + 1 = 0 ∨ 2 ^ 52 ≤ u / 2)) := Lib.hid ⟨by rw [Nat.pow_succ, Nat.mul_comm (2 ^ t), ← Nat.mul_assoc, show u / 2 * 2 = u by omega]; exact hI.out.1, .inr (by rw [p52]; omega)⟩
            have ht2 : t + 1 < 64 := fi_t HB.out hI2.out.1 (by omega)
            go_wp2_with fail
            clear t1
            go_round
            case rel => exact ⟨t + 1, u / 2, ht2, by omega, by omega, by go_num, by go_num, hI2⟩
            case measure => simp [intOf]; omega
          · obtain rfl : r = 1 := by omega
            have hno := fi_no hI.out.1 (by rw [p53]; exact hbig) hr
            have HA : Hid (A = 0 ∧ O = false) := Lib.hid ⟨by rw [← HV.out.1]; exact fi_none HN0.out hno, by rw [← HV.out.2]; exact hno⟩
            clear hno hr0 hr
            go_wp2_with fail
            go_ret2
            exact ⟨by rw [HA.out.1, HA.out.2]; rfl, rfl⟩
        · have q2 : ((u : Int) / 9007199254740992 != 0) = false := by simp; omega
          go_wp2_with fail
          clear q2
          go_loop [1, 6] (fun s1 s4 => ∃ t2 u2 : Nat, t2 < 53 ∧ 0 < u2 ∧ u2 < 9007199254740992 ∧ s1 = .int .u64 (u2 : Int) ∧ s4 = .int .i64 (1075 + (t : Int) - (t2 : Int)) ∧ Hid (u2 = u * 2 ^ t2)) (fun s1 _ => 9007199254740992 - (intOf s1).toNat)
          case atStart => exact ⟨0, u, by decide, hu0, by omega, rfl, by go_num, Lib.hid (by simp)⟩
          case round =>
            obtain ⟨t2, u2, ht2, hu20, hu2b, rfl, rfl, hJ⟩ := hrel
            by_cases hlow : u2 < 4503599627370496
            · have q3 : ((u2 : Int) / 4503599627370496 == 0) = true := by simp; omega
              have hJ2 : Hid (u2 * 2 = u * 2 ^ (t2 + 1)) := Lib.hid (by rw [Nat.pow_succ, ← Nat.mul_assoc, ← hJ.out])
              have ht3 : t2 + 1 < 53 := fi_t2 hJ2.out (by rw [p53]; omega) hu0
              go_wp2_with fail
              go_round
              case rel => exact ⟨t2 + 1, u2 * 2, ht3, by omega, by omega, by go_num, by go_num, hJ2⟩
              case measure => simp [intOf]; omega
            · have q3 : ((u2 : Int) / 4503599627370496 == 0) = false := by simp; omega
              have hfin := fi_end hI.out.1 hI.out.2 hJ.out (by rw [p52]; omega) (by rw [p53]; exact hu2b) ht
              have t9 := and_low u2 (by omega) hu2b
              obtain ⟨z, hz⟩ : ∃ z, u2 - 4503599627370496 = z := ⟨_, rfl⟩
              rw [hz] at t9
              have hzb : z < 4503599627370496 := by omega
              obtain ⟨X, hX⟩ : ∃ X, 1023 + n.log2 = X := ⟨_, rfl⟩
              have hXi : 1075 + (t : Int) - (t2 : Int) = (X : Int) := by omega
              have hXb : X < 2048 := by omega
              have HA : Hid (A = jv false X z ∧ O = true) := Lib.hid ⟨by rw [← HV.out.1, fi_some HN0.out hfin.1, hX, hfin.2.2, p52, hz], by rw [← HV.out.2]; exact hfin.1⟩
              have HX := Lib.hid hXi
              clear hfin hz hX hXi
              go_wp2_with fail
              rw [HX.out]
              refine (rjoin_any false X z _ hXb hzb).mono ?_
              rintro e w3 ⟨rfl, rfl⟩
              go_wp2_with fail
              go_ret2
              exact ⟨by rw [HA.out.1, HA.out.2]; rfl, rfl⟩
  · rw [show n + true.toNat = n + 1 from rfl]
    by_cases hmax : n = 18446744073709551615
    · subst hmax
      rw [show 18446744073709551615 + 1 = 2 ^ 64 by decide, fi_big.1, fi_big.2]
      go_enter Try.func24, Try.ntmps24
      go_wp2_with fail
      refine (rjoin_any true 1087 0 _ (by decide) (by decide)).mono ?_
      rintro e w3 ⟨rfl, rfl⟩
      go_wp2_with fail
      go_ret2
      exact ⟨rfl, rfl⟩
    · have q1 := ne_int (c := (n : Int)) (k := 18446744073709551615) (by omega)
      obtain ⟨v, hvv⟩ : ∃ v, n + 1 = v := ⟨_, rfl⟩
      rw [hvv]
      have hv64 : v < 18446744073709551616 := by omega
      have hv0 : 0 < v := by omega
      have hvi : (n : Int) + 1 = (v : Int) := by omega
      have q0 := ne_int (c := (v : Int)) (k := 0) (by omega)
      have HN0 : Hid (v ≠ 0) := Lib.hid (by omega)
      have HB : Hid (v < 2 ^ 64) := Lib.hid hv64
      obtain ⟨A, hA⟩ : ∃ A, fiV true v = A := ⟨_, rfl⟩
      obtain ⟨O, hO⟩ : ∃ O, fiO v = O := ⟨_, rfl⟩
      have HV := Lib.hid (And.intro hA hO)
      rw [hA, hO]
      clear hA hO hvv
      go_enter Try.func24, Try.ntmps24
      go_wp2_with fail
      clear q0 q1
      go_loop [1, 6] (fun s1 s4 => ∃ t u : Nat, t < 64 ∧ 0 < u ∧ u < 18446744073709551616 ∧ s1 = .int .u64 (u : Int) ∧ s4 = .int .i64 (1075 + (t : Int)) ∧ Hid (v = u * 2 ^ t ∧ (t = 0 ∨ 2 ^ 52 ≤ u))) (fun s1 _ => (intOf s1).toNat)
      case atStart => exact ⟨0, v, by decide, hv0, hv64, rfl, rfl, Lib.hid ⟨by simp, .inl rfl⟩⟩
      case round =>
        obtain ⟨t, u, ht, hu0, hu64, rfl, rfl, hI⟩ := hrel
        by_cases hbig : 9007199254740992 ≤ u
        · have q2 : ((u : Int) / 9007199254740992 != 0) = true := by simp; omega
          have t1 := u64_one u hu64
          obtain ⟨r, hr⟩ : ∃ r, u % 2 = r := ⟨_, rfl⟩
          rw [hr] at t1
          by_cases hr0 : r = 0
          · subst hr0
            have hI2 : Hid (v = u / 2 * 2 ^ (t + 1) ∧ (t + 1 = 0 ∨ 2 ^ 52 ≤ u / 2)) := Lib.hid ⟨by rw [Nat.pow_succ, Nat.mul_comm (2 ^ t), ← Nat.mul_assoc, show u / 2 * 2 = u by omega]; exact hI.out.1, .inr (by rw [p52]; omega)⟩
            have ht2 : t + 1 < 64 := fi_t HB.out hI2.out.1 (by omega)
            go_wp2_with fail
            clear t1
            go_round
            case rel => exact ⟨t + 1, u / 2, ht2, by omega, by omega, by go_num, by go_num, hI2⟩
            case measure => simp [intOf]; omega
          · obtain rfl : r = 1 := by omega
            have hno := fi_no hI.out.1 (by rw [p53]; exact hbig) hr
            have HA : Hid (A = 0 ∧ O = false) := Lib.hid ⟨by rw [← HV.out.1]; exact fi_none HN0.out hno, by rw [← HV.out.2]; exact hno⟩
            clear hno hr0 hr
            go_wp2_with fail
            go_ret2
            exact ⟨by rw [HA.out.1, HA.out.2]; rfl, rfl⟩
        · have q2 : ((u : Int) / 9007199254740992 != 0) = false := by simp; omega
          go_wp2_with fail
          clear q2
          go_loop [1, 6] (fun s1 s4 => ∃ t2 u2 : Nat, t2 < 53 ∧ 0 < u2 ∧ u2 < 9007199254740992 ∧ s1 = .int .u64 (u2 : Int) ∧ s4 = .int .i64 (1075 + (t : Int) - (t2 : Int)) ∧ Hid (u2 = u * 2 ^ t2)) (fun s1 _ => 9007199254740992 - (intOf s1).toNat)
          case atStart => exact ⟨0, u, by decide, hu0, by omega, rfl, by go_num, Lib.hid (by simp)⟩
          case round =>
            obtain ⟨t2, u2, ht2, hu20, hu2b, rfl, rfl, hJ⟩ := hrel
            by_cases hlow : u2 < 4503599627370496
            · have q3 : ((u2 : Int) / 4503599627370496 == 0) = true := by simp; omega
              have hJ2 : Hid (u2 * 2 = u * 2 ^ (t2 + 1)) := Lib.hid (by rw [Nat.pow_succ, ← Nat.mul_assoc, ← hJ.out])
              have ht3 : t2 + 1 < 53 := fi_t2 hJ2.out (by rw [p53]; omega) hu0
              go_wp2_with fail
              go_round
              case rel => exact ⟨t2 + 1, u2 * 2, ht3, by omega, by omega, by go_num, by go_num, hJ2⟩
              case measure => simp [intOf]; omega
            · have q3 : ((u2 : Int) / 4503599627370496 == 0) = false := by simp; omega
              have hfin := fi_end hI.out.1 hI.out.2 hJ.out (by rw [p52]; omega) (by rw [p53]; exact hu2b) ht
              have t9 := and_low u2 (by omega) hu2b
              obtain ⟨z, hz⟩ : ∃ z, u2 - 4503599627370496 = z := ⟨_, rfl⟩
              rw [hz] at t9
              have hzb : z < 4503599627370496 := by omega
              obtain ⟨X, hX⟩ : ∃ X, 1023 + v.log2 = X := ⟨_, rfl⟩
              have hXi : 1075 + (t : Int) - (t2 : Int) = (X : Int) := by omega
              have hXb : X < 2048 := by omega
              have HA : Hid (A = jv true X z ∧ O = true) := Lib.hid ⟨by rw [← HV.out.1, fi_some HN0.out hfin.1, hX, hfin.2.2, p52, hz], by rw [← HV.out.2]; exact hfin.1⟩
              have HX := Lib.hid hXi
              clear hfin hz hX hXi
              go_wp2_with fail
              rw [HX.out]
              refine (rjoin_any true X z _ hXb hzb).mono ?_
              rintro e w3 ⟨rfl, rfl⟩
              go_wp2_with fail
              go_ret2
              exact ⟨by rw [HA.out.1, HA.out.2]; rfl, rfl⟩
end Go.Proofs.Ytkgejncolchobaa.nn
