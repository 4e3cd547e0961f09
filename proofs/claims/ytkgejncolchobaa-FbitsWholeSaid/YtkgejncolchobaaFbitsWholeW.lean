/- The walk of FbitsWhole. -/
import Derived.Test.YtkgejncolchobaaFbitsLaws
import Derived.Test.YtkgejncolchobaaFbitsReal3
import Derived.Test.YtkgejncolchobaaFbNum2
import Derived.Lib.MinMax
namespace Go.Proofs.Ytkgejncolchobaa.nn
open Go.RowKit

/-- a whole number of at most 53 bits has bits: what they are -/
theorem wh_facts {v : Nat} {neg : Bool} (hv : v ≠ 0) (hb : v ≤ 9007199254740992) :
    ∃ q, fiO v = true ∧ fiV neg v < 18446744073709551616 ∧ xaO (fiV neg v) = true ∧ xaS (fiV neg v) = neg ∧ xaM (fiV neg v) = q ∧ ((v = 9007199254740992 ∧ q = 4503599627370496 ∧ xaE (fiV neg v) = 1) ∨ (∃ d : Nat, d ≤ 52 ∧ xaE (fiV neg v) = -(d : Int) ∧ q = v * 2 ^ d ∧ v * 2 ^ d < 9007199254740992)) := by
  have hO : fiO v = true := by
    unfold fiO
    refine decide_eq_true (Nat.mod_eq_zero_of_dvd ?_)
    by_cases h : v = 2 ^ 53
    · subst h
      rw [Nat.log2_two_pow]
      exact ⟨2 ^ 52, by decide⟩
    · have : v.log2 < 53 := (Nat.log2_lt hv).2 (by rw [p53] at h ⊢; omega)
      exact Nat.dvd_trans (Nat.pow_dvd_pow 2 (by omega)) (Nat.dvd_mul_left _ _)
  obtain ⟨q, a1, a2, a3, a4, a5, a6, a7, a8, a9⟩ := fi_xa (neg := neg) hv hO (Nat.le_trans hb (by decide))
  refine ⟨q, hO, a9, a1, a2, a3, ?_⟩
  obtain ⟨k, hk⟩ : ∃ k, v.log2 = k := ⟨_, rfl⟩
  rw [hk] at a4 a5 a6
  have hle : 2 ^ k ≤ v := by rw [← hk]; exact Nat.log2_self_le hv
  rcases Nat.lt_or_ge k 53 with h | h
  · obtain ⟨d, hd⟩ : ∃ d, 52 = k + d := ⟨52 - k, by omega⟩
    have e2 : q = v * 2 ^ d := by
      have e3 : v * 2 ^ 52 = v * 2 ^ d * 2 ^ k := by rw [Nat.mul_assoc, ← Nat.pow_add, show d + k = 52 by omega]
      rw [e3] at a6
      exact Nat.eq_of_mul_eq_mul_right (Nat.two_pow_pos k) a6
    exact .inr ⟨d, by omega, by omega, e2, by rw [← e2, ← p53]; exact a8⟩
  · have h1 : 2 ^ 53 ≤ 2 ^ k := pow_up h
    rw [p53] at h1
    have hv2 : v = 9007199254740992 := by omega
    have hk2 : k = 53 := by
      rw [← hk, hv2, ← p53]
      exact Nat.log2_two_pow
    subst hk2
    rw [p53, b52, hv2] at a6
    exact .inl ⟨hv2, by omega, by omega⟩
theorem u64_mask53 (a : Nat) (ha : a < 18446744073709551616) : bits .and .u64 (a : Int) 9007199254740991 = ((a % 9007199254740992 : Nat) : Int) :=
  (u64_and_nat a 9007199254740991 ha (by decide)).trans (by rw [show (9007199254740991 : Nat) = 2 ^ 53 - 1 by decide, and_mask a 53])
set_option maxRecDepth 100000 in
set_option maxHeartbeats 2000000 in
theorem whole_any (neg : Bool) (a : Nat) (ha : a < 18446744073709551616) (w : World) :
    Calls Try.prog 9 #[.bool neg, .int .u64 (a : Int)] w fun r w' => r = .returned (.bool true) ∧ Below w.heap.size w w' := by
  have ta := u64_mask53 a ha
  obtain ⟨n, hn⟩ : ∃ n, a % 9007199254740992 = n := ⟨_, rfl⟩
  rw [hn] at ta
  have hn2 : n < 9007199254740992 := by omega
  clear hn
  have h1 := fun w => ffromInt_any neg n w (by omega)
  by_cases h0 : fiN neg n = 0
  · have hz : neg = false ∧ n = 0 := by
      unfold fiN at h0
      cases neg
      · exact ⟨rfl, by omega⟩
      · rw [Bool.toNat_true] at h0; omega
    obtain ⟨rfl, rfl⟩ := hz
    rw [h0, fi_zero.1, fi_zero.2] at h1
    have h2 := fun w => fexact_any 0 w (by decide)
    unfold XaAns at h2
    rw [xa_zero.1, xa_zero.2.1, xa_zero.2.2.1, xa_zero.2.2.2] at h2
    have H1 := Lib.hid h1
    have H2 := Lib.hid h2
    clear h1 h2 h0
    go_enter Try.func9, Try.ntmps9
    go_wp2_with fail
    refine (H1.out _).mono ?_
    rintro r w1 ⟨rfl, b1⟩
    go_wp2_with fail
    refine (H2.out _).mono ?_
    rintro r w2 ⟨rfl, b2⟩
    have c2 := Lib.hid (b1.trans (b2.mono b1.size))
    clear b1 b2
    go_wp2_with fail
    refine (awake5_any _).mono ?_
    rintro r w9 ⟨rfl, b9⟩
    have c9 := Lib.hid (c2.out.trans (b9.mono c2.out.size))
    clear b9 c2
    go_wp2_with fail
    go_ret
    exact ⟨rfl, c9.out⟩
  · have hvb : fiN neg n ≤ 9007199254740992 := by unfold fiN; cases neg <;> simp <;> omega
    obtain ⟨q, f1, f2, f3, f4, f5, f6⟩ := wh_facts (neg := neg) h0 hvb
    obtain ⟨b, hbb⟩ : ∃ b, fiV neg (fiN neg n) = b := ⟨_, rfl⟩
    rw [hbb] at f2 f3 f4 f5 f6 h1
    rw [f1] at h1
    have h2 := fun w => fexact_any b w f2
    unfold XaAns at h2
    rw [f3, f4, f5] at h2
    have hvi : fiN neg n = n + neg.toNat := rfl
    obtain ⟨v, hv⟩ : ∃ v, fiN neg n = v := ⟨_, rfl⟩
    rw [hv] at hvi f6 h0
    clear hbb f1 f2 f3 f4 f5 hv hvb
    rcases f6 with ⟨hv2, rfl, e1⟩ | ⟨d, hd, e1, e2, hq⟩
    · rw [e1] at h2
      have hnt : neg = true ∧ n = 9007199254740991 := by
        cases neg
        · rw [Bool.toNat_false] at hvi; omega
        · rw [Bool.toNat_true] at hvi; exact ⟨rfl, by omega⟩
      obtain ⟨rfl, rfl⟩ := hnt
      have H1 := Lib.hid h1
      have H2 := Lib.hid h2
      clear h1 h2 hvi h0
      go_enter Try.func9, Try.ntmps9
      go_wp2_with fail
      refine (H1.out _).mono ?_
      rintro r w1 ⟨rfl, b1⟩
      go_wp2_with fail
      refine (H2.out _).mono ?_
      rintro r w2 ⟨rfl, b2⟩
      have c2 := Lib.hid (b1.trans (b2.mono b1.size))
      clear b1 b2
      go_wp2_with fail
      refine (awake5_any _).mono ?_
      rintro r w9 ⟨rfl, b9⟩
      have c9 := Lib.hid (c2.out.trans (b9.mono c2.out.size))
      clear b9 c2
      go_wp2_with fail
      go_ret
      exact ⟨rfl, c9.out⟩
    · rw [e1] at h2
      have emin : min (d : Int) 63 = (d : Int) := by omega
      have eq1 : (v : Int) * 2 ^ d = (q : Int) := by rw [e2]; simp
      have eq2 : (q : Int) / 2 ^ d = (v : Int) := by
        have : q / 2 ^ d = v := by rw [e2]; exact Nat.mul_div_cancel _ (Nat.two_pow_pos d)
        rw [← this]; simp
      have hq2 : q < 9007199254740992 := by rw [e2]; exact hq
      have hv3 : v < 18446744073709551616 := by
        rw [hvi]
        cases neg <;> simp <;> omega
      clear e2 hq e1
      have H1 := Lib.hid h1
      have H2 := Lib.hid h2
      clear h1 h2
      cases neg
      · obtain rfl : n = v := by rw [hvi, Bool.toNat_false, Nat.add_zero]
        clear hvi
        go_enter Try.func9, Try.ntmps9
        go_wp2_with fail
        refine (H1.out _).mono ?_
        rintro r w1 ⟨rfl, b1⟩
        go_wp2_with fail
        refine (H2.out _).mono ?_
        rintro r w2 ⟨rfl, b2⟩
        have c2 := Lib.hid (b1.trans (b2.mono b1.size))
        clear b1 b2
        go_wp2_with fail
        refine (awake5_any _).mono ?_
        rintro r w9 ⟨rfl, b9⟩
        have c9 := Lib.hid (c2.out.trans (b9.mono c2.out.size))
        clear b9 c2
        go_wp2_with fail
        go_ret
        exact ⟨rfl, c9.out⟩
      · have hvi2 : (n : Int) + 1 = (v : Int) := by rw [hvi, Bool.toNat_true]; simp
        clear hvi
        go_enter Try.func9, Try.ntmps9
        go_wp2_with fail
        refine (H1.out _).mono ?_
        rintro r w1 ⟨rfl, b1⟩
        go_wp2_with fail
        refine (H2.out _).mono ?_
        rintro r w2 ⟨rfl, b2⟩
        have c2 := Lib.hid (b1.trans (b2.mono b1.size))
        clear b1 b2
        go_wp2_with fail
        refine (awake5_any _).mono ?_
        rintro r w9 ⟨rfl, b9⟩
        have c9 := Lib.hid (c2.out.trans (b9.mono c2.out.size))
        clear b9 c2
        go_wp2_with fail
        go_ret
        exact ⟨rfl, c9.out⟩
end Go.Proofs.Ytkgejncolchobaa.nn
