/- Plain facts of floats as bits: parts and bits, widened and narrowed, in numbers. -/
import Derived.Test.YtkgejncolchobaaRefNarrow2
import Derived.Test.YtkgejncolchobaaRefInt
import Derived.Test.YtkgejncolchobaaRefFromInt
namespace Go.Proofs.Ytkgejncolchobaa.nn

/-! parts and bits -/
theorem b52 : (2 : Nat) ^ 52 = 4503599627370496 := by decide
theorem jv_parts {S : Bool} {X M : Nat} (hX : X < 2048) (hM : M < 4503599627370496) : sg 64 (jv S X M) = S ∧ ex 64 (jv S X M) = X ∧ fr 64 (jv S X M) = M ∧ jv S X M < 18446744073709551616 := by
  unfold sg ex fr jv
  rw [show xb 64 + fb 64 = 63 from rfl, show fb 64 = 52 from rfl, show xb 64 = 11 from rfl, show (2 : Nat) ^ 63 = 9223372036854775808 by decide, b52, show (2 : Nat) ^ 11 = 2048 by decide]
  cases S
  · refine ⟨decide_eq_false (by simp; omega), by simp; omega, by simp; omega, by simp; omega⟩
  · refine ⟨decide_eq_true (by simp; omega), by simp; omega, by simp; omega, by simp; omega⟩
theorem parts_jv {x : Nat} (hx : x < 18446744073709551616) : jv (sg 64 x) (ex 64 x) (fr 64 x) = x := by
  unfold jv sg ex fr
  rw [show xb 64 + fb 64 = 63 from rfl, show fb 64 = 52 from rfl, show xb 64 = 11 from rfl, show (2 : Nat) ^ 63 = 9223372036854775808 by decide, b52, show (2 : Nat) ^ 11 = 2048 by decide]
  by_cases h : x / 9223372036854775808 = 1
  · rw [decide_eq_true h, if_pos rfl]; omega
  · rw [decide_eq_false h, if_neg (by decide)]; omega

/-- the bits of a width of parts; E, F: how many bits of an exponent, of a fraction -/
def kv (E F : Nat) (S : Bool) (X M : Nat) : Nat := (if S then 2 ^ (E + F) else 0) + X * 2 ^ F + M
theorem kv_parts16 {S : Bool} {X M : Nat} (hX : X < 32) (hM : M < 1024) : sg 16 (kv 5 10 S X M) = S ∧ ex 16 (kv 5 10 S X M) = X ∧ fr 16 (kv 5 10 S X M) = M ∧ kv 5 10 S X M < 65536 := by
  unfold sg ex fr kv
  rw [show xb 16 + fb 16 = 15 from rfl, show fb 16 = 10 from rfl, show xb 16 = 5 from rfl, show 5 + 10 = 15 from rfl, show (2 : Nat) ^ 15 = 32768 by decide, show (2 : Nat) ^ 10 = 1024 by decide, show (2 : Nat) ^ 5 = 32 by decide]
  cases S
  · refine ⟨decide_eq_false (by simp; omega), by simp; omega, by simp; omega, by simp; omega⟩
  · refine ⟨decide_eq_true (by simp; omega), by simp; omega, by simp; omega, by simp; omega⟩
theorem kv_parts32 {S : Bool} {X M : Nat} (hX : X < 256) (hM : M < 8388608) : sg 32 (kv 8 23 S X M) = S ∧ ex 32 (kv 8 23 S X M) = X ∧ fr 32 (kv 8 23 S X M) = M ∧ kv 8 23 S X M < 4294967296 := by
  unfold sg ex fr kv
  rw [show xb 32 + fb 32 = 31 from rfl, show fb 32 = 23 from rfl, show xb 32 = 8 from rfl, show 8 + 23 = 31 from rfl, show (2 : Nat) ^ 31 = 2147483648 by decide, show (2 : Nat) ^ 23 = 8388608 by decide, show (2 : Nat) ^ 8 = 256 by decide]
  cases S
  · refine ⟨decide_eq_false (by simp; omega), by simp; omega, by simp; omega, by simp; omega⟩
  · refine ⟨decide_eq_true (by simp; omega), by simp; omega, by simp; omega, by simp; omega⟩
theorem parts_kv16 {x : Nat} (hx : x < 65536) : kv 5 10 (sg 16 x) (ex 16 x) (fr 16 x) = x := by
  unfold kv sg ex fr
  rw [show xb 16 + fb 16 = 15 from rfl, show fb 16 = 10 from rfl, show xb 16 = 5 from rfl, show 5 + 10 = 15 from rfl, show (2 : Nat) ^ 15 = 32768 by decide, show (2 : Nat) ^ 10 = 1024 by decide, show (2 : Nat) ^ 5 = 32 by decide]
  by_cases h : x / 32768 = 1
  · rw [decide_eq_true h, if_pos rfl]; omega
  · rw [decide_eq_false h, if_neg (by decide)]; omega
theorem parts_kv32 {x : Nat} (hx : x < 4294967296) : kv 8 23 (sg 32 x) (ex 32 x) (fr 32 x) = x := by
  unfold kv sg ex fr
  rw [show xb 32 + fb 32 = 31 from rfl, show fb 32 = 23 from rfl, show xb 32 = 8 from rfl, show 8 + 23 = 31 from rfl, show (2 : Nat) ^ 31 = 2147483648 by decide, show (2 : Nat) ^ 23 = 8388608 by decide, show (2 : Nat) ^ 8 = 256 by decide]
  by_cases h : x / 2147483648 = 1
  · rw [decide_eq_true h, if_pos rfl]; omega
  · rw [decide_eq_false h, if_neg (by decide)]; omega

/-! widened and narrowed, in parts -/
/-- a width's parts: bits of an exponent, of a fraction; what is taken from the exponent; the exponents' number -/
structure Wd (E F B T : Nat) : Prop where
  e : 2 ^ (E - 1) - 1 = B
  t : 2 ^ E = T
  bt : T = 2 * B + 2
  b : 1 ≤ B ∧ B ≤ 127
  f : 1 ≤ F ∧ F ≤ 23 ∧ F ≤ B
theorem wd16 : Wd 5 10 15 32 := ⟨by decide, by decide, by decide, by decide, by decide⟩
theorem wd32 : Wd 8 23 127 256 := ⟨by decide, by decide, by decide, by decide, by decide⟩
/-- the wider parts -/
def wX (B T F X M : Nat) : Nat := if X = T - 1 then 2047 else if 0 < X then X + 1023 - B else if 0 < M then 1024 - B - nrm (M * 2 ^ (52 - F)) else 0
def wM (T F X M : Nat) : Nat := if X = T - 1 ∨ 0 < X then M * 2 ^ (52 - F) else if 0 < M then M * 2 ^ (52 - F) * 2 ^ nrm (M * 2 ^ (52 - F)) - 4503599627370496 else 0
section
variable {E F B T X M : Nat}
theorem Wd.small (_ : Wd E F B T) (hM : M < 2 ^ F) (h0 : 0 < M) : 0 < M * 2 ^ (52 - F) ∧ M * 2 ^ (52 - F) < 4503599627370496 ∧ 2 ^ (52 - F) ≤ M * 2 ^ (52 - F) := by
  have hF := (‹Wd E F B T›).f
  have hp := Nat.two_pow_pos (52 - F)
  refine ⟨Nat.mul_pos h0 hp, ?_, Nat.le_mul_of_pos_left _ h0⟩
  rw [← b52, show 52 = F + (52 - F) by omega, Nat.pow_add, show F + (52 - F) - F = 52 - F by omega]
  exact Nat.mul_lt_mul_of_pos_right hM hp
theorem nrm_eq {m t : Nat} (hm : 0 < m) (h1 : 4503599627370496 ≤ m * 2 ^ t) (h2 : m * 2 ^ t < 9007199254740992) (hb : m < 4503599627370496) : nrm m = t := by
  apply Nat.le_antisymm
  · rcases Nat.lt_or_ge t (nrm m) with h | h
    · have := (nrm_lt hm hb).1 h; omega
    · exact h
  · rcases Nat.lt_or_ge (nrm m) t with h | h
    · have h3 := (nrm_hi hm hb).2
      obtain ⟨d, rfl⟩ : ∃ d, t = nrm m + 1 + d := ⟨t - nrm m - 1, by omega⟩
      rw [Nat.pow_add, Nat.pow_succ, ← Nat.mul_assoc, ← Nat.mul_assoc] at h2
      have h4 : m * 2 ^ nrm m * 2 * 1 ≤ m * 2 ^ nrm m * 2 * 2 ^ d := Nat.mul_le_mul_left _ (Nat.two_pow_pos d)
      omega
    · exact h
theorem nrm_pos {m : Nat} (hm : 0 < m) (hb : m < 4503599627370496) : 1 ≤ nrm m := (nrm_lt hm hb).2 (by simpa using hb)
theorem Wd.nrm_le (h : Wd E F B T) (hM : M < 2 ^ F) (h0 : 0 < M) : nrm (M * 2 ^ (52 - F)) ≤ F := by
  obtain ⟨s1, s2, s3⟩ := h.small hM h0
  have hF := h.f
  rcases Nat.lt_or_ge F (nrm (M * 2 ^ (52 - F))) with h' | h'
  · have h1 := (nrm_lt s1 s2).1 h'
    have h2 : 2 ^ (52 - F) * 2 ^ F ≤ M * 2 ^ (52 - F) * 2 ^ F := Nat.mul_le_mul_right _ s3
    rw [← Nat.pow_add, show 52 - F + F = 52 by omega, b52] at h2
    omega
  · exact h'
theorem sh_mul {m n : Nat} : shOk (m * 2 ^ n) n = true ∧ shV (m * 2 ^ n) n = m := by
  unfold shOk shV
  exact ⟨decide_eq_true (Nat.mul_mod_left _ _), by rw [if_pos (Nat.mul_mod_left _ _), Nat.mul_div_cancel _ (Nat.two_pow_pos n)]⟩
theorem sh_ok {m n : Nat} (h : shOk m n = true) : shV m n * 2 ^ n = m := by
  have h := of_decide_eq_true h
  unfold shV
  rw [if_pos h]
  exact Nat.div_mul_cancel (Nat.dvd_of_mod_eq_zero h)
/-- the wider parts are parts -/
theorem Wd.wide (h : Wd E F B T) (hX : X < T) (hM : M < 2 ^ F) : wX B T F X M ≤ 2047 ∧ wM T F X M < 4503599627370496 := by
  have hF := h.f
  have hB := h.b
  have hbt := h.bt
  have hp := Nat.two_pow_pos (52 - F)
  have hm : M * 2 ^ (52 - F) < 4503599627370496 := by
    rw [← b52, show 52 = F + (52 - F) by omega, Nat.pow_add, show F + (52 - F) - F = 52 - F by omega]
    exact Nat.mul_lt_mul_of_pos_right hM hp
  unfold wX wM
  by_cases c1 : X = T - 1
  · rw [if_pos c1, if_pos (.inl c1)]; exact ⟨Nat.le_refl _, hm⟩
  · rw [if_neg c1]
    by_cases c2 : 0 < X
    · rw [if_pos c2, if_pos (.inr c2)]; exact ⟨by omega, hm⟩
    · rw [if_neg c2, if_neg (show ¬ (X = T - 1 ∨ 0 < X) by omega)]
      by_cases c3 : 0 < M
      · obtain ⟨s1, s2, _⟩ := h.small hM c3
        have := nrm_hi s1 s2
        rw [if_pos c3, if_pos c3]; omega
      · rw [if_neg c3, if_neg c3]; omega
/-- what is widened is narrowed to itself -/
theorem Wd.back (h : Wd E F B T) (hX : X < T) (hM : M < 2 ^ F) (S : Bool) : nwO E F (wX B T F X M) (wM T F X M) = true ∧ nwA E F S (wX B T F X M) (wM T F X M) = kv E F S X M := by
  have hF := h.f
  have hB := h.b
  have hbt := h.bt
  suffices hs : nwO E F (wX B T F X M) (wM T F X M) = true ∧ nwV E F (wX B T F X M) (wM T F X M) = X * 2 ^ F + M by
    refine ⟨hs.1, ?_⟩
    unfold nwA kv
    rw [hs.1, if_pos rfl, hs.2, Nat.add_assoc]
  unfold nwO nwV
  dsimp only
  rw [h.e, h.t]
  obtain ⟨k1, k2⟩ := sh_mul (m := M) (n := 52 - F)
  by_cases c1 : X = T - 1
  · have e1 : wX B T F X M = 2047 := if_pos c1
    have e2 : wM T F X M = M * 2 ^ (52 - F) := if_pos (.inl c1)
    rw [e1, e2, if_neg (by decide), if_pos rfl, if_neg (by decide), if_pos rfl, k1, k2, c1]
    exact ⟨rfl, rfl⟩
  · by_cases c2 : 0 < X
    · have e1 : wX B T F X M = X + 1023 - B := by unfold wX; rw [if_neg c1, if_pos c2]
      have e2 : wM T F X M = M * 2 ^ (52 - F) := if_pos (.inr c2)
      rw [e1, e2]
      have ey : ((X + 1023 - B : Nat) : Int) - 1023 + (B : Int) = (X : Int) := by omega
      rw [ey, if_neg (by omega), if_neg (by omega), if_neg (by omega), if_pos (by omega), if_neg (by omega), if_neg (by omega), if_pos (by omega), k1, k2, Int.toNat_natCast]
      exact ⟨rfl, rfl⟩
    · obtain rfl : X = 0 := by omega
      by_cases c3 : 0 < M
      · obtain ⟨s1, s2, _⟩ := h.small hM c3
        obtain ⟨n1, n2⟩ := nrm_hi s1 s2
        have n3 := nrm_pos s1 s2
        have n4 := h.nrm_le hM c3
        have e1 : wX B T F 0 M = 1024 - B - nrm (M * 2 ^ (52 - F)) := by unfold wX; rw [if_neg c1, if_neg c2, if_pos c3]
        have e2 : wM T F 0 M = M * 2 ^ (52 - F) * 2 ^ nrm (M * 2 ^ (52 - F)) - 4503599627370496 := by unfold wM; rw [if_neg (by omega), if_pos c3]
        rw [e1, e2]
        obtain ⟨t, ht⟩ : ∃ t, nrm (M * 2 ^ (52 - F)) = t := ⟨_, rfl⟩
        rw [ht] at n1 n2 n3 n4 ⊢
        have ey : ((1024 - B - t : Nat) : Int) - 1023 + (B : Int) = 1 - (t : Int) := by omega
        have ez : M * 2 ^ (52 - F) * 2 ^ t - 4503599627370496 + 4503599627370496 = M * 2 ^ (52 - F + t) := by rw [Nat.pow_add, ← Nat.mul_assoc]; omega
        have ew : (53 - (F : Int) - (1 - (t : Int))).toNat = 52 - F + t := by omega
        rw [ey, if_neg (by omega), if_neg (by omega), if_neg (by omega), if_neg (by omega), if_neg (by omega), if_neg (by omega), if_neg (by omega), ez, ew]
        obtain ⟨j1, j2⟩ := sh_mul (m := M) (n := 52 - F + t)
        rw [j1, j2, Nat.zero_mul, Nat.zero_add]
        exact ⟨rfl, rfl⟩
      · obtain rfl : M = 0 := by omega
        have e1 : wX B T F 0 0 = 0 := by unfold wX; rw [if_neg c1, if_neg c2, if_neg c2]
        have e2 : wM T F 0 0 = 0 := by unfold wM; rw [if_neg (by omega), if_neg c2]
        rw [e1, e2, if_pos rfl, if_pos rfl, Nat.zero_mul]
        exact ⟨rfl, rfl⟩
/-- what is narrowed is widened to itself; what its parts are -/
theorem Wd.forth (h : Wd E F B T) {X' M' : Nat} (hX : X' ≤ 2047) (hM : M' < 4503599627370496) (hO : nwO E F X' M' = true) :
    ∃ X M, X < T ∧ M < 2 ^ F ∧ (∀ S, nwA E F S X' M' = kv E F S X M) ∧ wX B T F X M = X' ∧ wM T F X M = M' ∧ (cl5 E X M = cl5 11 X' M' ∨ cl5 E X M = 1 ∧ cl5 11 X' M' = 2) := by
  have hF := h.f
  have hB := h.b
  have hbt := h.bt
  have h11 : (2 : Nat) ^ 11 - 1 = 2047 := by decide
  suffices hs : ∃ X M, X < T ∧ M < 2 ^ F ∧ nwV E F X' M' = X * 2 ^ F + M ∧ wX B T F X M = X' ∧ wM T F X M = M' ∧ (cl5 E X M = cl5 11 X' M' ∨ cl5 E X M = 1 ∧ cl5 11 X' M' = 2) by
    obtain ⟨X, M, a1, a2, a3, a4⟩ := hs
    refine ⟨X, M, a1, a2, fun S => ?_, a4⟩
    unfold nwA kv
    rw [hO, if_pos rfl, a3, Nat.add_assoc]
  unfold nwO at hO
  unfold nwV cl5
  dsimp only at hO ⊢
  rw [h.e, h.t] at hO
  rw [h.e, h.t, h11]
  have hm : ∀ K, K * 2 ^ (52 - F) = M' → K < 2 ^ F := fun K hK => by
    have e : (2 : Nat) ^ 52 = 2 ^ F * 2 ^ (52 - F) := by rw [← Nat.pow_add]; congr 1; omega
    exact Nat.lt_of_mul_lt_mul_right (a := 2 ^ (52 - F)) (by rw [hK, ← e, b52]; exact hM)
  by_cases c0 : X' = 0
  · rw [if_pos c0] at hO
    have hM0 := of_decide_eq_true hO
    subst c0 hM0
    refine ⟨0, 0, by omega, Nat.two_pow_pos _, by rw [if_pos rfl]; simp, ?_, ?_, .inl ?_⟩
    · unfold wX; rw [if_neg (by omega), if_neg (by omega), if_neg (by omega)]
    · unfold wM; rw [if_neg (by omega), if_neg (by omega)]
    · rw [if_neg (by omega), if_neg (by omega)]
      rfl
  · rw [if_neg c0] at hO ⊢
    by_cases c1 : X' = 2047
    · rw [if_pos c1] at hO ⊢
      have hv := sh_ok hO
      refine ⟨T - 1, shV M' (52 - F), by omega, hm _ hv, rfl, ?_, ?_, .inl ?_⟩
      · unfold wX; rw [if_pos rfl]; exact c1.symm
      · unfold wM; rw [if_pos (.inl rfl)]; exact hv
      · rw [if_pos rfl, if_pos c1]
        have : shV M' (52 - F) = 0 ↔ M' = 0 := by
          have hp := Nat.two_pow_pos (52 - F)
          constructor
          · intro h0; rw [← hv, h0, Nat.zero_mul]
          · intro h0
            rcases Nat.eq_zero_or_pos (shV M' (52 - F)) with h1 | h1
            · exact h1
            · have := Nat.mul_pos h1 hp; omega
        simp only [this]
    · rw [if_neg c1] at hO ⊢
      obtain ⟨y, hy⟩ : ∃ y : Int, (X' : Int) - 1023 + (B : Int) = y := ⟨_, rfl⟩
      rw [hy] at hO ⊢
      by_cases c2 : y ≥ ((T - 1 : Nat) : Int) ∨ y < -(F : Int)
      · rw [if_pos c2] at hO; cases hO
      · rw [if_neg c2] at hO
        by_cases c3 : 1 ≤ y
        · rw [if_pos c3] at hO ⊢
          have hv := sh_ok hO
          refine ⟨y.toNat, shV M' (52 - F), by omega, hm _ hv, rfl, ?_, ?_, .inl ?_⟩
          · unfold wX; rw [if_neg (by omega), if_pos (by omega)]; omega
          · unfold wM; rw [if_pos (.inr (by omega))]; exact hv
          · rw [if_neg (by omega), if_pos (by omega), if_neg c1, if_pos (by omega)]
        · rw [if_neg c3] at hO ⊢
          have hv := sh_ok hO
          obtain ⟨n, hn⟩ : ∃ n, (53 - (F : Int) - y).toNat = n := ⟨_, rfl⟩
          rw [hn] at hv hO ⊢
          obtain ⟨K, hK⟩ : ∃ K, shV (M' + 4503599627370496) n = K := ⟨_, rfl⟩
          rw [hK] at hv ⊢
          have hK0 : 0 < K := by
            rcases Nat.eq_zero_or_pos K with h1 | h1
            · rw [h1, Nat.zero_mul] at hv; omega
            · exact h1
          have hn53 : n < 53 := by
            rcases Nat.lt_or_ge n 53 with h1 | h1
            · exact h1
            · have e1 : 1 * 2 ^ 53 ≤ K * 2 ^ n := Nat.mul_le_mul hK0 (pow_up h1)
              rw [hv, p53] at e1
              omega
          obtain ⟨t, ht⟩ : ∃ t : Nat, (t : Int) = 1 - y := ⟨(1 - y).toNat, by omega⟩
          have hnt : n = 52 - F + t := by omega
          have htF : t ≤ F := by omega
          have hN : K * 2 ^ (52 - F) * 2 ^ t = M' + 4503599627370496 := by rw [Nat.mul_assoc, ← Nat.pow_add, ← hnt]; exact hv
          have hp := Nat.two_pow_pos t
          have hKF : K < 2 ^ F := by
            have e : (2 : Nat) ^ 53 = 2 ^ (53 - n) * 2 ^ n := by rw [← Nat.pow_add]; congr 1; omega
            have e2 : K < 2 ^ (53 - n) := Nat.lt_of_mul_lt_mul_right (a := 2 ^ n) (by rw [hv, ← e, p53]; omega)
            exact Nat.lt_of_lt_of_le e2 (pow_up (by omega))
          obtain ⟨s1, s2, _⟩ := h.small hKF hK0
          have hnr : nrm (K * 2 ^ (52 - F)) = t := nrm_eq s1 (by omega) (by omega) s2
          refine ⟨0, K, by omega, hKF, by rw [Nat.zero_mul, Nat.zero_add], ?_, ?_, .inr ⟨?_, ?_⟩⟩
          · unfold wX; rw [if_neg (by omega), if_neg (by omega), if_pos hK0, hnr]; omega
          · unfold wM; rw [if_neg (by omega), if_pos hK0, hnr, hN]; omega
          · rw [if_neg (by omega), if_neg (by omega), if_pos hK0]
          · rw [if_neg c1, if_pos (by omega)]
end
end Go.Proofs.Ytkgejncolchobaa.nn
