/- Plain facts of floats as bits: there and back, order, whole numbers. -/
import Derived.Test.YtkgejncolchobaaFbNum
namespace Go.Proofs.Ytkgejncolchobaa.nn

theorem wd_16 (x : Nat) : wdV 16 x = jv (sg 16 x) (wX 15 32 10 (ex 16 x) (fr 16 x)) (wM 32 10 (ex 16 x) (fr 16 x)) := by
  have h1 := ex_lt (w := 16) (x := x)
  rw [show (2 : Nat) ^ xb 16 = 32 from rfl] at h1
  unfold wdV clk cl5 wX wM wdm
  rw [show (2 : Nat) ^ xb 16 - 1 = 31 from rfl, show bia 16 = 15 from rfl, show fb 16 = 10 from rfl, show 32 - 1 = 31 from rfl]
  by_cases c1 : ex 16 x = 31
  · simp only [c1, if_true, true_or]
    by_cases c2 : fr 16 x = 0 <;> simp [c2]
  · simp only [c1, if_false, false_or]
    by_cases c2 : 0 < ex 16 x
    · simp [c2]
    · simp only [c2, if_false]
      by_cases c3 : 0 < fr 16 x
      · simp [c3]
      · simp [c3]
theorem wd_32 (x : Nat) : wdV 32 x = jv (sg 32 x) (wX 127 256 23 (ex 32 x) (fr 32 x)) (wM 256 23 (ex 32 x) (fr 32 x)) := by
  have h1 := ex_lt (w := 32) (x := x)
  rw [show (2 : Nat) ^ xb 32 = 256 from rfl] at h1
  unfold wdV clk cl5 wX wM wdm
  rw [show (2 : Nat) ^ xb 32 - 1 = 255 from rfl, show bia 32 = 127 from rfl, show fb 32 = 23 from rfl, show 256 - 1 = 255 from rfl]
  by_cases c1 : ex 32 x = 255
  · simp only [c1, if_true, true_or]
    by_cases c2 : fr 32 x = 0 <;> simp [c2]
  · simp only [c1, if_false, false_or]
    by_cases c2 : 0 < ex 32 x
    · simp [c2]
    · simp only [c2, if_false]
      by_cases c3 : 0 < fr 32 x
      · simp [c3]
      · simp [c3]
theorem wd_64 {x : Nat} (hx : x < 18446744073709551616) : wdV 64 x = x := by
  have hj := parts_jv hx
  unfold wdV clk cl5 wdm
  rw [show (2 : Nat) ^ xb 64 - 1 = 2047 from rfl, show bia 64 = 1023 from rfl, show 52 - fb 64 = 0 from rfl, Nat.pow_zero, Nat.mul_one]
  by_cases c1 : ex 64 x = 2047
  · simp only [c1, if_true]
    rw [c1] at hj
    by_cases c2 : fr 64 x = 0
    · simp [c2]; rw [c2] at hj; exact hj
    · simp [c2]; exact hj
  · simp only [c1, if_false]
    by_cases c2 : 0 < ex 64 x
    · simp [c2]; exact hj
    · simp only [c2, if_false]
      have c0 : ex 64 x = 0 := by omega
      by_cases c3 : 0 < fr 64 x
      · simp [c3]
      · have c4 : fr 64 x = 0 := by omega
        simp [c4]
        rw [c0, c4] at hj
        exact hj

theorem fits16 {x : Nat} : fits 16 x ↔ x < 65536 := ⟨fun h => h.2 (by decide), fun h => ⟨by unfold wOk; omega, fun _ => h⟩⟩
theorem fits32 {x : Nat} : fits 32 x ↔ x < 4294967296 := ⟨fun h => h.2 (by decide), fun h => ⟨by unfold wOk; omega, fun _ => h⟩⟩
theorem wi_ok {k : Int} {x : Nat} (h : fits k x) : wiV k x = wdV k.toNat x := if_pos h
theorem nr_ok {k : Int} {x : Nat} (hk : wOk k) (h : k ≠ 64) : nrO k x = nwO (xb k.toNat) (fb k.toNat) (ex 64 x) (fr 64 x) ∧ nrV k x = nwA (xb k.toNat) (fb k.toNat) (sg 64 x) (ex 64 x) (fr 64 x) := by
  unfold nrO nrV
  rw [if_pos hk, if_pos hk, if_neg h, if_neg h]
  exact ⟨rfl, rfl⟩
theorem cl_ok {k : Int} {x : Nat} (h : fits k x) : clC k x = cl5 (xb k.toNat) (ex k.toNat x) (fr k.toNat x) := if_pos h

/-- bits that are widened are narrowed to themselves -/
theorem wi_back {k : Int} {b : Nat} (h : fits k b) (hb : b < 18446744073709551616) : wiV k b < 18446744073709551616 ∧ nrO k (wiV k b) = true ∧ nrV k (wiV k b) = b := by
  have hk := h.1
  unfold wOk at hk
  rw [wi_ok h]
  rcases hk with rfl | rfl | rfl
  · have hX := ex_lt (w := 16) (x := b)
    have hM := fr_lt (w := 16) (x := b)
    rw [show (2 : Nat) ^ xb 16 = 32 from rfl] at hX
    rw [show fb 16 = 10 from rfl] at hM
    obtain ⟨a1, a2⟩ := wd16.wide hX hM
    obtain ⟨b1, b2⟩ := wd16.back hX hM (sg 16 b)
    obtain ⟨j1, j2, j3, j4⟩ := jv_parts (S := sg 16 b) (by omega) a2 (X := wX 15 32 10 (ex 16 b) (fr 16 b))
    obtain ⟨n1, n2⟩ := nr_ok (k := 16) (x := wdV 16 b) (by unfold wOk; omega) (by decide)
    rw [show Int.toNat 16 = 16 from rfl, show xb 16 = 5 from rfl, show fb 16 = 10 from rfl] at n1 n2
    rw [show Int.toNat 16 = 16 from rfl, n1, n2, wd_16, j1, j2, j3]
    exact ⟨j4, b1, b2.trans (parts_kv16 (fits16.1 h))⟩
  · have hX := ex_lt (w := 32) (x := b)
    have hM := fr_lt (w := 32) (x := b)
    rw [show (2 : Nat) ^ xb 32 = 256 from rfl] at hX
    rw [show fb 32 = 23 from rfl] at hM
    obtain ⟨a1, a2⟩ := wd32.wide hX hM
    obtain ⟨b1, b2⟩ := wd32.back hX hM (sg 32 b)
    obtain ⟨j1, j2, j3, j4⟩ := jv_parts (S := sg 32 b) (by omega) a2 (X := wX 127 256 23 (ex 32 b) (fr 32 b))
    obtain ⟨n1, n2⟩ := nr_ok (k := 32) (x := wdV 32 b) (by unfold wOk; omega) (by decide)
    rw [show Int.toNat 32 = 32 from rfl, show xb 32 = 8 from rfl, show fb 32 = 23 from rfl] at n1 n2
    rw [show Int.toNat 32 = 32 from rfl, n1, n2, wd_32, j1, j2, j3]
    exact ⟨j4, b1, b2.trans (parts_kv32 (fits32.1 h))⟩
  · rw [show Int.toNat 64 = 64 from rfl, wd_64 hb]
    exact ⟨hb, rfl, rfl⟩
/-- bits that are narrowed are widened to themselves -/
theorem nr_forth {k : Int} {x : Nat} (hk : wOk k) (hx : x < 18446744073709551616) (hO : nrO k x = true) : nrV k x < 18446744073709551616 ∧ fits k (nrV k x) ∧ wiV k (nrV k x) = x ∧ (clC k (nrV k x) = clC 64 x ∨ clC k (nrV k x) = 1 ∧ clC 64 x = 2) := by
  have hX := ex_lt (w := 64) (x := x)
  have hM := fr_lt (w := 64) (x := x)
  rw [show (2 : Nat) ^ xb 64 = 2048 from rfl] at hX
  rw [show (2 : Nat) ^ fb 64 = 4503599627370496 from rfl] at hM
  have hc := cl_ok (fits64 x)
  rw [show Int.toNat 64 = 64 from rfl, show xb 64 = 11 from rfl] at hc
  have hj := parts_jv hx
  unfold wOk at hk
  rcases hk with rfl | rfl | rfl
  · obtain ⟨n1, n2⟩ := nr_ok (k := 16) (x := x) (by unfold wOk; omega) (by decide)
    rw [show Int.toNat 16 = 16 from rfl, show xb 16 = 5 from rfl, show fb 16 = 10 from rfl] at n1 n2
    rw [n1] at hO
    obtain ⟨X, M, x1, x2, x3, x4, x5, x6⟩ := wd16.forth (by omega) hM hO
    obtain ⟨k1, k2, k3, k4⟩ := kv_parts16 (S := sg 64 x) x1 x2
    have hV : nrV 16 x = kv 5 10 (sg 64 x) X M := n2.trans (x3 _)
    rw [hV]
    have hf := fits16.2 k4
    refine ⟨by omega, hf, ?_, ?_⟩
    · rw [wi_ok hf, show Int.toNat 16 = 16 from rfl, wd_16, k1, k2, k3, x4, x5]; exact hj
    · rw [cl_ok hf, hc, show Int.toNat 16 = 16 from rfl, k2, k3]; exact x6
  · obtain ⟨n1, n2⟩ := nr_ok (k := 32) (x := x) (by unfold wOk; omega) (by decide)
    rw [show Int.toNat 32 = 32 from rfl, show xb 32 = 8 from rfl, show fb 32 = 23 from rfl] at n1 n2
    rw [n1] at hO
    obtain ⟨X, M, x1, x2, x3, x4, x5, x6⟩ := wd32.forth (by omega) hM hO
    obtain ⟨k1, k2, k3, k4⟩ := kv_parts32 (S := sg 64 x) x1 x2
    have hV : nrV 32 x = kv 8 23 (sg 64 x) X M := n2.trans (x3 _)
    rw [hV]
    have hf := fits32.2 k4
    refine ⟨by omega, hf, ?_, ?_⟩
    · rw [wi_ok hf, show Int.toNat 32 = 32 from rfl, wd_32, k1, k2, k3, x4, x5]; exact hj
    · rw [cl_ok hf, hc, show Int.toNat 32 = 32 from rfl, k2, k3]; exact x6
  · have hV : nrV 64 x = x := rfl
    rw [hV]
    exact ⟨hx, fits64 x, by rw [wi_ok (fits64 x)]; exact wd_64 hx, .inl rfl⟩

/-! order -/
section
variable {E F B T X M X' M' : Nat}
set_option maxRecDepth 100000 in
theorem Wd.val_lt (h : Wd E F B T) (hX : X < T - 1) (hM : M < 2 ^ F) : wX B T F X M * 4503599627370496 + wM T F X M < (X + 1024 - B) * 4503599627370496 := by
  have hB := h.b
  have hbt := h.bt
  have hF := h.f
  by_cases c2 : 0 < X
  · have hw := (h.wide (X := X) (by omega) hM).2
    have e1 : wX B T F X M = X + 1023 - B := by unfold wX; rw [if_neg (by omega), if_pos c2]
    rw [e1, show X + 1024 - B = X + 1023 - B + 1 by omega, Nat.succ_mul]
    exact Nat.add_lt_add_left hw _
  · obtain rfl : X = 0 := by omega
    by_cases c3 : 0 < M
    · obtain ⟨s1, s2, _⟩ := h.small hM c3
      have hw := (h.wide (X := 0) (by omega) hM).2
      have n3 := nrm_pos s1 s2
      have n4 := h.nrm_le hM c3
      have e1 : wX B T F 0 M = 1024 - B - nrm (M * 2 ^ (52 - F)) := by unfold wX; rw [if_neg (by omega), if_neg c2, if_pos c3]
      rw [e1]
      omega
    · have e1 : wX B T F 0 M = 0 := by unfold wX; rw [if_neg (by omega), if_neg c2, if_neg c3]
      have e2 : wM T F 0 M = 0 := by unfold wM; rw [if_neg (by omega), if_neg c3]
      rw [e1, e2, Nat.zero_mul, Nat.zero_add]
      exact Nat.mul_pos (by omega) (by decide)
set_option maxRecDepth 100000 in
theorem Wd.mono (h : Wd E F B T) (hX' : X' < T) (hM : M < 2 ^ F) (hM' : M' < 2 ^ F) (hi : X' = T - 1 → M' = 0) (hl : X < X' ∨ X = X' ∧ M < M') :
    wX B T F X M * 4503599627370496 + wM T F X M < wX B T F X' M' * 4503599627370496 + wM T F X' M' := by
  have hB := h.b
  have hbt := h.bt
  have hF := h.f
  have hp := Nat.two_pow_pos (52 - F)
  rcases hl with hl | ⟨rfl, hl⟩
  · have h1 := h.val_lt (X := X) (by omega) hM
    have h2 : X' + 1023 - B ≤ wX B T F X' M' := by
      unfold wX
      split
      · omega
      · rw [if_pos (by omega)]; exact Nat.le_refl _
    have h3 : (X + 1024 - B) * 4503599627370496 ≤ wX B T F X' M' * 4503599627370496 := Nat.mul_le_mul_right _ (by omega)
    exact Nat.lt_of_lt_of_le h1 (Nat.le_trans h3 (Nat.le_add_right _ _))
  · have c1 : X ≠ T - 1 := fun h => by have := hi h; omega
    have hN : M * 2 ^ (52 - F) < M' * 2 ^ (52 - F) := Nat.mul_lt_mul_of_pos_right hl hp
    by_cases c2 : 0 < X
    · have e1 : ∀ m, wX B T F X m = X + 1023 - B := fun m => by unfold wX; rw [if_neg c1, if_pos c2]
      have e2 : ∀ m, wM T F X m = m * 2 ^ (52 - F) := fun m => if_pos (.inr c2)
      rw [e1, e1, e2, e2]
      omega
    · obtain rfl : X = 0 := by omega
      have c3' : 0 < M' := by omega
      obtain ⟨s1', s2', _⟩ := h.small hM' c3'
      obtain ⟨m1', m2'⟩ := nrm_hi s1' s2'
      have n4' := h.nrm_le hM' c3'
      have e1' : wX B T F 0 M' = 1024 - B - nrm (M' * 2 ^ (52 - F)) := by unfold wX; rw [if_neg c1, if_neg c2, if_pos c3']
      have e2' : wM T F 0 M' = M' * 2 ^ (52 - F) * 2 ^ nrm (M' * 2 ^ (52 - F)) - 4503599627370496 := by unfold wM; rw [if_neg (by omega), if_pos c3']
      rw [e1', e2']
      by_cases c3 : 0 < M
      · obtain ⟨s1, s2, _⟩ := h.small hM c3
        obtain ⟨m1, m2⟩ := nrm_hi s1 s2
        have n4 := h.nrm_le hM c3
        have e1 : wX B T F 0 M = 1024 - B - nrm (M * 2 ^ (52 - F)) := by unfold wX; rw [if_neg c1, if_neg c2, if_pos c3]
        have e2 : wM T F 0 M = M * 2 ^ (52 - F) * 2 ^ nrm (M * 2 ^ (52 - F)) - 4503599627370496 := by unfold wM; rw [if_neg (by omega), if_pos c3]
        rw [e1, e2]
        obtain ⟨N, hNN⟩ : ∃ N, M * 2 ^ (52 - F) = N := ⟨_, rfl⟩
        obtain ⟨N', hNN'⟩ : ∃ N', M' * 2 ^ (52 - F) = N' := ⟨_, rfl⟩
        rw [hNN] at m1 m2 n4 hN s1 s2 ⊢
        rw [hNN'] at m1' m2' n4' hN s1' s2' ⊢
        have ht : nrm N' ≤ nrm N := by
          rcases Nat.lt_or_ge (nrm N) (nrm N') with h1 | h1
          · have h2 := (nrm_lt s1' s2').1 h1
            have h3 : N * 2 ^ nrm N < N' * 2 ^ nrm N := Nat.mul_lt_mul_of_pos_right hN (Nat.two_pow_pos _)
            omega
          · exact h1
        rcases Nat.lt_or_ge (nrm N') (nrm N) with h1 | h1
        · have h2 : (1024 - B - nrm N + 1) * 4503599627370496 ≤ (1024 - B - nrm N') * 4503599627370496 := Nat.mul_le_mul_right _ (by omega)
          rw [Nat.succ_mul] at h2
          obtain ⟨a, ha⟩ : ∃ a, (1024 - B - nrm N) * 4503599627370496 = a := ⟨_, rfl⟩
          obtain ⟨a', ha'⟩ : ∃ a', (1024 - B - nrm N') * 4503599627370496 = a' := ⟨_, rfl⟩
          rw [ha, ha'] at h2 ⊢
          clear ha ha'
          omega
        · have h2 : nrm N = nrm N' := by omega
          have h3 : N * 2 ^ nrm N < N' * 2 ^ nrm N := Nat.mul_lt_mul_of_pos_right hN (Nat.two_pow_pos _)
          rw [h2] at h3 m1 m2 ⊢
          omega
      · have e1 : wX B T F 0 M = 0 := by unfold wX; rw [if_neg c1, if_neg c2, if_neg c3]
        have e2 : wM T F 0 M = 0 := by unfold wM; rw [if_neg (by omega), if_neg c3]
        rw [e1, e2, Nat.zero_mul, Nat.zero_add]
        exact Nat.lt_of_lt_of_le (Nat.mul_pos (by omega) (by decide)) (Nat.le_add_right _ _)
end
theorem lex16 {x y : Nat} (h : x < y) (hy : y ≤ 31744) : (ex 16 x < ex 16 y ∨ ex 16 x = ex 16 y ∧ fr 16 x < fr 16 y) ∧ (ex 16 y = 31 → fr 16 y = 0) ∧ sg 16 x = false ∧ sg 16 y = false := by
  unfold ex fr sg
  rw [show xb 16 + fb 16 = 15 from rfl, show fb 16 = 10 from rfl, show xb 16 = 5 from rfl, show (2 : Nat) ^ 15 = 32768 by decide, show (2 : Nat) ^ 10 = 1024 by decide, show (2 : Nat) ^ 5 = 32 by decide]
  refine ⟨by omega, by omega, decide_eq_false (by omega), decide_eq_false (by omega)⟩
theorem lex32 {x y : Nat} (h : x < y) (hy : y ≤ 2139095040) : (ex 32 x < ex 32 y ∨ ex 32 x = ex 32 y ∧ fr 32 x < fr 32 y) ∧ (ex 32 y = 255 → fr 32 y = 0) ∧ sg 32 x = false ∧ sg 32 y = false := by
  unfold ex fr sg
  rw [show xb 32 + fb 32 = 31 from rfl, show fb 32 = 23 from rfl, show xb 32 = 8 from rfl, show (2 : Nat) ^ 31 = 2147483648 by decide, show (2 : Nat) ^ 23 = 8388608 by decide, show (2 : Nat) ^ 8 = 256 by decide]
  refine ⟨by omega, by omega, decide_eq_false (by omega), decide_eq_false (by omega)⟩
theorem jv_false (X M : Nat) : jv false X M = X * 4503599627370496 + M := by unfold jv; simp
theorem wi_mono16 {x y : Nat} (h : x < y) (hy : y ≤ 31744) : wiV 16 x < wiV 16 y := by
  obtain ⟨h1, h2, h3, h4⟩ := lex16 h hy
  have e1 := ex_lt (w := 16) (x := y)
  have f1 := fr_lt (w := 16) (x := x)
  have f2 := fr_lt (w := 16) (x := y)
  rw [wi_ok (fits16.2 (by omega)), wi_ok (fits16.2 (by omega)), show Int.toNat 16 = 16 from rfl, wd_16, wd_16, h3, h4, jv_false, jv_false]
  exact wd16.mono e1 f1 f2 h2 h1
theorem wi_mono32 {x y : Nat} (h : x < y) (hy : y ≤ 2139095040) : wiV 32 x < wiV 32 y := by
  obtain ⟨h1, h2, h3, h4⟩ := lex32 h hy
  have e1 := ex_lt (w := 32) (x := y)
  have f1 := fr_lt (w := 32) (x := x)
  have f2 := fr_lt (w := 32) (x := y)
  rw [wi_ok (fits32.2 (by omega)), wi_ok (fits32.2 (by omega)), show Int.toNat 32 = 32 from rfl, wd_32, wd_32, h3, h4, jv_false, jv_false]
  exact wd32.mono e1 f1 f2 h2 h1

/-! whole numbers -/
theorem fi_xa {v : Nat} {neg : Bool} (hv : v ≠ 0) (hO : fiO v = true) (hb : v ≤ 2 ^ 64) :
    ∃ q, xaO (fiV neg v) = true ∧ xaS (fiV neg v) = neg ∧ xaM (fiV neg v) = q ∧ xaE (fiV neg v) = (v.log2 : Int) - 52 ∧ v.log2 ≤ 64 ∧ q * 2 ^ v.log2 = v * 2 ^ 52 ∧ 2 ^ 52 ≤ q ∧ q < 2 ^ 53 ∧ fiV neg v < 18446744073709551616 := by
  have hl : v.log2 ≤ 64 := by
    rcases Nat.lt_or_ge 64 v.log2 with h | h
    · have h1 := Nat.log2_self_le hv
      have h2 : 2 ^ 65 ≤ 2 ^ v.log2 := pow_up h
      omega
    · exact h
  obtain ⟨q, hq⟩ : ∃ q, v * 2 ^ 52 / 2 ^ v.log2 = q := ⟨_, rfl⟩
  have he : q * 2 ^ v.log2 = v * 2 ^ 52 := by rw [← hq]; exact Nat.div_mul_cancel (Nat.dvd_of_mod_eq_zero (of_decide_eq_true hO))
  have hp := Nat.two_pow_pos v.log2
  have q1 : 2 ^ 52 ≤ q := by
    have h1 : 2 ^ v.log2 * 2 ^ 52 ≤ v * 2 ^ 52 := Nat.mul_le_mul_right _ (Nat.log2_self_le hv)
    exact Nat.le_of_mul_le_mul_right (by rw [he, Nat.mul_comm]; exact h1) hp
  have q2 : q < 2 ^ 53 := by
    have h1 : v * 2 ^ 52 < 2 ^ (v.log2 + 1) * 2 ^ 52 := Nat.mul_lt_mul_of_pos_right Nat.lt_log2_self (Nat.two_pow_pos _)
    rw [← he, Nat.pow_succ, Nat.mul_assoc, show 2 * 2 ^ 52 = 2 ^ 53 by decide, Nat.mul_comm] at h1
    exact Nat.lt_of_mul_lt_mul_left h1
  have hV := fi_some (neg := neg) hv hO
  rw [hq, b52] at hV
  rw [b52] at q1
  rw [p53] at q2
  obtain ⟨j1, j2, j3, j4⟩ := jv_parts (S := neg) (X := 1023 + v.log2) (M := q - 4503599627370496) (by omega) (by omega)
  refine ⟨q, ?_, ?_, ?_, ?_, hl, he, by rw [b52]; exact q1, by rw [p53]; exact q2, by rw [hV]; exact j4⟩
  · unfold xaO; rw [hV, j2]; exact decide_eq_true (by omega)
  · unfold xaS; rw [hV, j2, if_neg (by omega)]; exact j1
  · unfold xaM hid52; rw [hV, j2, j3, if_neg (by omega), if_neg (by omega)]; omega
  · unfold xaE; rw [hV, j2, if_neg (by omega), if_neg (by omega)]; omega
theorem xa_zero : xaO 0 = true ∧ xaS 0 = false ∧ xaM 0 = 0 ∧ xaE 0 = -1074 := by decide
/-- a whole number that has bits is that of its bits -/
theorem fi_int {n : Nat} {neg : Bool} (hn : n < 18446744073709551616) (hO : fiO (fiN neg n) = true) : inR (fiV neg (fiN neg n)) = (neg, n, true) := by
  obtain ⟨v, hv⟩ : ∃ v, fiN neg n = v := ⟨_, rfl⟩
  have hv2 : v = n + neg.toNat := hv.symm
  rw [hv] at hO ⊢
  have p64 : (2 : Nat) ^ 64 = 18446744073709551616 := by decide
  by_cases h0 : v = 0
  · subst h0
    have h1 : n = 0 := by omega
    have h2 : neg = false := by
      cases neg
      · rfl
      · rw [Bool.toNat_true] at hv2; omega
    subst h1 h2
    decide
  · have hb : v ≤ 2 ^ 64 := by rw [p64, hv2]; cases neg <;> simp <;> omega
    obtain ⟨q, a1, a2, a3, a4, a5, a6, a7, a8, _⟩ := fi_xa (neg := neg) h0 hO hb
    unfold inR iR hid52
    rw [a1, a2, a3, a4]
    rw [b52] at a7
    rw [if_neg (by simp; omega), if_neg (by omega)]
    obtain ⟨k, hk⟩ : ∃ k, v.log2 = k := ⟨_, rfl⟩
    rw [hk] at a4 a5 a6 ⊢
    have hle : 2 ^ k ≤ v := by rw [← hk]; exact Nat.log2_self_le h0
    by_cases c1 : neg = true ∧ (k : Int) - 52 = 12 ∧ q = 4503599627370496
    · rw [if_pos c1]
      obtain ⟨rfl, c2, rfl⟩ := c1
      obtain rfl : k = 64 := by omega
      rw [b52, p64] at a6
      rw [Bool.toNat_true] at hv2
      rw [show n = 18446744073709551615 by omega]
    · rw [if_neg c1]
      by_cases c2 : 11 < (k : Int) - 52
      · exfalso
        obtain rfl : k = 64 := by omega
        rw [b52, p64] at a6
        rw [p64] at hle hb
        cases neg
        · rw [Bool.toNat_false] at hv2; omega
        · exact c1 ⟨rfl, by omega, by omega⟩
      · rw [if_neg c2]
        by_cases c3 : (0 : Int) ≤ (k : Int) - 52
        · rw [if_pos c3]
          obtain ⟨d, rfl⟩ : ∃ d, k = 52 + d := ⟨k - 52, by omega⟩
          have e1 : (((52 + d : Nat) : Int) - 52).toNat = d := by omega
          have e2 : q * 2 ^ d = v := by
            rw [Nat.pow_add, ← Nat.mul_assoc, Nat.mul_right_comm] at a6
            exact Nat.eq_of_mul_eq_mul_right (Nat.two_pow_pos 52) a6
          rw [e1, e2, hv2, Nat.add_sub_cancel]
        · rw [if_neg c3]
          obtain ⟨d, hd⟩ : ∃ d, 52 = k + d := ⟨52 - k, by omega⟩
          have e1 : min (-((k : Int) - 52)).toNat 64 = d := by omega
          have e2 : q = v * 2 ^ d := by
            have e3 : v * 2 ^ 52 = v * 2 ^ d * 2 ^ k := by rw [Nat.mul_assoc, ← Nat.pow_add, show d + k = 52 by omega]
            rw [e3] at a6
            exact Nat.eq_of_mul_eq_mul_right (Nat.two_pow_pos k) a6
          rw [e1, e2, Nat.mul_mod_left, if_pos rfl, Nat.mul_div_cancel _ (Nat.two_pow_pos d), hv2, Nat.add_sub_cancel]
end Go.Proofs.Ytkgejncolchobaa.nn
