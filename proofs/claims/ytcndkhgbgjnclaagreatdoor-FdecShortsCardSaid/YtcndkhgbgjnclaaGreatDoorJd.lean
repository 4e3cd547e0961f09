/- Joined texts: FbNum2, ShapeNum, ShapeNum2, FbitsReal, FbitsReal2, FdD, FdNear, FdRound, FdParse. -/
import Derived.Test.YtcndkhgbgjnclaaGreatDoorJc
/- Plain facts of floats as bits: there and back, order, whole numbers. -/
namespace Go.Proofs.YtcndkhgbgjnclaaGreatDoor.nn

theorem wd_16 (x : Nat) : wdV 16 x = jv (sg 16 x) (wX 15 32 10 (ex 16 x) (fr 16 x)) (wM 32 10 (ex 16 x) (fr 16 x)) := by
  have h1 := ex_lt (w := 16) (x := x)
  rw [show (2 : Nat) ^ xb 16 = 32 from rfl] at h1
  unfold wdV clk cl5 wX wM wdm
  rw [show (2 : Nat) ^ xb 16 - 1 = 31 from rfl, show bia 16 = 15 from rfl, show fb 16 = 10 from rfl, show 32 - 1 = 31 from rfl]
  by_cases c1 : ex 16 x = 31
  · simp only [c1, if_true, true_or]
    by_cases c2 : fr 16 x = 0 <;> simp [c2]
  · simp only [c1, if_false, false_or]
    by_cases c2 : 0 < ex 16 x
    · simp [c2]
    · simp only [c2, if_false]
      by_cases c3 : 0 < fr 16 x
      · simp [c3]
      · simp [c3]
theorem wd_32 (x : Nat) : wdV 32 x = jv (sg 32 x) (wX 127 256 23 (ex 32 x) (fr 32 x)) (wM 256 23 (ex 32 x) (fr 32 x)) := by
  have h1 := ex_lt (w := 32) (x := x)
  rw [show (2 : Nat) ^ xb 32 = 256 from rfl] at h1
  unfold wdV clk cl5 wX wM wdm
  rw [show (2 : Nat) ^ xb 32 - 1 = 255 from rfl, show bia 32 = 127 from rfl, show fb 32 = 23 from rfl, show 256 - 1 = 255 from rfl]
  by_cases c1 : ex 32 x = 255
  · simp only [c1, if_true, true_or]
    by_cases c2 : fr 32 x = 0 <;> simp [c2]
  · simp only [c1, if_false, false_or]
    by_cases c2 : 0 < ex 32 x
    · simp [c2]
    · simp only [c2, if_false]
      by_cases c3 : 0 < fr 32 x
      · simp [c3]
      · simp [c3]
theorem wd_64 {x : Nat} (hx : x < 18446744073709551616) : wdV 64 x = x := by
  have hj := parts_jv hx
  unfold wdV clk cl5 wdm
  rw [show (2 : Nat) ^ xb 64 - 1 = 2047 from rfl, show bia 64 = 1023 from rfl, show 52 - fb 64 = 0 from rfl, Nat.pow_zero, Nat.mul_one]
  by_cases c1 : ex 64 x = 2047
  · simp only [c1, if_true]
    rw [c1] at hj
    by_cases c2 : fr 64 x = 0
    · simp [c2]; rw [c2] at hj; exact hj
    · simp [c2]; exact hj
  · simp only [c1, if_false]
    by_cases c2 : 0 < ex 64 x
    · simp [c2]; exact hj
    · simp only [c2, if_false]
      have c0 : ex 64 x = 0 := by omega
      by_cases c3 : 0 < fr 64 x
      · simp [c3]
      · have c4 : fr 64 x = 0 := by omega
        simp [c4]
        rw [c0, c4] at hj
        exact hj

theorem fits16 {x : Nat} : fits 16 x ↔ x < 65536 := ⟨fun h => h.2 (by decide), fun h => ⟨by unfold wOk; omega, fun _ => h⟩⟩
theorem fits32 {x : Nat} : fits 32 x ↔ x < 4294967296 := ⟨fun h => h.2 (by decide), fun h => ⟨by unfold wOk; omega, fun _ => h⟩⟩
theorem wi_ok {k : Int} {x : Nat} (h : fits k x) : wiV k x = wdV k.toNat x := if_pos h
theorem nr_ok {k : Int} {x : Nat} (hk : wOk k) (h : k ≠ 64) : nrO k x = nwO (xb k.toNat) (fb k.toNat) (ex 64 x) (fr 64 x) ∧ nrV k x = nwA (xb k.toNat) (fb k.toNat) (sg 64 x) (ex 64 x) (fr 64 x) := by
  unfold nrO nrV
  rw [if_pos hk, if_pos hk, if_neg h, if_neg h]
  exact ⟨rfl, rfl⟩
theorem cl_ok {k : Int} {x : Nat} (h : fits k x) : clC k x = cl5 (xb k.toNat) (ex k.toNat x) (fr k.toNat x) := if_pos h

/-- bits that are widened are narrowed to themselves -/
theorem wi_back {k : Int} {b : Nat} (h : fits k b) (hb : b < 18446744073709551616) : wiV k b < 18446744073709551616 ∧ nrO k (wiV k b) = true ∧ nrV k (wiV k b) = b := by
  have hk := h.1
  unfold wOk at hk
  rw [wi_ok h]
  rcases hk with rfl | rfl | rfl
  · have hX := ex_lt (w := 16) (x := b)
    have hM := fr_lt (w := 16) (x := b)
    rw [show (2 : Nat) ^ xb 16 = 32 from rfl] at hX
    rw [show fb 16 = 10 from rfl] at hM
    obtain ⟨a1, a2⟩ := wd16.wide hX hM
    obtain ⟨b1, b2⟩ := wd16.back hX hM (sg 16 b)
    obtain ⟨j1, j2, j3, j4⟩ := jv_parts (S := sg 16 b) (by omega) a2 (X := wX 15 32 10 (ex 16 b) (fr 16 b))
    obtain ⟨n1, n2⟩ := nr_ok (k := 16) (x := wdV 16 b) (by unfold wOk; omega) (by decide)
    rw [show Int.toNat 16 = 16 from rfl, show xb 16 = 5 from rfl, show fb 16 = 10 from rfl] at n1 n2
    rw [show Int.toNat 16 = 16 from rfl, n1, n2, wd_16, j1, j2, j3]
    exact ⟨j4, b1, b2.trans (parts_kv16 (fits16.1 h))⟩
  · have hX := ex_lt (w := 32) (x := b)
    have hM := fr_lt (w := 32) (x := b)
    rw [show (2 : Nat) ^ xb 32 = 256 from rfl] at hX
    rw [show fb 32 = 23 from rfl] at hM
    obtain ⟨a1, a2⟩ := wd32.wide hX hM
    obtain ⟨b1, b2⟩ := wd32.back hX hM (sg 32 b)
    obtain ⟨j1, j2, j3, j4⟩ := jv_parts (S := sg 32 b) (by omega) a2 (X := wX 127 256 23 (ex 32 b) (fr 32 b))
    obtain ⟨n1, n2⟩ := nr_ok (k := 32) (x := wdV 32 b) (by unfold wOk; omega) (by decide)
    rw [show Int.toNat 32 = 32 from rfl, show xb 32 = 8 from rfl, show fb 32 = 23 from rfl] at n1 n2
    rw [show Int.toNat 32 = 32 from rfl, n1, n2, wd_32, j1, j2, j3]
    exact ⟨j4, b1, b2.trans (parts_kv32 (fits32.1 h))⟩
  · rw [show Int.toNat 64 = 64 from rfl, wd_64 hb]
    exact ⟨hb, rfl, rfl⟩
/-- bits that are narrowed are widened to themselves -/
theorem nr_forth {k : Int} {x : Nat} (hk : wOk k) (hx : x < 18446744073709551616) (hO : nrO k x = true) : nrV k x < 18446744073709551616 ∧ fits k (nrV k x) ∧ wiV k (nrV k x) = x ∧ (clC k (nrV k x) = clC 64 x ∨ clC k (nrV k x) = 1 ∧ clC 64 x = 2) := by
  have hX := ex_lt (w := 64) (x := x)
  have hM := fr_lt (w := 64) (x := x)
  rw [show (2 : Nat) ^ xb 64 = 2048 from rfl] at hX
  rw [show (2 : Nat) ^ fb 64 = 4503599627370496 from rfl] at hM
  have hc := cl_ok (fits64 x)
  rw [show Int.toNat 64 = 64 from rfl, show xb 64 = 11 from rfl] at hc
  have hj := parts_jv hx
  unfold wOk at hk
  rcases hk with rfl | rfl | rfl
  · obtain ⟨n1, n2⟩ := nr_ok (k := 16) (x := x) (by unfold wOk; omega) (by decide)
    rw [show Int.toNat 16 = 16 from rfl, show xb 16 = 5 from rfl, show fb 16 = 10 from rfl] at n1 n2
    rw [n1] at hO
    obtain ⟨X, M, x1, x2, x3, x4, x5, x6⟩ := wd16.forth (by omega) hM hO
    obtain ⟨k1, k2, k3, k4⟩ := kv_parts16 (S := sg 64 x) x1 x2
    have hV : nrV 16 x = kv 5 10 (sg 64 x) X M := n2.trans (x3 _)
    rw [hV]
    have hf := fits16.2 k4
    refine ⟨by omega, hf, ?_, ?_⟩
    · rw [wi_ok hf, show Int.toNat 16 = 16 from rfl, wd_16, k1, k2, k3, x4, x5]; exact hj
    · rw [cl_ok hf, hc, show Int.toNat 16 = 16 from rfl, k2, k3]; exact x6
  · obtain ⟨n1, n2⟩ := nr_ok (k := 32) (x := x) (by unfold wOk; omega) (by decide)
    rw [show Int.toNat 32 = 32 from rfl, show xb 32 = 8 from rfl, show fb 32 = 23 from rfl] at n1 n2
    rw [n1] at hO
    obtain ⟨X, M, x1, x2, x3, x4, x5, x6⟩ := wd32.forth (by omega) hM hO
    obtain ⟨k1, k2, k3, k4⟩ := kv_parts32 (S := sg 64 x) x1 x2
    have hV : nrV 32 x = kv 8 23 (sg 64 x) X M := n2.trans (x3 _)
    rw [hV]
    have hf := fits32.2 k4
    refine ⟨by omega, hf, ?_, ?_⟩
    · rw [wi_ok hf, show Int.toNat 32 = 32 from rfl, wd_32, k1, k2, k3, x4, x5]; exact hj
    · rw [cl_ok hf, hc, show Int.toNat 32 = 32 from rfl, k2, k3]; exact x6
  · have hV : nrV 64 x = x := rfl
    rw [hV]
    exact ⟨hx, fits64 x, by rw [wi_ok (fits64 x)]; exact wd_64 hx, .inl rfl⟩

/-! order -/
section
variable {E F B T X M X' M' : Nat}
set_option maxRecDepth 100000 in
theorem Wd.val_lt (h : Wd E F B T) (hX : X < T - 1) (hM : M < 2 ^ F) : wX B T F X M * 4503599627370496 + wM T F X M < (X + 1024 - B) * 4503599627370496 := by
  have hB := h.b
  have hbt := h.bt
  have hF := h.f
  by_cases c2 : 0 < X
  · have hw := (h.wide (X := X) (by omega) hM).2
    have e1 : wX B T F X M = X + 1023 - B := by unfold wX; rw [if_neg (by omega), if_pos c2]
    rw [e1, show X + 1024 - B = X + 1023 - B + 1 by omega, Nat.succ_mul]
    exact Nat.add_lt_add_left hw _
  · obtain rfl : X = 0 := by omega
    by_cases c3 : 0 < M
    · obtain ⟨s1, s2, _⟩ := h.small hM c3
      have hw := (h.wide (X := 0) (by omega) hM).2
      have n3 := nrm_pos s1 s2
      have n4 := h.nrm_le hM c3
      have e1 : wX B T F 0 M = 1024 - B - nrm (M * 2 ^ (52 - F)) := by unfold wX; rw [if_neg (by omega), if_neg c2, if_pos c3]
      rw [e1]
      omega
    · have e1 : wX B T F 0 M = 0 := by unfold wX; rw [if_neg (by omega), if_neg c2, if_neg c3]
      have e2 : wM T F 0 M = 0 := by unfold wM; rw [if_neg (by omega), if_neg c3]
      rw [e1, e2, Nat.zero_mul, Nat.zero_add]
      exact Nat.mul_pos (by omega) (by decide)
set_option maxRecDepth 100000 in
theorem Wd.mono (h : Wd E F B T) (hX' : X' < T) (hM : M < 2 ^ F) (hM' : M' < 2 ^ F) (hi : X' = T - 1 → M' = 0) (hl : X < X' ∨ X = X' ∧ M < M') :
    wX B T F X M * 4503599627370496 + wM T F X M < wX B T F X' M' * 4503599627370496 + wM T F X' M' := by
  have hB := h.b
  have hbt := h.bt
  have hF := h.f
  have hp := Nat.two_pow_pos (52 - F)
  rcases hl with hl | ⟨rfl, hl⟩
  · have h1 := h.val_lt (X := X) (by omega) hM
    have h2 : X' + 1023 - B ≤ wX B T F X' M' := by
      unfold wX
      split
      · omega
      · rw [if_pos (by omega)]; exact Nat.le_refl _
    have h3 : (X + 1024 - B) * 4503599627370496 ≤ wX B T F X' M' * 4503599627370496 := Nat.mul_le_mul_right _ (by omega)
    exact Nat.lt_of_lt_of_le h1 (Nat.le_trans h3 (Nat.le_add_right _ _))
  · have c1 : X ≠ T - 1 := fun h => by have := hi h; omega
    have hN : M * 2 ^ (52 - F) < M' * 2 ^ (52 - F) := Nat.mul_lt_mul_of_pos_right hl hp
    by_cases c2 : 0 < X
    · have e1 : ∀ m, wX B T F X m = X + 1023 - B := fun m => by unfold wX; rw [if_neg c1, if_pos c2]
      have e2 : ∀ m, wM T F X m = m * 2 ^ (52 - F) := fun m => if_pos (.inr c2)
      rw [e1, e1, e2, e2]
      omega
    · obtain rfl : X = 0 := by omega
      have c3' : 0 < M' := by omega
      obtain ⟨s1', s2', _⟩ := h.small hM' c3'
      obtain ⟨m1', m2'⟩ := nrm_hi s1' s2'
      have n4' := h.nrm_le hM' c3'
      have e1' : wX B T F 0 M' = 1024 - B - nrm (M' * 2 ^ (52 - F)) := by unfold wX; rw [if_neg c1, if_neg c2, if_pos c3']
      have e2' : wM T F 0 M' = M' * 2 ^ (52 - F) * 2 ^ nrm (M' * 2 ^ (52 - F)) - 4503599627370496 := by unfold wM; rw [if_neg (by omega), if_pos c3']
      rw [e1', e2']
      by_cases c3 : 0 < M
      · obtain ⟨s1, s2, _⟩ := h.small hM c3
        obtain ⟨m1, m2⟩ := nrm_hi s1 s2
        have n4 := h.nrm_le hM c3
        have e1 : wX B T F 0 M = 1024 - B - nrm (M * 2 ^ (52 - F)) := by unfold wX; rw [if_neg c1, if_neg c2, if_pos c3]
        have e2 : wM T F 0 M = M * 2 ^ (52 - F) * 2 ^ nrm (M * 2 ^ (52 - F)) - 4503599627370496 := by unfold wM; rw [if_neg (by omega), if_pos c3]
        rw [e1, e2]
        obtain ⟨N, hNN⟩ : ∃ N, M * 2 ^ (52 - F) = N := ⟨_, rfl⟩
        obtain ⟨N', hNN'⟩ : ∃ N', M' * 2 ^ (52 - F) = N' := ⟨_, rfl⟩
        rw [hNN] at m1 m2 n4 hN s1 s2 ⊢
        rw [hNN'] at m1' m2' n4' hN s1' s2' ⊢
        have ht : nrm N' ≤ nrm N := by
          rcases Nat.lt_or_ge (nrm N) (nrm N') with h1 | h1
          · have h2 := (nrm_lt s1' s2').1 h1
            have h3 : N * 2 ^ nrm N < N' * 2 ^ nrm N := Nat.mul_lt_mul_of_pos_right hN (Nat.two_pow_pos _)
            omega
          · exact h1
        rcases Nat.lt_or_ge (nrm N') (nrm N) with h1 | h1
        · have h2 : (1024 - B - nrm N + 1) * 4503599627370496 ≤ (1024 - B - nrm N') * 4503599627370496 := Nat.mul_le_mul_right _ (by omega)
          rw [Nat.succ_mul] at h2
          obtain ⟨a, ha⟩ : ∃ a, (1024 - B - nrm N) * 4503599627370496 = a := ⟨_, rfl⟩
          obtain ⟨a', ha'⟩ : ∃ a', (1024 - B - nrm N') * 4503599627370496 = a' := ⟨_, rfl⟩
          rw [ha, ha'] at h2 ⊢
          clear ha ha'
          omega
        · have h2 : nrm N = nrm N' := by omega
          have h3 : N * 2 ^ nrm N < N' * 2 ^ nrm N := Nat.mul_lt_mul_of_pos_right hN (Nat.two_pow_pos _)
          rw [h2] at h3 m1 m2 ⊢
          omega
      · have e1 : wX B T F 0 M = 0 := by unfold wX; rw [if_neg c1, if_neg c2, if_neg c3]
        have e2 : wM T F 0 M = 0 := by unfold wM; rw [if_neg (by omega), if_neg c3]
        rw [e1, e2, Nat.zero_mul, Nat.zero_add]
        exact Nat.lt_of_lt_of_le (Nat.mul_pos (by omega) (by decide)) (Nat.le_add_right _ _)
end
theorem lex16 {x y : Nat} (h : x < y) (hy : y ≤ 31744) : (ex 16 x < ex 16 y ∨ ex 16 x = ex 16 y ∧ fr 16 x < fr 16 y) ∧ (ex 16 y = 31 → fr 16 y = 0) ∧ sg 16 x = false ∧ sg 16 y = false := by
  unfold ex fr sg
  rw [show xb 16 + fb 16 = 15 from rfl, show fb 16 = 10 from rfl, show xb 16 = 5 from rfl, show (2 : Nat) ^ 15 = 32768 by decide, show (2 : Nat) ^ 10 = 1024 by decide, show (2 : Nat) ^ 5 = 32 by decide]
  refine ⟨by omega, by omega, decide_eq_false (by omega), decide_eq_false (by omega)⟩
theorem lex32 {x y : Nat} (h : x < y) (hy : y ≤ 2139095040) : (ex 32 x < ex 32 y ∨ ex 32 x = ex 32 y ∧ fr 32 x < fr 32 y) ∧ (ex 32 y = 255 → fr 32 y = 0) ∧ sg 32 x = false ∧ sg 32 y = false := by
  unfold ex fr sg
  rw [show xb 32 + fb 32 = 31 from rfl, show fb 32 = 23 from rfl, show xb 32 = 8 from rfl, show (2 : Nat) ^ 31 = 2147483648 by decide, show (2 : Nat) ^ 23 = 8388608 by decide, show (2 : Nat) ^ 8 = 256 by decide]
  refine ⟨by omega, by omega, decide_eq_false (by omega), decide_eq_false (by omega)⟩
theorem jv_false (X M : Nat) : jv false X M = X * 4503599627370496 + M := by unfold jv; simp
theorem wi_mono16 {x y : Nat} (h : x < y) (hy : y ≤ 31744) : wiV 16 x < wiV 16 y := by
  obtain ⟨h1, h2, h3, h4⟩ := lex16 h hy
  have e1 := ex_lt (w := 16) (x := y)
  have f1 := fr_lt (w := 16) (x := x)
  have f2 := fr_lt (w := 16) (x := y)
  rw [wi_ok (fits16.2 (by omega)), wi_ok (fits16.2 (by omega)), show Int.toNat 16 = 16 from rfl, wd_16, wd_16, h3, h4, jv_false, jv_false]
  exact wd16.mono e1 f1 f2 h2 h1
theorem wi_mono32 {x y : Nat} (h : x < y) (hy : y ≤ 2139095040) : wiV 32 x < wiV 32 y := by
  obtain ⟨h1, h2, h3, h4⟩ := lex32 h hy
  have e1 := ex_lt (w := 32) (x := y)
  have f1 := fr_lt (w := 32) (x := x)
  have f2 := fr_lt (w := 32) (x := y)
  rw [wi_ok (fits32.2 (by omega)), wi_ok (fits32.2 (by omega)), show Int.toNat 32 = 32 from rfl, wd_32, wd_32, h3, h4, jv_false, jv_false]
  exact wd32.mono e1 f1 f2 h2 h1

/-! whole numbers -/
theorem fi_xa {v : Nat} {neg : Bool} (hv : v ≠ 0) (hO : fiO v = true) (hb : v ≤ 2 ^ 64) :
    ∃ q, xaO (fiV neg v) = true ∧ xaS (fiV neg v) = neg ∧ xaM (fiV neg v) = q ∧ xaE (fiV neg v) = (v.log2 : Int) - 52 ∧ v.log2 ≤ 64 ∧ q * 2 ^ v.log2 = v * 2 ^ 52 ∧ 2 ^ 52 ≤ q ∧ q < 2 ^ 53 ∧ fiV neg v < 18446744073709551616 := by
  have hl : v.log2 ≤ 64 := by
    rcases Nat.lt_or_ge 64 v.log2 with h | h
    · have h1 := Nat.log2_self_le hv
      have h2 : 2 ^ 65 ≤ 2 ^ v.log2 := pow_up h
      omega
    · exact h
  obtain ⟨q, hq⟩ : ∃ q, v * 2 ^ 52 / 2 ^ v.log2 = q := ⟨_, rfl⟩
  have he : q * 2 ^ v.log2 = v * 2 ^ 52 := by rw [← hq]; exact Nat.div_mul_cancel (Nat.dvd_of_mod_eq_zero (of_decide_eq_true hO))
  have hp := Nat.two_pow_pos v.log2
  have q1 : 2 ^ 52 ≤ q := by
    have h1 : 2 ^ v.log2 * 2 ^ 52 ≤ v * 2 ^ 52 := Nat.mul_le_mul_right _ (Nat.log2_self_le hv)
    exact Nat.le_of_mul_le_mul_right (by rw [he, Nat.mul_comm]; exact h1) hp
  have q2 : q < 2 ^ 53 := by
    have h1 : v * 2 ^ 52 < 2 ^ (v.log2 + 1) * 2 ^ 52 := Nat.mul_lt_mul_of_pos_right Nat.lt_log2_self (Nat.two_pow_pos _)
    rw [← he, Nat.pow_succ, Nat.mul_assoc, show 2 * 2 ^ 52 = 2 ^ 53 by decide, Nat.mul_comm] at h1
    exact Nat.lt_of_mul_lt_mul_left h1
  have hV := fi_some (neg := neg) hv hO
  rw [hq, b52] at hV
  rw [b52] at q1
  rw [p53] at q2
  obtain ⟨j1, j2, j3, j4⟩ := jv_parts (S := neg) (X := 1023 + v.log2) (M := q - 4503599627370496) (by omega) (by omega)
  refine ⟨q, ?_, ?_, ?_, ?_, hl, he, by rw [b52]; exact q1, by rw [p53]; exact q2, by rw [hV]; exact j4⟩
  · unfold xaO; rw [hV, j2]; exact decide_eq_true (by omega)
  · unfold xaS; rw [hV, j2, if_neg (by omega)]; exact j1
  · unfold xaM hid52; rw [hV, j2, j3, if_neg (by omega), if_neg (by omega)]; omega
  · unfold xaE; rw [hV, j2, if_neg (by omega), if_neg (by omega)]; omega
theorem xa_zero : xaO 0 = true ∧ xaS 0 = false ∧ xaM 0 = 0 ∧ xaE 0 = -1074 := by decide
/-- a whole number that has bits is that of its bits -/
theorem fi_int {n : Nat} {neg : Bool} (hn : n < 18446744073709551616) (hO : fiO (fiN neg n) = true) : inR (fiV neg (fiN neg n)) = (neg, n, true) := by
  obtain ⟨v, hv⟩ : ∃ v, fiN neg n = v := ⟨_, rfl⟩
  have hv2 : v = n + neg.toNat := hv.symm
  rw [hv] at hO ⊢
  have p64 : (2 : Nat) ^ 64 = 18446744073709551616 := by decide
  by_cases h0 : v = 0
  · subst h0
    have h1 : n = 0 := by omega
    have h2 : neg = false := by
      cases neg
      · rfl
      · rw [Bool.toNat_true] at hv2; omega
    subst h1 h2
    decide
  · have hb : v ≤ 2 ^ 64 := by rw [p64, hv2]; cases neg <;> simp <;> omega
    obtain ⟨q, a1, a2, a3, a4, a5, a6, a7, a8, _⟩ := fi_xa (neg := neg) h0 hO hb
    unfold inR iR hid52
    rw [a1, a2, a3, a4]
    rw [b52] at a7
    rw [if_neg (by simp; omega), if_neg (by omega)]
    obtain ⟨k, hk⟩ : ∃ k, v.log2 = k := ⟨_, rfl⟩
    rw [hk] at a4 a5 a6 ⊢
    have hle : 2 ^ k ≤ v := by rw [← hk]; exact Nat.log2_self_le h0
    by_cases c1 : neg = true ∧ (k : Int) - 52 = 12 ∧ q = 4503599627370496
    · rw [if_pos c1]
      obtain ⟨rfl, c2, rfl⟩ := c1
      obtain rfl : k = 64 := by omega
      rw [b52, p64] at a6
      rw [Bool.toNat_true] at hv2
      rw [show n = 18446744073709551615 by omega]
    · rw [if_neg c1]
      by_cases c2 : 11 < (k : Int) - 52
      · exfalso
        obtain rfl : k = 64 := by omega
        rw [b52, p64] at a6
        rw [p64] at hle hb
        cases neg
        · rw [Bool.toNat_false] at hv2; omega
        · exact c1 ⟨rfl, by omega, by omega⟩
      · rw [if_neg c2]
        by_cases c3 : (0 : Int) ≤ (k : Int) - 52
        · rw [if_pos c3]
          obtain ⟨d, rfl⟩ : ∃ d, k = 52 + d := ⟨k - 52, by omega⟩
          have e1 : (((52 + d : Nat) : Int) - 52).toNat = d := by omega
          have e2 : q * 2 ^ d = v := by
            rw [Nat.pow_add, ← Nat.mul_assoc, Nat.mul_right_comm] at a6
            exact Nat.eq_of_mul_eq_mul_right (Nat.two_pow_pos 52) a6
          rw [e1, e2, hv2, Nat.add_sub_cancel]
        · rw [if_neg c3]
          obtain ⟨d, hd⟩ : ∃ d, 52 = k + d := ⟨52 - k, by omega⟩
          have e1 : min (-((k : Int) - 52)).toNat 64 = d := by omega
          have e2 : q = v * 2 ^ d := by
            have e3 : v * 2 ^ 52 = v * 2 ^ d * 2 ^ k := by rw [Nat.mul_assoc, ← Nat.pow_add, show d + k = 52 by omega]
            rw [e3] at a6
            exact Nat.eq_of_mul_eq_mul_right (Nat.two_pow_pos k) a6
          rw [e1, e2, Nat.mul_mod_left, if_pos rfl, Nat.mul_div_cancel _ (Nat.two_pow_pos d), hv2, Nat.add_sub_cancel]
end Go.Proofs.YtcndkhgbgjnclaaGreatDoor.nn
/- Plain facts: what compose and convert answer is what the document's Widen, Narrow and FromInt answer. -/
namespace Go.Proofs.YtcndkhgbgjnclaaGreatDoor.nn

/-- m times 2^e is m' times 2^e' -/
def Sm (m : Nat) (e : Int) (m' : Nat) (e' : Int) : Prop := ∃ a b : Nat, e - (a : Int) = e' - (b : Int) ∧ m * 2 ^ a = m' * 2 ^ b
section
variable {m m' m'' : Nat} {e e' e'' : Int}
theorem Sm.refl (m : Nat) (e : Int) : Sm m e m e := ⟨0, 0, rfl, rfl⟩
theorem Sm.symm (h : Sm m e m' e') : Sm m' e' m e := by
  obtain ⟨a, b, h1, h2⟩ := h
  exact ⟨b, a, h1.symm, h2.symm⟩
theorem Sm.trans (h : Sm m e m' e') (h' : Sm m' e' m'' e'') : Sm m e m'' e'' := by
  obtain ⟨a, b, h1, h2⟩ := h
  obtain ⟨c, d, h3, h4⟩ := h'
  refine ⟨a + c, d + b, by omega, ?_⟩
  rw [Nat.pow_add, Nat.pow_add, ← Nat.mul_assoc, h2, ← Nat.mul_assoc, ← h4, Nat.mul_right_comm]
theorem log2_mul {m a : Nat} (h : 0 < m) : (m * 2 ^ a).log2 = m.log2 + a := by
  have hp := Nat.two_pow_pos a
  have h1 : 2 ^ a ≤ m * 2 ^ a := Nat.le_mul_of_pos_left _ h
  have h2 := log2_div h1
  rw [Nat.mul_div_cancel _ hp] at h2
  have h3 : a ≤ (m * 2 ^ a).log2 := (Nat.le_log2 (by omega)).2 h1
  omega
theorem Sm.pos (h : Sm m e m' e') (h0 : 0 < m) : 0 < m' := by
  obtain ⟨a, b, _, h2⟩ := h
  rcases Nat.eq_zero_or_pos m' with h1 | h1
  · rw [h1, Nat.zero_mul] at h2
    have := Nat.mul_pos h0 (Nat.two_pow_pos a)
    omega
  · exact h1
theorem Sm.log (h : Sm m e m' e') (h0 : 0 < m) : (m.log2 : Int) + e = (m'.log2 : Int) + e' := by
  have hp := h.pos h0
  obtain ⟨a, b, h1, h2⟩ := h
  have l1 := log2_mul (a := a) h0
  have l2 := log2_mul (a := b) hp
  rw [h2, l2] at l1
  omega
/-- m shifted to another unit -/
theorem Sm.shift (h : Sm m e m' e') (hm : m' < 18446744073709551616) : sOk m (e - e') = true ∧ sV m (e - e') = m' := by
  obtain ⟨a, b, h1, h2⟩ := h
  unfold sOk sV
  by_cases hn : e - e' < 0
  · rw [if_pos hn, if_pos hn]
    obtain ⟨d, hd⟩ : ∃ d : Nat, (-(e - e')).toNat = d := ⟨_, rfl⟩
    rw [hd]
    obtain rfl : b = d + a := by omega
    rw [Nat.pow_add, ← Nat.mul_assoc] at h2
    have h3 := Nat.eq_of_mul_eq_mul_right (Nat.two_pow_pos a) h2
    rw [h3]
    exact ⟨decide_eq_true (Nat.mul_mod_left _ _), Nat.mul_div_cancel _ (Nat.two_pow_pos d)⟩
  · rw [if_neg hn, if_neg hn]
    obtain ⟨d, hd⟩ : ∃ d : Nat, (e - e').toNat = d := ⟨_, rfl⟩
    rw [hd]
    obtain rfl : a = d + b := by omega
    rw [Nat.pow_add, ← Nat.mul_assoc] at h2
    have h3 := Nat.eq_of_mul_eq_mul_right (Nat.two_pow_pos b) h2
    rw [h3]
    exact ⟨decide_eq_true hm, Nat.mod_eq_of_lt hm⟩
theorem Sm.of_shift {n : Int} (hO : sOk m n = true) : Sm m e (sV m n) (e - n) := by
  unfold sOk at hO
  unfold sV
  by_cases hn : n < 0
  · rw [if_pos hn] at hO ⊢
    refine ⟨0, (-n).toNat, by omega, ?_⟩
    rw [Nat.pow_zero, Nat.mul_one, Nat.div_mul_cancel (Nat.dvd_of_mod_eq_zero (of_decide_eq_true hO))]
  · rw [if_neg hn] at hO ⊢
    refine ⟨n.toNat, 0, by omega, ?_⟩
    rw [Nat.mod_eq_of_lt (of_decide_eq_true hO), Nat.pow_zero, Nat.mul_one]
end
section
variable {k m X M : Nat} {e : Int}
theorem log2_eq {m F : Nat} (h1 : 2 ^ F ≤ m) (h2 : m < 2 ^ (F + 1)) : m.log2 = F := by
  have hp := Nat.two_pow_pos F
  have h3 : F ≤ m.log2 := (Nat.le_log2 (by omega)).2 h1
  have h4 : m.log2 < F + 1 := (Nat.log2_lt (by omega)).2 h2
  omega
/-- what a shape has is found -/
theorem compose_yes (hk : kOk k) (h0 : 0 < m) (hX : X < onz k) (hM : M < hdn k) (h : Sm m e (aM k X M) (aE k X)) : cmO k m e = true ∧ ∀ neg, cmV k neg m e = kv (xb k) (fb k) neg X M := by
  have hf := hk.facts
  have hbt := hk.bt
  have hH : hdn k = 2 ^ fb k := rfl
  have hH2 : 2 ^ (fb k + 1) = 2 * hdn k := by rw [hH, Nat.pow_succ, Nat.mul_comm]
  have hlog := h.log h0
  have hpos := h.pos h0
  have hlt := aM_lt (X := X) hk hM
  have hsh := h.shift (by omega)
  have hu : unt k m e = aE k X ∧ (m.log2 : Int) + e ≤ (bia k : Int) ∧ (0 < X → ((m.log2 : Int) + e + (bia k : Int)).toNat = X) := by
    unfold unt
    rw [hlog]
    by_cases h1 : X = 0
    · subst h1
      have e1 : aM k 0 M = M := if_pos rfl
      have e2 : aE k 0 = 1 - (bia k : Int) - (fb k : Int) := if_pos rfl
      rw [e1] at hpos
      rw [e1, e2]
      have h2 : M.log2 < fb k := (Nat.log2_lt (by omega)).2 hM
      omega
    · have e1 : aM k X M = M + hdn k := if_neg h1
      have e2 : aE k X = (X : Int) - (bia k : Int) - (fb k : Int) := if_neg h1
      rw [e1, e2, log2_eq (F := fb k) (by omega) (by omega)]
      omega
  obtain ⟨u1, u2, u3⟩ := hu
  have hO : cmO k m e = true := by
    unfold cmO
    rw [if_neg (by omega), u1, hsh.1, decide_eq_true u2]
    rfl
  have hU : cmU k m e = aM k X M := by unfold cmU; rw [u1, hsh.2]
  refine ⟨hO, fun neg => ?_⟩
  unfold cmV
  rw [hO, if_pos rfl, if_neg (by omega), hU]
  by_cases h1 : X = 0
  · subst h1
    rw [show aM k 0 M = M from if_pos rfl, if_pos hM]
  · rw [show aM k X M = M + hdn k from if_neg h1, if_neg (by omega), u3 (by omega), Nat.add_sub_cancel]
/-- what is found, a shape has -/
theorem compose_has (hk : kOk k) (h0 : 0 < m) (hO : cmO k m e = true) : ∃ X M, X < onz k ∧ M < hdn k ∧ Sm m e (aM k X M) (aE k X) := by
  have hbt := hk.bt
  have hH : hdn k = 2 ^ fb k := rfl
  have hH2 : 2 ^ (fb k + 1) = 2 * hdn k := by rw [hH, Nat.pow_succ, Nat.mul_comm]
  unfold cmO at hO
  rw [if_neg (by omega), Bool.and_eq_true] at hO
  obtain ⟨h1, h2⟩ := hO
  have h1 := of_decide_eq_true h1
  have h3 := Sm.of_shift (m := m) (e := e) h2
  rw [show sV m (e - unt k m e) = cmU k m e from rfl, show e - (e - unt k m e) = unt k m e by omega] at h3
  have hl := cmU_lt (k := k) (e := e) h0
  by_cases c : 1 - (bia k : Int) ≤ (m.log2 : Int) + e
  · have h4 := cmU_high h0 c h2
    refine ⟨((m.log2 : Int) + e + (bia k : Int)).toNat, cmU k m e - hdn k, by omega, by omega, ?_⟩
    have e1 : ((m.log2 : Int) + e + (bia k : Int)).toNat ≠ 0 := by omega
    rw [show aM k ((m.log2 : Int) + e + (bia k : Int)).toNat (cmU k m e - hdn k) = cmU k m e - hdn k + hdn k from if_neg e1, show aE k ((m.log2 : Int) + e + (bia k : Int)).toNat = _ from if_neg e1, Nat.sub_add_cancel (by omega)]
    rw [show ((((m.log2 : Int) + e + (bia k : Int)).toNat : Nat) : Int) - (bia k : Int) - (fb k : Int) = unt k m e by unfold unt; omega]
    exact h3
  · have h4 := cmU_low h0 (show (m.log2 : Int) + e < 1 - (bia k : Int) by omega)
    refine ⟨0, cmU k m e, by omega, h4, ?_⟩
    rw [show aM k 0 (cmU k m e) = cmU k m e from if_pos rfl, show aE k 0 = _ from if_pos rfl, show 1 - (bia k : Int) - (fb k : Int) = unt k m e by unfold unt; omega]
    exact h3
end
theorem kv_jv (S : Bool) (X M : Nat) : kv (xb 64) (fb 64) S X M = jv S X M := by
  unfold kv jv
  rw [show xb 64 = 11 from rfl, show fb 64 = 52 from rfl, show 11 + 52 = 63 from rfl, show (2 : Nat) ^ 63 = 9223372036854775808 by decide, b52]
theorem k64 : kOk 64 := .inr (.inr rfl)
/-- the width's parts of a shape -/
theorem kOk.wd {k : Nat} (h : kOk k) (hn : k ≠ 64) : Wd (xb k) (fb k) (bia k) (onz k + 1) := by
  rcases h with rfl | rfl | rfl
  · exact wd16
  · exact wd32
  · exact absurd rfl hn
/-- the wider parts are the same number -/
theorem wide_same {k X M : Nat} (hk : kOk k) (hn : k ≠ 64) (hX : X < onz k) (hM : M < hdn k) :
    Sm (aM k X M) (aE k X) (aM 64 (wX (bia k) (onz k + 1) (fb k) X M) (wM (onz k + 1) (fb k) X M)) (aE 64 (wX (bia k) (onz k + 1) (fb k) X M)) ∧ wX (bia k) (onz k + 1) (fb k) X M < 2047 ∧ wM (onz k + 1) (fb k) X M < 4503599627370496 := by
  have hw := hk.wd hn
  have hF := hw.f
  have hB := hw.b
  have hbt := hk.bt
  have hH : hdn k = 2 ^ fb k := rfl
  have e64 : hdn 64 = 4503599627370496 := by decide
  have c1 : X ≠ onz k + 1 - 1 := by omega
  by_cases c2 : 0 < X
  · have e1 : wX (bia k) (onz k + 1) (fb k) X M = X + 1023 - bia k := by unfold wX; rw [if_neg c1, if_pos c2]
    have e2 : wM (onz k + 1) (fb k) X M = M * 2 ^ (52 - fb k) := if_pos (.inr c2)
    have hwd := hw.wide (X := X) (M := M) (by omega) hM
    refine ⟨?_, by omega, hwd.2⟩
    rw [e1, e2, show aM k X M = M + hdn k from if_neg (by omega), show aE k X = _ from if_neg (by omega), show aM 64 (X + 1023 - bia k) (M * 2 ^ (52 - fb k)) = _ from if_neg (by omega), show aE 64 (X + 1023 - bia k) = _ from if_neg (by omega)]
    refine ⟨52 - fb k, 0, by rw [show bia 64 = 1023 from rfl, show fb 64 = 52 from rfl]; omega, ?_⟩
    rw [Nat.pow_zero, Nat.mul_one, Nat.add_mul, hH, ← Nat.pow_add, show fb k + (52 - fb k) = 52 by omega]
    rfl
  · obtain rfl : X = 0 := by omega
    by_cases c3 : 0 < M
    · obtain ⟨s1, s2, _⟩ := hw.small hM c3
      obtain ⟨n1, n2⟩ := nrm_hi s1 s2
      have n3 := nrm_pos s1 s2
      have n4 := hw.nrm_le hM c3
      have e1 : wX (bia k) (onz k + 1) (fb k) 0 M = 1024 - bia k - nrm (M * 2 ^ (52 - fb k)) := by unfold wX; rw [if_neg c1, if_neg c2, if_pos c3]
      have e2 : wM (onz k + 1) (fb k) 0 M = M * 2 ^ (52 - fb k) * 2 ^ nrm (M * 2 ^ (52 - fb k)) - 4503599627370496 := by unfold wM; rw [if_neg (by omega), if_pos c3]
      rw [e1, e2]
      obtain ⟨t, ht⟩ : ∃ t, nrm (M * 2 ^ (52 - fb k)) = t := ⟨_, rfl⟩
      rw [ht] at n1 n2 n3 n4 ⊢
      refine ⟨?_, by omega, by omega⟩
      rw [show aM k 0 M = M from if_pos rfl, show aE k 0 = _ from if_pos rfl, show aM 64 (1024 - bia k - t) (M * 2 ^ (52 - fb k) * 2 ^ t - 4503599627370496) = _ from if_neg (by omega), show aE 64 (1024 - bia k - t) = _ from if_neg (by omega), e64]
      refine ⟨52 - fb k + t, 0, by rw [show bia 64 = 1023 from rfl, show fb 64 = 52 from rfl]; omega, ?_⟩
      rw [Nat.pow_zero, Nat.mul_one, Nat.sub_add_cancel n2, Nat.pow_add, ← Nat.mul_assoc]
    · obtain rfl : M = 0 := by omega
      have e1 : wX (bia k) (onz k + 1) (fb k) 0 0 = 0 := by unfold wX; rw [if_neg c1, if_neg c2, if_neg c2]
      have e2 : wM (onz k + 1) (fb k) 0 0 = 0 := by unfold wM; rw [if_neg (by omega), if_neg c2]
      rw [e1, e2]
      refine ⟨?_, by omega, by omega⟩
      rw [show aM k 0 0 = 0 from if_pos rfl, show aE k 0 = _ from if_pos rfl, show aM 64 0 0 = 0 from if_pos rfl, show aE 64 0 = -1074 from rfl]
      exact ⟨1075 - bia k - fb k, 0, by omega, by rw [Nat.zero_mul, Nat.zero_mul]⟩
/-- compose of nothing -/
theorem compose_none {k : Nat} {neg : Bool} {e : Int} : cmO k 0 e = true ∧ cmV k neg 0 e = kv (xb k) (fb k) neg 0 0 := by
  have e1 : cmO k 0 e = true := if_pos rfl
  exact ⟨e1, by unfold cmV; rw [e1, if_pos rfl, if_pos rfl]⟩
theorem aM_zero {k X M : Nat} (hk : kOk k) (h : aM k X M = 0) : X = 0 ∧ M = 0 := by
  have := hk.facts
  unfold aM at h
  split at h
  · exact ⟨by assumption, h⟩
  · omega
theorem one_way {X M X' M' : Nat} (h1 : X < 2047) (h2 : M < 4503599627370496) (h3 : X' < 2047) (h4 : M' < 4503599627370496) (h : Sm (aM 64 X M) (aE 64 X) (aM 64 X' M') (aE 64 X')) (h0 : 0 < aM 64 X M) : X = X' ∧ M = M' := by
  have a := (compose_yes k64 h0 h1 h2 (Sm.refl _ _)).2 false
  have b := (compose_yes k64 h0 h3 h4 h).2 false
  rw [a, kv_jv, kv_jv] at b
  have p1 := jv_parts (S := false) (X := X) (M := M) (by omega) h2
  have p2 := jv_parts (S := false) (X := X') (M := M') (by omega) h4
  rw [b] at p1
  exact ⟨p1.2.1.symm.trans p2.2.1, p1.2.2.1.symm.trans p2.2.2.1⟩
end Go.Proofs.YtcndkhgbgjnclaaGreatDoor.nn
/- Plain facts: the real convert against the document's Widen and Narrow; compose against FromInt. -/
namespace Go.Proofs.YtcndkhgbgjnclaaGreatDoor.nn

theorem widen_num {k x : Nat} (hk : kOk k) (hx : x < lim k) : cvO k 64 x = true ∧ cvV k 64 x = wdV k x := by
  have h2 : fr k x < hdn k := fr_lt (w := k) (x := x)
  have h1 := ex_lt (w := k) (x := x)
  have h3 : ex k x ≤ onz k := by unfold onz; omega
  have hf := hk.facts
  by_cases hn : k = 64
  · subst hn
    have hx' : x < 18446744073709551616 := hx
    rw [wd_64 hx']
    have hp := parts_jv hx'
    by_cases hi : ex 64 x = onz 64
    · have hz : Sm (fr 64 x) 0 (fr 64 x) 0 := Sm.refl _ _
      have hs := hz.shift (by omega)
      rw [show (0 : Int) - 0 = (fb 64 : Int) - (fb 64 : Int) by omega] at hs
      have e1 : cvO 64 64 x = true := by unfold cvO; rw [if_pos hi]; exact hs.1
      refine ⟨e1, ?_⟩
      unfold cvV
      rw [if_pos hi, e1, if_pos rfl, kv_jv, hs.2, ← hi]
      exact hp
    · unfold cvO cvV
      rw [if_neg hi, if_neg hi]
      rcases Nat.eq_zero_or_pos (aM 64 (ex 64 x) (fr 64 x)) with h0 | h0
      · obtain ⟨z1, z2⟩ := aM_zero hk h0
        rw [h0]
        refine ⟨(compose_none (neg := false)).1, ?_⟩
        rw [compose_none.2, kv_jv]
        rw [z1, z2] at hp
        exact hp
      · have hy := compose_yes hk h0 (by omega) h2 (Sm.refl _ _)
        refine ⟨hy.1, ?_⟩
        rw [hy.2, kv_jv]
        exact hp
  · have hw := hk.wd hn
    have hF := hw.f
    have hwd : wdV k x = jv (sg k x) (wX (bia k) (onz k + 1) (fb k) (ex k x) (fr k x)) (wM (onz k + 1) (fb k) (ex k x) (fr k x)) := by
      rcases hk with rfl | rfl | rfl
      · exact wd_16 x
      · exact wd_32 x
      · exact absurd rfl hn
    rw [hwd]
    by_cases hi : ex k x = onz k
    · have hl : fr k x * 2 ^ (52 - fb k) < 4503599627370496 := by
        rw [← b52, show 52 = fb k + (52 - fb k) by omega, Nat.pow_add, show fb k + (52 - fb k) - fb k = 52 - fb k by omega]
        exact Nat.mul_lt_mul_of_pos_right h2 (Nat.two_pow_pos _)
      have hz : Sm (fr k x) ((fb 64 : Int) - (fb k : Int)) (fr k x * 2 ^ (52 - fb k)) 0 := ⟨52 - fb k, 0, by rw [show fb 64 = 52 from rfl]; omega, by rw [Nat.pow_zero, Nat.mul_one]⟩
      have hs := hz.shift (by omega)
      rw [Int.sub_zero] at hs
      have e1 : cvO k 64 x = true := by unfold cvO; rw [if_pos hi]; exact hs.1
      refine ⟨e1, ?_⟩
      unfold cvV
      rw [if_pos hi, e1, if_pos rfl, kv_jv, hs.2]
      unfold wX wM
      rw [if_pos (by omega), if_pos (by omega)]
      rfl
    · obtain ⟨s1, s2, s3⟩ := wide_same hk hn (show ex k x < onz k by omega) h2
      unfold cvO cvV
      rw [if_neg hi, if_neg hi]
      rcases Nat.eq_zero_or_pos (aM k (ex k x) (fr k x)) with h0 | h0
      · obtain ⟨z1, z2⟩ := aM_zero hk h0
        rw [h0]
        refine ⟨(compose_none (neg := false)).1, ?_⟩
        rw [compose_none.2, kv_jv, z1, z2]
        unfold wX wM
        rw [if_neg (by omega), if_neg (by omega), if_neg (by omega), if_neg (by omega), if_neg (by omega)]
      · have hy := compose_yes k64 h0 s2 s3 s1
        refine ⟨hy.1, ?_⟩
        rw [hy.2, kv_jv]
theorem narrow_fin {j X' M' : Nat} (hj : kOk j) (hn : j ≠ 64) (hX : X' < 2047) (hM : M' < 4503599627370496) (S : Bool) :
    cmO j (aM 64 X' M') (aE 64 X') = nwO (xb j) (fb j) X' M' ∧ cmV j S (aM 64 X' M') (aE 64 X') = nwA (xb j) (fb j) S X' M' := by
  have hw := hj.wd hn
  have hbt := hj.bt
  rcases Nat.eq_zero_or_pos (aM 64 X' M') with h0 | h0
  · obtain ⟨rfl, rfl⟩ := aM_zero k64 h0
    rw [h0]
    have e1 : nwO (xb j) (fb j) 0 0 = true := by unfold nwO; dsimp only; rw [if_pos rfl]; rfl
    rw [e1, (compose_none (neg := false)).1, compose_none.2]
    refine ⟨rfl, ?_⟩
    unfold nwA nwV kv
    dsimp only
    rw [e1, if_pos rfl, if_pos rfl, Nat.zero_mul]
  · cases hO : nwO (xb j) (fb j) X' M' with
    | true =>
      obtain ⟨X, M, a1, a2, a3, a4, a5, _⟩ := hw.forth (by omega) hM hO
      have hX1 : X < onz j := by
        rcases Nat.lt_or_ge X (onz j) with h | h
        · exact h
        · have : X = onz j + 1 - 1 := by omega
          unfold wX at a4
          rw [if_pos this] at a4
          omega
      obtain ⟨s1, _, _⟩ := wide_same hj hn hX1 a2
      rw [a4, a5] at s1
      have hy := compose_yes hj h0 hX1 a2 s1.symm
      exact ⟨hy.1, by rw [hy.2, a3]⟩
    | false =>
      have hc : cmO j (aM 64 X' M') (aE 64 X') = false := by
        cases h : cmO j (aM 64 X' M') (aE 64 X') with
        | false => rfl
        | true =>
          obtain ⟨X, M, a1, a2, a3⟩ := compose_has hj h0 h
          obtain ⟨s1, s2, s3⟩ := wide_same hj hn a1 a2
          obtain ⟨w1, w2⟩ := one_way hX hM s2 s3 (a3.trans s1) h0
          have hb := (hw.back (X := X) (M := M) (by omega) a2 false).1
          rw [← w1, ← w2, hO] at hb
          exact absurd hb (by decide)
      refine ⟨hc, ?_⟩
      unfold cmV nwA
      rw [hc, hO]
      rfl
theorem narrow_num {j x : Nat} (hj : kOk j) (hx : x < 18446744073709551616) : cvO 64 j x = nrO (j : Int) x ∧ cvV 64 j x = nrV (j : Int) x := by
  by_cases hn : j = 64
  · subst hn
    have h := widen_num k64 (show x < lim 64 from hx)
    rw [wd_64 hx] at h
    exact h
  · have hok : wOk (j : Int) := by
      rcases hj with rfl | rfl | rfl
      · exact .inl rfl
      · exact .inr (.inl rfl)
      · exact .inr (.inr rfl)
    have hr := nr_ok (x := x) hok (by omega)
    rw [Int.toNat_natCast] at hr
    rw [hr.1, hr.2]
    have h1 := ex_lt (w := 64) (x := x)
    have h2 := fr_lt (w := 64) (x := x)
    rw [show 2 ^ xb 64 = 2048 from rfl] at h1
    rw [show 2 ^ fb 64 = 4503599627370496 from rfl] at h2
    by_cases hi : ex 64 x = onz 64
    · have hi' : ex 64 x = 2047 := hi
      have hF := (hj.wd hn).f
      obtain ⟨d, hd⟩ : ∃ d : Nat, 52 - fb j = d := ⟨_, rfl⟩
      have hneg : (fb j : Int) - (fb 64 : Int) = -(d : Int) := by rw [show fb 64 = 52 from rfl]; omega
      have e0 : sOk (fr 64 x) ((fb j : Int) - (fb 64 : Int)) = shOk (fr 64 x) d := by
        rw [hneg]; unfold sOk shOk
        rw [if_pos (by omega), show (-(-(d : Int))).toNat = d by omega]
      have e2 : nwO (xb j) (fb j) (ex 64 x) (fr 64 x) = shOk (fr 64 x) d := by
        unfold nwO; dsimp only
        rw [if_neg (by omega), if_pos hi', hd]
      have e1 : cvO 64 j x = shOk (fr 64 x) d := by unfold cvO; rw [if_pos hi, e0]
      refine ⟨e1.trans e2.symm, ?_⟩
      unfold cvV nwA
      rw [if_pos hi, e1, e2]
      cases hO : shOk (fr 64 x) d with
      | false => rfl
      | true =>
        rw [if_pos rfl, if_pos rfl]
        have e3 : sV (fr 64 x) ((fb j : Int) - (fb 64 : Int)) = shV (fr 64 x) d := by
          rw [hneg]; unfold sV shV
          rw [if_pos (by omega), show (-(-(d : Int))).toNat = d by omega, if_pos (of_decide_eq_true hO)]
        rw [e3]
        unfold kv nwV
        dsimp only
        rw [if_neg (show ¬ ex 64 x = 0 by omega), if_pos hi', hd, Nat.add_assoc]
        rfl
    · have hi' : ex 64 x ≠ 2047 := hi
      unfold cvO cvV
      rw [if_neg hi, if_neg hi]
      exact narrow_fin hj hn (by omega) h2 _
theorem fromInt_num {v : Nat} (neg : Bool) (hv : 0 < v) (hb : v < 18446744073709551616) : cmO 64 v 0 = fiO v ∧ cmV 64 neg v 0 = fiV neg v := by
  have hv0 : v ≠ 0 := by omega
  have hL : v.log2 < 64 := (Nat.log2_lt hv0).2 (by rw [p64]; exact hb)
  cases hO : fiO v with
  | true =>
    obtain ⟨q, _, _, _, _, _, a6, a7, a8, _⟩ := fi_xa (neg := neg) hv0 hO (by rw [p64]; omega)
    rw [b52] at a7
    rw [p53] at a8
    have hs : Sm v 0 (aM 64 (1023 + v.log2) (q - 4503599627370496)) (aE 64 (1023 + v.log2)) := by
      rw [show aM 64 (1023 + v.log2) (q - 4503599627370496) = _ from if_neg (by omega), show aE 64 (1023 + v.log2) = _ from if_neg (by omega), show hdn 64 = 4503599627370496 by decide, Nat.sub_add_cancel a7]
      exact ⟨52, v.log2, by rw [show bia 64 = 1023 from rfl, show fb 64 = 52 from rfl]; omega, a6.symm⟩
    have hy := compose_yes k64 hv (show 1023 + v.log2 < onz 64 by rw [show onz 64 = 2047 by decide]; omega) (show q - 4503599627370496 < hdn 64 by rw [show hdn 64 = 4503599627370496 by decide]; omega) hs
    refine ⟨hy.1, ?_⟩
    have hq : v * 2 ^ 52 / 2 ^ v.log2 = q := by rw [← a6, Nat.mul_div_cancel _ (Nat.two_pow_pos _)]
    rw [hy.2, kv_jv, fi_some hv0 hO, hq, b52]
  | false =>
    have hc : cmO 64 v 0 = false := by
      cases h : cmO 64 v 0 with
      | false => rfl
      | true =>
        obtain ⟨X, M, a1, a2, a, b, a3, a4⟩ := compose_has k64 hv h
        have hd : hdn 64 = 2 ^ 52 := by decide
        rw [hd] at a2
        by_cases hX : X = 0
        · subst hX
          rw [show aM 64 0 M = M from if_pos rfl] at a4
          rw [show aE 64 0 = -1074 from rfl] at a3
          obtain ⟨c, hc, rfl⟩ : ∃ c, 52 ≤ c ∧ a = c + b := ⟨1074, by omega, by omega⟩
          rw [Nat.pow_add, ← Nat.mul_assoc] at a4
          have a5 := Nat.eq_of_mul_eq_mul_right (Nat.two_pow_pos b) a4
          have a6 : 1 * 2 ^ c ≤ v * 2 ^ c := Nat.mul_le_mul_right _ hv
          have a7 : (2 : Nat) ^ 52 ≤ 2 ^ c := Nat.pow_le_pow_right (by decide) hc
          rw [Nat.one_mul] at a6
          rw [a5] at a6
          exact absurd a2 (Nat.not_lt.2 (Nat.le_trans a7 a6))
        · rw [show aM 64 X M = M + hdn 64 from if_neg hX, hd] at a4
          rw [show aE 64 X = (X : Int) - (bia 64 : Int) - (fb 64 : Int) from if_neg hX] at a3
          by_cases hab : a ≤ b
          · obtain ⟨t, rfl⟩ : ∃ t, b = t + a := ⟨b - a, by omega⟩
            rw [Nat.pow_add, ← Nat.mul_assoc] at a4
            have a5 := Nat.eq_of_mul_eq_mul_right (Nat.two_pow_pos a) a4
            have := (fi_up a5 (Nat.le_add_left _ _) (by rw [p53]; rw [b52] at a2 ⊢; omega)).1
            rw [hO] at this
            exact absurd this (by decide)
          · obtain ⟨t, rfl⟩ : ∃ t, a = t + b := ⟨a - b, by omega⟩
            rw [Nat.pow_add, ← Nat.mul_assoc] at a4
            have a5 := Nat.eq_of_mul_eq_mul_right (Nat.two_pow_pos b) a4
            have := (fi_down a5.symm (Nat.le_add_left _ _) (by rw [p53]; rw [b52] at a2 ⊢; omega)).1
            rw [hO] at this
            exact absurd this (by decide)
    refine ⟨hc, ?_⟩
    unfold cmV
    rw [hc, fi_none hv0 hO]
    rfl
end Go.Proofs.YtcndkhgbgjnclaaGreatDoor.nn
/- The contracts of the real fbits: Widen, Narrow, Exact, FromInt. -/
namespace Go.Proofs.YtcndkhgbgjnclaaGreatDoor.nn
open Go.RowKit

end Go.Proofs.YtcndkhgbgjnclaaGreatDoor.nn
/- The contracts of the real fbits: Exact, FromInt, Int. -/
namespace Go.Proofs.YtcndkhgbgjnclaaGreatDoor.nn
open Go.RowKit

theorem xa_amount (x : Nat) (h : ex 64 x ≠ 2047) : xaO x = true ∧ xaS x = sg 64 x ∧ xaM x = aM 64 (ex 64 x) (fr 64 x) ∧ xaE x = aE 64 (ex 64 x) := by
  unfold xaO xaS xaM xaE aM aE
  rw [if_neg h, if_neg h, if_neg h, decide_eq_true h]
  refine ⟨rfl, rfl, ?_, ?_⟩
  · by_cases h0 : ex 64 x = 0
    · rw [if_pos h0, if_pos h0]
    · rw [if_neg h0, if_neg h0]
      rfl
  · by_cases h0 : ex 64 x = 0
    · rw [if_pos h0, if_pos h0]
      rfl
    · rw [if_neg h0, if_neg h0, show bia 64 = 1023 from rfl, show fb 64 = 52 from rfl]
      omega
theorem xa_none (x : Nat) (h : ex 64 x = 2047) : xaO x = false ∧ xaS x = false ∧ xaM x = 0 ∧ xaE x = 0 := by
  unfold xaO xaS xaM xaE
  rw [if_pos h, if_pos h, if_pos h, decide_eq_false (by simp [h])]
  exact ⟨rfl, rfl, rfl, rfl⟩
set_option maxRecDepth 100000 in
set_option maxHeartbeats 1000000 in
theorem fexact_any (x : Nat) (w : World) (hx : x < 18446744073709551616) : Calls Tryz.prog 17 #[.int .u64 (x : Int)] w (XaAns x w) := by
  unfold XaAns
  obtain ⟨c1, c2⟩ := cl5_inf (k := 64) (X := ex 64 x) (M := fr 64 x)
  have hw : ∀ W, Calls Tryz.prog 40 #[] W fun e w' => e = .returned (sv 64) ∧ Below W.heap.size W w' := widest_any
  have hc := fun W => class_any 64 x W k64 hx
  have hs := fun W => split_any 64 x W k64 hx
  have h2 := fr_lt (w := 64) (x := x)
  have h1 := ex_lt (w := 64) (x := x)
  have ha := fun W => amount_any 64 (ex 64 x) (fr 64 x) W k64 (by unfold onz; omega) h2
  have e0 : onz 64 = 2047 := by decide
  rw [e0] at c1
  rw [show clk 64 x = cl5 (xb 64) (ex 64 x) (fr 64 x) from rfl] at hc
  obtain ⟨C, hC⟩ : ∃ C, cl5 (xb 64) (ex 64 x) (fr 64 x) = C := ⟨_, rfl⟩
  rw [hC] at c1 c2 hc
  clear hC h1 h2 e0
  by_cases h : ex 64 x = 2047
  · obtain ⟨x1, x2, x3, x4⟩ := xa_none x h
    rw [x1, x2, x3, x4]
    have h34 : C = 3 ∨ C = 4 := by have := c1.2 h; omega
    clear x1 x2 x3 x4 c1 c2 h hs ha
    obtain ⟨K, hK⟩ : ∃ K, K = 64 := ⟨64, rfl⟩
    rw [← hK] at hc hw
    clear hK
    unfold sv at hc hw
    have HC := Lib.hid hc
    have HW := Lib.hid hw
    clear hc hw
    rcases h34 with rfl | rfl
    all_goals
      go_enter Tryz.func17, Tryz.ntmps17
      go_wp2_with fail
      with_reducible refine (HW.out _).mono ?_
      rintro e w1 ⟨rfl, hb⟩
      have H1 := Lib.hid hb
      clear hb
      have HB := Lib.hid (Bs.new w1 K 69)
      go_wp2_with fail
      with_reducible refine (HC.out _).mono ?_
      rintro e w2 ⟨rfl, hb⟩
      have H2 := Lib.hid (HB.out.on hb)
      clear hb
      go_wp2_with fail
      exact bodyPost_ret (v := .tuple #[.bool false, .int .u64 0, .int .i64 0, .bool false]) (by simp [results, Tryz.results17, go_sem]) rfl ⟨rfl, H1.out.trans (H2.out.b.mono H1.out.size)⟩
  · obtain ⟨x1, x2, x3, x4⟩ := xa_amount x h
    rw [x1, x2, x3, x4]
    have q1 : ((C : Int) == 3) = false := by simp; intro h3; exact h (c1.1 (by omega))
    have q2 : ((C : Int) == 4) = false := by simp; intro h3; exact h (c1.1 (by omega))
    clear x1 x2 x3 x4 c1 c2 h
    obtain ⟨m, hm⟩ : ∃ m, aM 64 (ex 64 x) (fr 64 x) = m := ⟨_, rfl⟩
    obtain ⟨e, he⟩ : ∃ e, aE 64 (ex 64 x) = e := ⟨_, rfl⟩
    rw [hm, he] at ha ⊢
    clear hm he
    obtain ⟨S, hS⟩ : ∃ S, sg 64 x = S := ⟨_, rfl⟩
    obtain ⟨X, hX⟩ : ∃ X, ex 64 x = X := ⟨_, rfl⟩
    obtain ⟨M, hM⟩ : ∃ M, fr 64 x = M := ⟨_, rfl⟩
    rw [hS, hX, hM] at hs
    rw [hX, hM] at ha
    rw [hS]
    clear hS hX hM
    obtain ⟨K, hK⟩ : ∃ K, K = 64 := ⟨64, rfl⟩
    rw [← hK] at hc hw hs ha
    clear hK
    unfold sv at hc hw hs ha
    have HC := Lib.hid hc
    have HW := Lib.hid hw
    have HS := Lib.hid hs
    have HA := Lib.hid ha
    clear hc hw hs ha
    go_enter Tryz.func17, Tryz.ntmps17
    go_wp2_with fail
    with_reducible refine (HW.out _).mono ?_
    rintro r1 w1 ⟨rfl, hb⟩
    have H1 := Lib.hid hb
    clear hb
    have HB := Lib.hid (Bs.new w1 K 69)
    go_wp2_with fail
    with_reducible refine (HC.out _).mono ?_
    rintro r1 w2 ⟨rfl, hb⟩
    have h2 := HB.out.on hb
    have hc2 := h2.all
    clear hb
    go_wp2_with fail
    with_reducible refine (HS.out _).mono ?_
    rintro r1 w3 ⟨rfl, hb⟩
    have h3 := h2.on hb
    have hc3 := h3.all
    clear hb hc2 h2
    go_wp2_with fail
    with_reducible refine (HA.out _).mono ?_
    rintro r1 w4 ⟨rfl, hb⟩
    have H4 := Lib.hid (h3.on hb)
    clear hb hc3 h3
    go_wp2_with fail
    exact bodyPost_ret (v := .tuple #[.bool S, .int .u64 (m : Int), .int .i64 e, .bool true]) (by simp [results, Tryz.results17, go_sem]) rfl ⟨rfl, H1.out.trans (H4.out.b.mono H1.out.size)⟩

/-! FromInt -/
theorem jv_least : jv true 1087 0 = 14118784831806504960 := by decide
end Go.Proofs.YtcndkhgbgjnclaaGreatDoor.nn
/- The real fdec: nearest. -/
namespace Go.Proofs.YtcndkhgbgjnclaaGreatDoor.nn
open Go.RowKit

/-- the bits of what is infinite -/
def inf : Nat := 2047 * h52
theorem inf_eq : inf = 9218868437227405312 := by decide
theorem cl_inf {x : Nat} (hx : x ≤ inf) : (x = inf → clC 64 x = 3) ∧ (x < inf → (clC 64 x : Int) ≠ 3) ∧ clC 64 x < 5 := by
  have e1 : clC 64 x = cls 64 (ex 64 x) (fr 64 x) := by unfold clC; rw [if_pos (fits64 x)]; rfl
  rw [inf_eq] at *
  have e2 : ex 64 x = x / 4503599627370496 % 2048 := rfl
  have e3 : fr 64 x = x % 4503599627370496 := rfl
  rw [e1]
  unfold cls
  rw [show (2 : Nat) ^ xb 64 - 1 = 2047 from rfl]
  refine ⟨fun h => ?_, fun h => ?_, ?_⟩
  · rw [if_pos (by omega), if_pos (by omega)]
  · rw [if_neg (by omega)]
    split
    · decide
    · split <;> decide
  · split
    · split <;> decide
    · split
      · decide
      · split <;> decide

theorem unit_of {X Y : Nat} {h u : Int} (hY : 0 < Y) (hh : HiIs X Y h) (hu : max (h - 52) (-1074) = u) : Unit X Y u := by
  rcases hh with ⟨h0, h1⟩ | ⟨_, h1, h2⟩
  · have hu' : u = -1074 := by omega
    refine ⟨by omega, .inl hu', fun g => ?_⟩
    unfold ge2 at g
    rw [h0, Nat.zero_mul] at g
    have := Nat.mul_pos hY (Nat.two_pow_pos (u + 53).toNat)
    omega
  · refine ⟨by omega, ?_, fun g => h2 (ge2_anti (by omega) g)⟩
    by_cases c : u = -1074
    · exact .inl c
    · exact .inr (by rw [show u + 52 = h by omega]; exact h1)
def neV (b : Nat) : Nat := if b < inf then b else 0
def NeAns (X Y : Nat) (w : World) (e : Ending) (w' : World) : Prop :=
  ∃ b, Near (X * 2 ^ e74) Y b ∧ e = .returned (.tuple #[.int .u64 (neV b : Int), .bool (decide (b < inf))]) ∧ Below w.heap.size w w'
theorem ne_yes {b : Nat} (h : b < inf) : neV b = b ∧ decide (b < inf) = true := ⟨if_pos h, decide_eq_true h⟩
theorem ne_no {b : Nat} (h : inf ≤ b) : neV b = 0 ∧ decide (b < inf) = false := ⟨if_neg (by omega), decide_eq_false (by omega)⟩

set_option maxRecDepth 100000 in
set_option maxHeartbeats 2000000 in
theorem nearest_any (v y : Value) (X Y : Nat) (w : World) (hv : N w v X) (hy : N w y Y) (hX : X < 2 ^ b20) (hY : Y < 2 ^ b20) (h0 : 0 < Y) :
    Calls Tryz.prog 38 #[v, y] w (NeAns X Y w) := by
  have HH := Lib.hid (highest_any v y X Y w hv hy hX hY h0)
  have HCl := Lib.hid (fun (b : Nat) (z : Int) (hz : z = (b : Int)) (hb : b < 18446744073709551616) W => by
    have := fclass_any 64 b W hb
    rw [← hz] at this
    exact this)
  have HV := Lib.hid (And.intro hv hy)
  have HX := Lib.hid (And.intro hX hY)
  clear hv hy hX hY
  go_enter Tryz.func38, Tryz.ntmps38
  go_wp2_with fail
  refine HH.out.mono ?_
  rintro e w1 ⟨h, rfl, hh1, hh2, hi, hb1⟩
  obtain ⟨u, hu⟩ : ∃ u, max (h - 52) (-1074) = u := ⟨_, rfl⟩
  have hU := unit_of h0 hi hu
  have HU := Lib.hid hU
  have HB1 := Lib.hid hb1
  have hlu := hU.least
  have hup : u ≤ 20001 := by omega
  obtain ⟨X', hX'⟩ : ∃ X', X' = X * 2 ^ (-u).toNat := ⟨_, rfl⟩
  obtain ⟨Y', hY'⟩ : ∃ Y', Y' = Y * 2 ^ u.toNat := ⟨_, rfl⟩
  obtain ⟨k, hk⟩ : ∃ k, (u + 1074).toNat = k := ⟨_, rfl⟩
  have k1 : u + 1074 = (k : Int) := by omega
  have HY0 : Hid (0 < Y') := Lib.hid (by rw [hY']; exact Nat.mul_pos h0 (Nat.two_pow_pos _))
  have key := fun up hq => near_unit h0 hU hX' hY' (up := up) hq
  rw [hk] at key
  obtain ⟨Q, hQ⟩ : ∃ Q, X' / Y' = Q := ⟨_, rfl⟩
  obtain ⟨R, hR⟩ : ∃ R, X' % Y' = R := ⟨_, rfl⟩
  have hRl : R < Y' := by rw [← hR]; exact Nat.mod_lt _ HY0.out
  rw [hQ, hR] at key
  obtain ⟨up, hup2⟩ : ∃ up, up = if Y' < 2 * R ∨ (2 * R = Y' ∧ Q % 2 = 1) then 1 else 0 := ⟨_, rfl⟩
  obtain ⟨q1, q2, near⟩ := key up hup2
  have hu01 : up ≤ 1 := by rw [hup2]; split <;> omega
  have HN := Lib.hid near
  clear key near hb1 hi hU
  by_cases hbig : 971 < u
  · have HE : Hid (inf ≤ k * h52 + (Q + up)) := Lib.hid (by
      have h52' : h52 = 4503599627370496 := rfl
      rw [inf_eq]
      rw [h52'] at q2 ⊢
      omega)
    clear q1 q2 hup2 hu01 hX' hY' hQ hR hRl hk k1
    go_wp2_with fail
    go_ret2
    refine ⟨_, HN.out, ?_, HB1.out⟩
    rw [(ne_no HE.out).1, (ne_no HE.out).2]
    rfl
  · have hXf : X * 2 ^ (-u).toNat < big := mul_fits (b := b20) HX.out.1 (by rw [b20_eq]; omega) (by rw [b131_eq, b20_eq]; omega)
    have hYf : Y * 2 ^ u.toNat < big := mul_fits (b := b20) HX.out.2 (by rw [b20_eq]; omega) (by rw [b131_eq, b20_eq]; omega)
    have hYf2 : Y' * 2 ^ 1 < big := by
      rw [hY', Nat.mul_assoc, ← Nat.pow_add]
      exact mul_fits (b := b20) HX.out.2 (by rw [b20_eq]; omega) (by rw [b131_eq, b20_eq]; omega)
    have hT := ftimesPower_any v y X Y (-u) w1 (HV.out.1.below HB1.out) (HV.out.2.below HB1.out) (by omega) (by omega) hXf (by rw [Int.neg_neg]; exact hYf)
    rw [Int.neg_neg, ← hX', ← hY'] at hT
    rw [← hX'] at hXf
    rw [← hY'] at hYf
    have HT := Lib.hid hT
    have HD := Lib.hid (fun W v1 u1 (h1 : N W v1 X') (h2 : N W u1 Y') => fdivide_any v1 u1 X' Y' W h1 h2 hXf hYf HY0.out)
    rw [hQ, hR] at HD
    have q1' : Q < 9007199254740992 := q1
    have HS := Lib.hid (fun W v1 (h1 : N W v1 Q) => fshort_any v1 Q W h1 (by omega))
    have HR2 := Lib.hid (fun W v1 (h1 : N W v1 R) => fshiftUp_any v1 R 1 W h1 (by omega) (by omega))
    have HC := Lib.hid (fun W v1 u1 (h1 : N W v1 (R * 2 ^ 1)) (h2 : N W u1 Y') => fcmp_any v1 u1 (R * 2 ^ 1) Y' W h1 h2)
    have hk2 : k ≤ 2045 := by omega
    obtain ⟨c, hc⟩ : ∃ c, cm (R * 2 ^ 1) Y' = c := ⟨_, rfl⟩
    have cases4 : (c = 1 ∧ up = 1) ∨ (c = 0 ∧ Q % 2 = 1 ∧ up = 1) ∨ (c = 0 ∧ Q % 2 = 0 ∧ up = 0) ∨ (c = -1 ∧ up = 0) := by
      rcases Nat.lt_trichotomy (R * 2 ^ 1) Y' with g | g | g
      · rw [cm_lt g] at hc
        rw [if_neg (by omega)] at hup2
        exact .inr (.inr (.inr ⟨hc.symm, hup2⟩))
      · rw [cm_eq g] at hc
        by_cases par : Q % 2 = 1
        · rw [if_pos (by omega)] at hup2
          exact .inr (.inl ⟨hc.symm, par, hup2⟩)
        · rw [if_neg (by omega)] at hup2
          exact .inr (.inr (.inl ⟨hc.symm, by omega, hup2⟩))
      · rw [cm_gt g] at hc
        rw [if_pos (by omega)] at hup2
        exact .inl ⟨hc.symm, hup2⟩
    rw [hc] at HC
    obtain ⟨b, hb⟩ : ∃ b, k * h52 + (Q + up) = b := ⟨_, rfl⟩
    rw [hb] at HN
    have hb2 : b = k * 4503599627370496 + (Q + up) := hb.symm
    have hb3 : b ≤ inf := by rw [inf_eq]; omega
    obtain ⟨ci, cl, c5⟩ := cl_inf hb3
    rw [inf_eq] at hb3
    clear q2 hup2 hX' hY' hQ hR hk hT hXf hYf hYf2 hRl hc hb q1
    have fin : Hid ((b = inf ∧ clC 64 b = 3) ∨ (b < inf ∧ (clC 64 b : Int) ≠ 3)) := Lib.hid (by
      rcases Nat.lt_or_ge b inf with g | g
      · exact .inr ⟨g, cl g⟩
      · have : b = inf := by rw [inf_eq] at g ⊢; omega
        exact .inl ⟨this, ci this⟩)
    have HK : Hid (∀ z : Int, z = (b : Int) → ∀ W, Calls Tryz.prog 14 #[.int .i64 64, .int .u64 z] W (ClAns 64 b W)) := Lib.hid (fun z hz W => HCl.out b z hz (by omega) W)
    clear ci cl HCl
    obtain ⟨C, hC⟩ : ∃ C, clC 64 b = C := ⟨_, rfl⟩
    unfold ClAns at HK
    rw [hC] at fin HK c5
    clear hC
    have k2 : u - -1074 = (k : Int) := by omega
    rcases cases4 with ⟨rfl, rfl⟩ | ⟨rfl, par, rfl⟩ | ⟨rfl, par, rfl⟩ | ⟨rfl, rfl⟩
    all_goals
      go_wp2_with fail
      refine HT.out.mono ?_
      rintro e w2 ⟨v2, y2, rfl, hN1, hN2, hb1⟩
      have HB2 := Lib.hid (HB1.out.trans (hb1.mono HB1.out.size))
      have HN2 := Lib.hid (And.intro hN1 hN2)
      clear hb1 hN1 hN2
      go_wp2_with fail
      refine (HD.out _ _ _ HN2.out.1 HN2.out.2).mono ?_
      rintro e w3 ⟨v3, y3, rfl, hN1, hN2, hb1⟩
      have HB3 := Lib.hid (HB2.out.trans (hb1.mono HB2.out.size))
      have HN3 := Lib.hid (And.intro (HN2.out.2.below hb1) (And.intro hN1 hN2))
      clear hb1 hN1 hN2
      go_wp2_with fail
      refine (HS.out _ _ HN3.out.2.1).mono ?_
      rintro e w' ⟨rfl, rfl⟩
      go_wp2_with fail
      refine (HR2.out _ _ HN3.out.2.2).mono ?_
      rintro e w4 ⟨v4, rfl, hN1, hb1⟩
      have HB4 := Lib.hid (HB3.out.trans (hb1.mono HB3.out.size))
      have HN4 := Lib.hid (And.intro (HN3.out.1.below hb1) hN1)
      clear hb1 hN1
      go_wp2_with fail
      refine (HC.out _ _ _ HN4.out.2 HN4.out.1).mono ?_
      rintro e w' ⟨rfl, j, rfl⟩
      go_wp2_with fail
      refine (HK.out _ (by omega) _).mono ?_
      rintro e w5 ⟨rfl, hb1⟩
      have HB5 := Lib.hid ((drew_below HB4.out j).trans (hb1.mono (by have := HB4.out.size; simp; omega)))
      clear hb1
      rcases fin.out with ⟨f1, f2⟩ | ⟨f1, f2⟩
      · have HE := Lib.hid (ne_no (Nat.le_of_eq f1.symm))
        clear f1
        obtain rfl : C = 3 := f2
        go_wp2_with fail
        go_ret2
        refine ⟨b, HN.out, ?_, HB5.out⟩
        rw [HE.out.1, HE.out.2]
        rfl
      · have HE := Lib.hid (ne_yes f1)
        have hne : ((C : Int) == 3) = false := by rw [beq_eq_false_iff_ne]; exact f2
        clear f1 f2
        go_wp2_with fail
        go_ret2
        refine ⟨b, HN.out, ?_, HB5.out⟩
        rw [HE.out.1, HE.out.2]
        exact ret_ub (by omega) rfl
end Go.Proofs.YtcndkhgbgjnclaaGreatDoor.nn
/- Plain facts: each number has a nearest float. No program is named here. -/
namespace Go.Proofs.YtcndkhgbgjnclaaGreatDoor.nn

theorem near_ex (X Y : Nat) (hY : 0 < Y) : ∃ b, Near X Y b := by
  obtain ⟨B, hB⟩ : ∃ B, 2 * h52 * Y = B := ⟨_, rfl⟩
  have h0 : 0 < h52 := by decide
  have hB0 : 0 < B := by rw [← hB]; exact Nat.mul_pos (by omega) hY
  have step : ∀ n, X < B * 2 ^ n → ∃ k, X < B * 2 ^ k ∧ (k = 0 ∨ B * 2 ^ (k - 1) ≤ X) := by
    intro n
    induction n with
    | zero => exact fun h => ⟨0, h, .inl rfl⟩
    | succ n ih =>
      intro h
      rcases Nat.lt_or_ge X (B * 2 ^ n) with g | g
      · exact ih g
      · exact ⟨n + 1, h, .inr (by rw [Nat.add_sub_cancel]; exact g)⟩
  obtain ⟨k, h1, h2⟩ := step X (by
    have h3 := Nat.lt_two_pow_self (n := X)
    have h4 : 1 * 2 ^ X ≤ B * 2 ^ X := Nat.mul_le_mul_right _ hB0
    omega)
  have hD : 0 < Y * 2 ^ k := Nat.mul_pos hY (Nat.two_pow_pos k)
  have hdm := Nat.div_add_mod X (Y * 2 ^ k)
  refine ⟨_, near_of (q := X / (Y * 2 ^ k)) (r := X % (Y * 2 ^ k)) (k := k) (up := _) hY (by rw [Nat.mul_comm]; exact hdm.symm) (Nat.mod_lt _ hD) ?_ ?_ rfl⟩
  · rw [Nat.div_lt_iff_lt_mul hD, ← Nat.mul_assoc, hB]
    exact h1
  · rcases h2 with h2 | h2
    · exact .inl h2
    · rcases Nat.eq_zero_or_pos k with h3 | h3
      · exact .inl h3
      · right
        rw [Nat.le_div_iff_mul_le hD]
        have e : B * 2 ^ (k - 1) = h52 * (Y * 2 ^ k) := by
          rw [← hB, show k = k - 1 + 1 by omega, Nat.add_sub_cancel, Nat.pow_succ, ← Nat.mul_assoc, ← Nat.mul_assoc, Nat.mul_right_comm 2 h52 Y, Nat.mul_comm (2 * Y) h52, Nat.mul_comm 2 Y, ← Nat.mul_assoc, Nat.mul_right_comm]
        rw [← e]
        exact h2
theorem ten_two (n : Nat) : 10 ^ n ≤ 2 ^ (4 * n) := by
  rw [Nat.pow_mul]
  exact Nat.pow_le_pow_left (by decide) n
end Go.Proofs.YtcndkhgbgjnclaaGreatDoor.nn
/- The real fdec: Round. -/
namespace Go.Proofs.YtcndkhgbgjnclaaGreatDoor.nn
open Go.RowKit

/-- the number that digits with an exponent are, over another -/
def rX (s : ByteArray) (z : Int) : Nat := dv (bt s) s.size * 10 ^ z.toNat
def rY (z : Int) : Nat := 10 ^ (-z).toNat
theorem rY_pos (z : Int) : 0 < rY z := Nat.pow_pos (by decide)
/-- b is the nearest -/
def RN (s : ByteArray) (z : Int) (b : Nat) : Prop := Near (rX s z * 2 ^ e74) (rY z) b
theorem RN_ex (s : ByteArray) (z : Int) : ∃ b, RN s z b := near_ex _ _ (rY_pos z)
def roV (neg : Bool) (b : Nat) : Nat := if b < inf then sB neg + b else 0
def roE (b : Nat) : Nat := if b < inf then 0 else 8
def RoAns (V E : Nat) (w : World) (e : Ending) (w' : World) : Prop := e = .returned (.tuple #[.int .u64 (V : Int), .int .i64 (E : Int)]) ∧ Below w.heap.size w w'
theorem rf_zero {s : ByteArray} {z : Int} (h : rfE s z = 0) : s.size ≤ 800 ∧ 0 < s.size ∧ dgs (bt s) s.size = true ∧ -2000 ≤ z ∧ z ≤ 2000 := by
  unfold rfE at h
  by_cases h1 : 800 < s.size
  · rw [if_pos h1] at h; omega
  · rw [if_neg h1] at h
    cases h2 : (dgs (bt s) s.size && decide (0 < s.size)) with
    | false => rw [h2, if_pos rfl] at h; omega
    | true =>
      rw [h2, if_neg (by decide)] at h
      rw [Bool.and_eq_true, decide_eq_true_eq] at h2
      split at h
      · omega
      · exact ⟨by omega, h2.2, h2.1, by omega, by omega⟩
theorem rf_le (s : ByteArray) (z : Int) : rfE s z < 8 := by
  unfold rfE
  split
  · decide
  · split
    · decide
    · split <;> decide
theorem rX_fits {s : ByteArray} {z : Int} (h : rfE s z = 0) : rX s z < 2 ^ b20 ∧ rY z < 2 ^ b20 := by
  obtain ⟨h1, h2, h3, h4, h5⟩ := rf_zero h
  have e : ∀ n, n ≤ 2800 → 10 ^ n < 2 ^ b20 := fun n hn => Nat.lt_of_le_of_lt (ten_two n) ((Nat.pow_lt_pow_iff_right (by decide)).2 (by rw [b20_eq]; omega))
  constructor
  · unfold rX
    have h6 := dv_lt h3
    have h7 : dv (bt s) s.size * 10 ^ z.toNat < 10 ^ s.size * 10 ^ z.toNat := Nat.mul_lt_mul_of_pos_right h6 (Nat.pow_pos (by decide))
    rw [← Nat.pow_add] at h7
    exact Nat.lt_trans h7 (e _ (by omega))
  · exact e _ (by omega)

set_option maxRecDepth 100000 in
set_option maxHeartbeats 400000 in
theorem round_no (neg : Bool) (s : ByteArray) (z : Int) (w : World) (hs : s.size ≤ maxLen) (hz1 : -9223372036854775808 ≤ z) (hz2 : z ≤ 9223372036854775807) (hr : rfE s z ≠ 0) :
    Calls Tryz.prog 15 #[.bool neg, .string s, .int .i64 z] w (RoAns 0 (rfE s z) w) := by
  have HR := Lib.hid (refuse_any s z w hs hz1 hz2)
  have HB := Lib.hid (Below.refl w.heap.size w)
  obtain ⟨r, hrr⟩ : ∃ r, rfE s z = r := ⟨_, rfl⟩
  rw [hrr] at hr HR
  rw [hrr]
  have k0 : ((r : Int) != 0) = true := by simp; omega
  clear hrr hr hs
  go_enter Tryz.func15, Tryz.ntmps15
  go_wp2_with fail
  refine HR.out.mono ?_
  rintro e w' ⟨rfl, rfl⟩
  go_wp2_with fail
  go_ret2
  exact ⟨rfl, HB.out⟩

set_option maxRecDepth 100000 in
set_option maxHeartbeats 400000 in
theorem round_yes (neg : Bool) (s : ByteArray) (z : Int) (b : Nat) (w : World) (hr : rfE s z = 0) (hb : RN s z b) :
    Calls Tryz.prog 15 #[.bool neg, .string s, .int .i64 z] w (RoAns (roV neg b) (roE b) w) := by
  obtain ⟨h1, h2, h3, h4, h5⟩ := rf_zero hr
  obtain ⟨f1, f2⟩ := rX_fits hr
  have HR := Lib.hid (refuse_any s z w (by unfold maxLen; omega) (by omega) (by omega))
  have HA := Lib.hid (ratio_any s z w h3 h2 (by omega) (by omega) (by omega))
  have HN := Lib.hid (fun W v u (hv : N W v (rX s z)) (hu : N W u (rY z)) => nearest_any v u (rX s z) (rY z) W hv hu f1 f2 (rY_pos z))
  have HS := Lib.hid (fun m W (hm : m < 9223372036854775808) => fsigned_any neg m W hm)
  rw [hr] at HR
  have HU : Hid (∀ b', Near (rX s z * 2 ^ e74) (rY z) b' → b' = b) := Lib.hid fun b' h => near_uniq (rY_pos z) h hb
  have hA : rX s z = dv (bt s) s.size * 10 ^ z.toNat := rfl
  have hY : rY z = 10 ^ (-z).toNat := rfl
  rw [← hA, ← hY] at HA
  have HB := Lib.hid (Below.refl w.heap.size w)
  clear hb hr h3 f1 f2 hA hY
  obtain ⟨P, hP⟩ : ∃ P, rX s z = P := ⟨_, rfl⟩
  obtain ⟨Q, hQ⟩ : ∃ Q, rY z = Q := ⟨_, rfl⟩
  rw [hP, hQ] at HA HN HU
  clear hP hQ
  by_cases hi : b < inf
  · have e1 : roV neg b = sB neg + b := if_pos hi
    have e2 : roE b = 0 := if_pos hi
    obtain ⟨n1, n2⟩ := ne_yes hi
    rw [e1, e2]
    have hi2 := hi
    rw [inf_eq] at hi2
    have H12 := Lib.hid (And.intro n1 n2)
    clear e1 e2 n1 n2 hi
    go_enter Tryz.func15, Tryz.ntmps15
    go_wp2_with fail
    refine HR.out.mono ?_
    rintro e w' ⟨rfl, rfl⟩
    go_wp2_with fail
    refine HA.out.mono ?_
    rintro e w1 ⟨v, u, rfl, hv, hu, hb1⟩
    have HV := Lib.hid (And.intro hv hu)
    have HB1 := Lib.hid hb1
    clear hv hu hb1
    go_wp2_with fail
    refine (HN.out _ _ _ HV.out.1 HV.out.2).mono ?_
    rintro e w2 ⟨b', hn, rfl, hb2⟩
    obtain rfl := HU.out b' hn
    have HB2 := Lib.hid (HB1.out.trans (hb2.mono HB1.out.size))
    rw [H12.out.1, H12.out.2]
    clear hn hb2
    go_wp2_with fail
    refine (HS.out _ _ (by omega)).mono ?_
    rintro e w' ⟨rfl, rfl⟩
    go_wp2_with fail
    go_ret2
    exact ⟨rfl, HB2.out⟩
  · have e1 : roV neg b = 0 := if_neg hi
    have e2 : roE b = 8 := if_neg hi
    obtain ⟨n1, n2⟩ := ne_no (Nat.le_of_not_lt hi)
    rw [e1, e2]
    have H12 := Lib.hid (And.intro n1 n2)
    clear e1 e2 n1 n2 hi
    go_enter Tryz.func15, Tryz.ntmps15
    go_wp2_with fail
    refine HR.out.mono ?_
    rintro e w' ⟨rfl, rfl⟩
    go_wp2_with fail
    refine HA.out.mono ?_
    rintro e w1 ⟨v, u, rfl, hv, hu, hb1⟩
    have HV := Lib.hid (And.intro hv hu)
    have HB1 := Lib.hid hb1
    clear hv hu hb1
    go_wp2_with fail
    refine (HN.out _ _ _ HV.out.1 HV.out.2).mono ?_
    rintro e w2 ⟨b', hn, rfl, hb2⟩
    obtain rfl := HU.out b' hn
    have HB2 := Lib.hid (HB1.out.trans (hb2.mono HB1.out.size))
    rw [H12.out.1, H12.out.2]
    clear hn hb2
    go_wp2_with fail
    go_ret2
    exact ⟨rfl, HB2.out⟩

theorem two_add {a b c : Nat} (h : c = a + b) : (2 : Nat) ^ c = 2 ^ a * 2 ^ b := by rw [h, Nat.pow_add]
/-- the text 1 with the exponent 0 -/
theorem one_near : RN ⟨#[49]⟩ 0 4607182418800017408 := by
  have e1 : rX ⟨#[49]⟩ 0 * 2 ^ e74 = vf 4607182418800017408 * rY 0 := by
    obtain ⟨j, hj⟩ : ∃ j, j = 1022 := ⟨_, rfl⟩
    have hv : vf (j * h52 + h52) = h52 * 2 ^ j := vf_at (by omega) (.inr (Nat.le_refl _))
    have hx : rX ⟨#[49]⟩ 0 = 1 := by decide
    have hy : rY 0 = 1 := by decide
    have hb : 4607182418800017408 = j * h52 + h52 := by rw [hj]; decide
    rw [hx, hy, hb, hv, Nat.one_mul, Nat.mul_one, ← h52_eq]
    exact two_add (by rw [hj]; rfl)
  unfold RN
  rw [e1]
  exact near_self _ _ (rY_pos 0)
set_option maxRecDepth 100000 in
set_option maxHeartbeats 400000 in
theorem awake_any6 (w : World) : Calls Tryz.prog 11 #[] w fun e w' => e = .returned (.bool true) ∧ Below w.heap.size w w' := by
  have HR := Lib.hid (round_yes false ⟨#[49]⟩ 0 _ w (by decide) one_near)
  rw [show roV false 4607182418800017408 = 4607182418800017408 by decide, show roE 4607182418800017408 = 0 by decide] at HR
  go_enter Tryz.func11, Tryz.ntmps11
  go_wp2_with fail
  refine HR.out.mono ?_
  rintro e w1 ⟨rfl, hb1⟩
  have HB1 := Lib.hid hb1
  clear hb1
  go_wp2_with fail
  go_ret
  exact ⟨rfl, HB1.out⟩
end Go.Proofs.YtcndkhgbgjnclaaGreatDoor.nn
/- Plain facts on the places of a written number in a text. No program is named here. -/
namespace Go.Proofs.YtcndkhgbgjnclaaGreatDoor.nn

/-- how many digits stand in s from place a on -/
def rn (s : ByteArray) (a : Nat) : Nat := dc (fun i => bt s (a + i)) (s.size - a)
theorem rn_le (s : ByteArray) (a : Nat) : rn s a ≤ s.size - a := (dc_facts _ _).1
/-- from place a on -/
def sfx (s : ByteArray) (a : Nat) : ByteArray := s.extract a s.size
/-- from place a to place b -/
def cutT (s : ByteArray) (a b : Nat) : ByteArray := s.extract a b
theorem fba_ext {a b : ByteArray} (h : a.size = b.size) (e : ∀ i, i < a.size → bt a i = bt b i) : a = b := by
  apply ByteArray.ext_getElem h
  intro i h1 h2
  have := e i h1
  rw [bt_at h1, bt_at h2] at this
  exact UInt8.toNat_inj.1 this
theorem cutT_size {s : ByteArray} {a b : Nat} (h : b ≤ s.size) : (cutT s a b).size = b - a := by
  unfold cutT
  rw [ByteArray.size_extract]
  omega
theorem sfx_size (s : ByteArray) (a : Nat) : (sfx s a).size = s.size - a := by
  unfold sfx
  rw [ByteArray.size_extract]
  omega
theorem bt_cutT {s : ByteArray} {a b i : Nat} (h : b ≤ s.size) (hi : i < b - a) : bt (cutT s a b) i = bt s (a + i) := by
  have h1 : i < (s.extract a b).size := by
    have := cutT_size (a := a) h
    unfold cutT at this
    omega
  have h2 : a + i < s.size := by omega
  show bt (s.extract a b) i = _
  rw [bt_at h1, bt_at h2, ByteArray.getElem_extract]
theorem bt_sfx {s : ByteArray} {a i : Nat} (hi : i < s.size - a) : bt (sfx s a) i = bt s (a + i) := bt_cutT (Nat.le_refl _) hi
theorem sfx_zero (s : ByteArray) : sfx s 0 = s := by
  refine fba_ext (by rw [sfx_size]; omega) fun i hi => ?_
  rw [sfx_size] at hi
  rw [bt_sfx hi, Nat.zero_add]
theorem sfx_cut {s : ByteArray} {a k : Nat} (h : a + k ≤ s.size) : (sfx s a).extract 0 k = cutT s a (a + k) := by
  have e1 : ((sfx s a).extract 0 k).size = k := by rw [ByteArray.size_extract, sfx_size]; omega
  refine fba_ext (by rw [e1, cutT_size h]; omega) fun i hi => ?_
  rw [e1] at hi
  rw [bt_cutT h (by omega), ← bt_sfx (by omega)]
  have := bt_cutT (s := sfx s a) (a := 0) (b := k) (i := i) (by rw [sfx_size]; omega) (by omega)
  rw [Nat.zero_add] at this
  exact this
theorem sfx_sfx {s : ByteArray} {a k : Nat} (h : a + k ≤ s.size) : (sfx s a).extract k (sfx s a).size = sfx s (a + k) := by
  have e1 : ((sfx s a).extract k (sfx s a).size).size = s.size - (a + k) := by rw [ByteArray.size_extract, sfx_size]; omega
  refine fba_ext (by rw [e1, sfx_size]) fun i hi => ?_
  rw [e1] at hi
  rw [bt_sfx hi]
  have := bt_sfx (s := sfx s a) (a := k) (i := i) (by rw [sfx_size]; omega)
  unfold sfx at this ⊢
  rw [this]
  have h2 := bt_sfx (s := s) (a := a) (i := k + i) (by omega)
  unfold sfx at h2
  rw [h2, Nat.add_assoc]
theorem dc_sfx {s : ByteArray} (a : Nat) : dc (bt (sfx s a)) (sfx s a).size = rn s a := by
  have : ∀ n, n ≤ s.size - a → dc (bt (sfx s a)) n = dc (fun i => bt s (a + i)) n := by
    intro n
    induction n with
    | zero => exact fun _ => rfl
    | succ n ih =>
      intro hn
      rw [dc, dc, ih (by omega), bt_sfx (by omega)]
  rw [sfx_size]
  exact this _ (Nat.le_refl _)
/-- the digits that are run through are digits -/
theorem rn_dgs {s : ByteArray} {a : Nat} (ha : a ≤ s.size) : dgs (bt (cutT s a (a + rn s a))) (rn s a) = true := by
  have h1 := rn_le s a
  obtain ⟨_, h2, _⟩ := dc_facts (fun i => bt s (a + i)) (s.size - a)
  rw [dgs_congr (g := fun i => bt s (a + i)) (fun i hi => bt_cutT (by omega) (by omega))]
  exact h2
end Go.Proofs.YtcndkhgbgjnclaaGreatDoor.nn
