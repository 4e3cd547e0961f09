/- Joined texts: FbNum2, ShapeNum, ShapeNum2, FbitsReal, FbitsReal2, FdD, FdNear, FdRound, FdSpanA, FdSpanB, FdSpanC, FdSpanD, FdSpanE, FdSpanF, FdMath, Chunks, DecNum, Builder, FormatUint, Repeat, Digits. -/
import Derived.Deep.QuietTactic
import Derived.BigQuiet
import Derived.Deep.RegionHeld3
import Derived.WalkMore
import Derived.Deep.LoopGhost
import Derived.Lib.ItoaNum
import Derived.Test.YtcndkhgbgjnclaaGreatDoorShelf
import Derived.Lib.Builder
import Derived.Lib.AppendStr
import Derived.Lib.UnsafeStr
import Derived.WalkKit
import Derived.Lib.Hide
import Derived.Laws.Externs
import Derived.Below
import Derived.Lib.AppendIntMem
import Derived.Lib.LaidTab
import Derived.Deep.WholeRow
import Derived.Test.YtcndkhgbgjnclaaGreatDoorJc
/- Plain facts of floats as bits: there and back, order, whole numbers. -/
namespace Go.Proofs.YtcndkhgbgjnclaaGreatDoor.nn

theorem wd_16 (x : Nat) : wdV 16 x = jv (sg 16 x) (wX 15 32 10 (ex 16 x) (fr 16 x)) (wM 32 10 (ex 16 x) (fr 16 x)) := by
  have h1 := ex_lt (w := 16) (x := x)
  rw [show (2 : Nat) ^ xb 16 = 32 from rfl] at h1
  unfold wdV clk cl5 wX wM wdm
  rw [show (2 : Nat) ^ xb 16 - 1 = 31 from rfl, show bia 16 = 15 from rfl, show fb 16 = 10 from rfl, show 32 - 1 = 31 from rfl]
  by_cases c1 : ex 16 x = 31
  · simp only [c1, if_true, true_or]
    by_cases c2 : fr 16 x = 0 <;> simp [c2]
  · simp only [c1, if_false, false_or]
    by_cases c2 : 0 < ex 16 x
    · simp [c2]
    · simp only [c2, if_false]
      by_cases c3 : 0 < fr 16 x
      · simp [c3]
      · simp [c3]
theorem wd_32 (x : Nat) : wdV 32 x = jv (sg 32 x) (wX 127 256 23 (ex 32 x) (fr 32 x)) (wM 256 23 (ex 32 x) (fr 32 x)) := by
  have h1 := ex_lt (w := 32) (x := x)
  rw [show (2 : Nat) ^ xb 32 = 256 from rfl] at h1
  unfold wdV clk cl5 wX wM wdm
  rw [show (2 : Nat) ^ xb 32 - 1 = 255 from rfl, show bia 32 = 127 from rfl, show fb 32 = 23 from rfl, show 256 - 1 = 255 from rfl]
  by_cases c1 : ex 32 x = 255
  · simp only [c1, if_true, true_or]
    by_cases c2 : fr 32 x = 0 <;> simp [c2]
  · simp only [c1, if_false, false_or]
    by_cases c2 : 0 < ex 32 x
    · simp [c2]
    · simp only [c2, if_false]
      by_cases c3 : 0 < fr 32 x
      · simp [c3]
      · simp [c3]
theorem wd_64 {x : Nat} (hx : x < 18446744073709551616) : wdV 64 x = x := by
  have hj := parts_jv hx
  unfold wdV clk cl5 wdm
  rw [show (2 : Nat) ^ xb 64 - 1 = 2047 from rfl, show bia 64 = 1023 from rfl, show 52 - fb 64 = 0 from rfl, Nat.pow_zero, Nat.mul_one]
  by_cases c1 : ex 64 x = 2047
  · simp only [c1, if_true]
    rw [c1] at hj
    by_cases c2 : fr 64 x = 0
    · simp [c2]; rw [c2] at hj; exact hj
    · simp [c2]; exact hj
  · simp only [c1, if_false]
    by_cases c2 : 0 < ex 64 x
    · simp [c2]; exact hj
    · simp only [c2, if_false]
      have c0 : ex 64 x = 0 := by omega
      by_cases c3 : 0 < fr 64 x
      · simp [c3]
      · have c4 : fr 64 x = 0 := by omega
        simp [c4]
        rw [c0, c4] at hj
        exact hj

theorem fits16 {x : Nat} : fits 16 x ↔ x < 65536 := ⟨fun h => h.2 (by decide), fun h => ⟨by unfold wOk; omega, fun _ => h⟩⟩
theorem fits32 {x : Nat} : fits 32 x ↔ x < 4294967296 := ⟨fun h => h.2 (by decide), fun h => ⟨by unfold wOk; omega, fun _ => h⟩⟩
theorem wi_ok {k : Int} {x : Nat} (h : fits k x) : wiV k x = wdV k.toNat x := if_pos h
theorem nr_ok {k : Int} {x : Nat} (hk : wOk k) (h : k ≠ 64) : nrO k x = nwO (xb k.toNat) (fb k.toNat) (ex 64 x) (fr 64 x) ∧ nrV k x = nwA (xb k.toNat) (fb k.toNat) (sg 64 x) (ex 64 x) (fr 64 x) := by
  unfold nrO nrV
  rw [if_pos hk, if_pos hk, if_neg h, if_neg h]
  exact ⟨rfl, rfl⟩
theorem cl_ok {k : Int} {x : Nat} (h : fits k x) : clC k x = cl5 (xb k.toNat) (ex k.toNat x) (fr k.toNat x) := if_pos h

/-- bits that are widened are narrowed to themselves -/
theorem wi_back {k : Int} {b : Nat} (h : fits k b) (hb : b < 18446744073709551616) : wiV k b < 18446744073709551616 ∧ nrO k (wiV k b) = true ∧ nrV k (wiV k b) = b := by
  have hk := h.1
  unfold wOk at hk
  rw [wi_ok h]
  rcases hk with rfl | rfl | rfl
  · have hX := ex_lt (w := 16) (x := b)
    have hM := fr_lt (w := 16) (x := b)
    rw [show (2 : Nat) ^ xb 16 = 32 from rfl] at hX
    rw [show fb 16 = 10 from rfl] at hM
    obtain ⟨a1, a2⟩ := wd16.wide hX hM
    obtain ⟨b1, b2⟩ := wd16.back hX hM (sg 16 b)
    obtain ⟨j1, j2, j3, j4⟩ := jv_parts (S := sg 16 b) (by omega) a2 (X := wX 15 32 10 (ex 16 b) (fr 16 b))
    obtain ⟨n1, n2⟩ := nr_ok (k := 16) (x := wdV 16 b) (by unfold wOk; omega) (by decide)
    rw [show Int.toNat 16 = 16 from rfl, show xb 16 = 5 from rfl, show fb 16 = 10 from rfl] at n1 n2
    rw [show Int.toNat 16 = 16 from rfl, n1, n2, wd_16, j1, j2, j3]
    exact ⟨j4, b1, b2.trans (parts_kv16 (fits16.1 h))⟩
  · have hX := ex_lt (w := 32) (x := b)
    have hM := fr_lt (w := 32) (x := b)
    rw [show (2 : Nat) ^ xb 32 = 256 from rfl] at hX
    rw [show fb 32 = 23 from rfl] at hM
    obtain ⟨a1, a2⟩ := wd32.wide hX hM
    obtain ⟨b1, b2⟩ := wd32.back hX hM (sg 32 b)
    obtain ⟨j1, j2, j3, j4⟩ := jv_parts (S := sg 32 b) (by omega) a2 (X := wX 127 256 23 (ex 32 b) (fr 32 b))
    obtain ⟨n1, n2⟩ := nr_ok (k := 32) (x := wdV 32 b) (by unfold wOk; omega) (by decide)
    rw [show Int.toNat 32 = 32 from rfl, show xb 32 = 8 from rfl, show fb 32 = 23 from rfl] at n1 n2
    rw [show Int.toNat 32 = 32 from rfl, n1, n2, wd_32, j1, j2, j3]
    exact ⟨j4, b1, b2.trans (parts_kv32 (fits32.1 h))⟩
  · rw [show Int.toNat 64 = 64 from rfl, wd_64 hb]
    exact ⟨hb, rfl, rfl⟩
/-- bits that are narrowed are widened to themselves -/
theorem nr_forth {k : Int} {x : Nat} (hk : wOk k) (hx : x < 18446744073709551616) (hO : nrO k x = true) : nrV k x < 18446744073709551616 ∧ fits k (nrV k x) ∧ wiV k (nrV k x) = x ∧ (clC k (nrV k x) = clC 64 x ∨ clC k (nrV k x) = 1 ∧ clC 64 x = 2) := by
  have hX := ex_lt (w := 64) (x := x)
  have hM := fr_lt (w := 64) (x := x)
  rw [show (2 : Nat) ^ xb 64 = 2048 from rfl] at hX
  rw [show (2 : Nat) ^ fb 64 = 4503599627370496 from rfl] at hM
  have hc := cl_ok (fits64 x)
  rw [show Int.toNat 64 = 64 from rfl, show xb 64 = 11 from rfl] at hc
  have hj := parts_jv hx
  unfold wOk at hk
  rcases hk with rfl | rfl | rfl
  · obtain ⟨n1, n2⟩ := nr_ok (k := 16) (x := x) (by unfold wOk; omega) (by decide)
    rw [show Int.toNat 16 = 16 from rfl, show xb 16 = 5 from rfl, show fb 16 = 10 from rfl] at n1 n2
    rw [n1] at hO
    obtain ⟨X, M, x1, x2, x3, x4, x5, x6⟩ := wd16.forth (by omega) hM hO
    obtain ⟨k1, k2, k3, k4⟩ := kv_parts16 (S := sg 64 x) x1 x2
    have hV : nrV 16 x = kv 5 10 (sg 64 x) X M := n2.trans (x3 _)
    rw [hV]
    have hf := fits16.2 k4
    refine ⟨by omega, hf, ?_, ?_⟩
    · rw [wi_ok hf, show Int.toNat 16 = 16 from rfl, wd_16, k1, k2, k3, x4, x5]; exact hj
    · rw [cl_ok hf, hc, show Int.toNat 16 = 16 from rfl, k2, k3]; exact x6
  · obtain ⟨n1, n2⟩ := nr_ok (k := 32) (x := x) (by unfold wOk; omega) (by decide)
    rw [show Int.toNat 32 = 32 from rfl, show xb 32 = 8 from rfl, show fb 32 = 23 from rfl] at n1 n2
    rw [n1] at hO
    obtain ⟨X, M, x1, x2, x3, x4, x5, x6⟩ := wd32.forth (by omega) hM hO
    obtain ⟨k1, k2, k3, k4⟩ := kv_parts32 (S := sg 64 x) x1 x2
    have hV : nrV 32 x = kv 8 23 (sg 64 x) X M := n2.trans (x3 _)
    rw [hV]
    have hf := fits32.2 k4
    refine ⟨by omega, hf, ?_, ?_⟩
    · rw [wi_ok hf, show Int.toNat 32 = 32 from rfl, wd_32, k1, k2, k3, x4, x5]; exact hj
    · rw [cl_ok hf, hc, show Int.toNat 32 = 32 from rfl, k2, k3]; exact x6
  · have hV : nrV 64 x = x := rfl
    rw [hV]
    exact ⟨hx, fits64 x, by rw [wi_ok (fits64 x)]; exact wd_64 hx, .inl rfl⟩

/-! order -/
section
variable {E F B T X M X' M' : Nat}
set_option maxRecDepth 100000 in
theorem Wd.val_lt (h : Wd E F B T) (hX : X < T - 1) (hM : M < 2 ^ F) : wX B T F X M * 4503599627370496 + wM T F X M < (X + 1024 - B) * 4503599627370496 := by
  have hB := h.b
  have hbt := h.bt
  have hF := h.f
  by_cases c2 : 0 < X
  · have hw := (h.wide (X := X) (by omega) hM).2
    have e1 : wX B T F X M = X + 1023 - B := by unfold wX; rw [if_neg (by omega), if_pos c2]
    rw [e1, show X + 1024 - B = X + 1023 - B + 1 by omega, Nat.succ_mul]
    exact Nat.add_lt_add_left hw _
  · obtain rfl : X = 0 := by omega
    by_cases c3 : 0 < M
    · obtain ⟨s1, s2, _⟩ := h.small hM c3
      have hw := (h.wide (X := 0) (by omega) hM).2
      have n3 := nrm_pos s1 s2
      have n4 := h.nrm_le hM c3
      have e1 : wX B T F 0 M = 1024 - B - nrm (M * 2 ^ (52 - F)) := by unfold wX; rw [if_neg (by omega), if_neg c2, if_pos c3]
      rw [e1]
      omega
    · have e1 : wX B T F 0 M = 0 := by unfold wX; rw [if_neg (by omega), if_neg c2, if_neg c3]
      have e2 : wM T F 0 M = 0 := by unfold wM; rw [if_neg (by omega), if_neg c3]
      rw [e1, e2, Nat.zero_mul, Nat.zero_add]
      exact Nat.mul_pos (by omega) (by decide)
set_option maxRecDepth 100000 in
theorem Wd.mono (h : Wd E F B T) (hX' : X' < T) (hM : M < 2 ^ F) (hM' : M' < 2 ^ F) (hi : X' = T - 1 → M' = 0) (hl : X < X' ∨ X = X' ∧ M < M') :
    wX B T F X M * 4503599627370496 + wM T F X M < wX B T F X' M' * 4503599627370496 + wM T F X' M' := by
  have hB := h.b
  have hbt := h.bt
  have hF := h.f
  have hp := Nat.two_pow_pos (52 - F)
  rcases hl with hl | ⟨rfl, hl⟩
  · have h1 := h.val_lt (X := X) (by omega) hM
    have h2 : X' + 1023 - B ≤ wX B T F X' M' := by
      unfold wX
      split
      · omega
      · rw [if_pos (by omega)]; exact Nat.le_refl _
    have h3 : (X + 1024 - B) * 4503599627370496 ≤ wX B T F X' M' * 4503599627370496 := Nat.mul_le_mul_right _ (by omega)
    exact Nat.lt_of_lt_of_le h1 (Nat.le_trans h3 (Nat.le_add_right _ _))
  · have c1 : X ≠ T - 1 := fun h => by have := hi h; omega
    have hN : M * 2 ^ (52 - F) < M' * 2 ^ (52 - F) := Nat.mul_lt_mul_of_pos_right hl hp
    by_cases c2 : 0 < X
    · have e1 : ∀ m, wX B T F X m = X + 1023 - B := fun m => by unfold wX; rw [if_neg c1, if_pos c2]
      have e2 : ∀ m, wM T F X m = m * 2 ^ (52 - F) := fun m => if_pos (.inr c2)
      rw [e1, e1, e2, e2]
      omega
    · obtain rfl : X = 0 := by omega
      have c3' : 0 < M' := by omega
      obtain ⟨s1', s2', _⟩ := h.small hM' c3'
      obtain ⟨m1', m2'⟩ := nrm_hi s1' s2'
      have n4' := h.nrm_le hM' c3'
      have e1' : wX B T F 0 M' = 1024 - B - nrm (M' * 2 ^ (52 - F)) := by unfold wX; rw [if_neg c1, if_neg c2, if_pos c3']
      have e2' : wM T F 0 M' = M' * 2 ^ (52 - F) * 2 ^ nrm (M' * 2 ^ (52 - F)) - 4503599627370496 := by unfold wM; rw [if_neg (by omega), if_pos c3']
      rw [e1', e2']
      by_cases c3 : 0 < M
      · obtain ⟨s1, s2, _⟩ := h.small hM c3
        obtain ⟨m1, m2⟩ := nrm_hi s1 s2
        have n4 := h.nrm_le hM c3
        have e1 : wX B T F 0 M = 1024 - B - nrm (M * 2 ^ (52 - F)) := by unfold wX; rw [if_neg c1, if_neg c2, if_pos c3]
        have e2 : wM T F 0 M = M * 2 ^ (52 - F) * 2 ^ nrm (M * 2 ^ (52 - F)) - 4503599627370496 := by unfold wM; rw [if_neg (by omega), if_pos c3]
        rw [e1, e2]
        obtain ⟨N, hNN⟩ : ∃ N, M * 2 ^ (52 - F) = N := ⟨_, rfl⟩
        obtain ⟨N', hNN'⟩ : ∃ N', M' * 2 ^ (52 - F) = N' := ⟨_, rfl⟩
        rw [hNN] at m1 m2 n4 hN s1 s2 ⊢
        rw [hNN'] at m1' m2' n4' hN s1' s2' ⊢
        have ht : nrm N' ≤ nrm N := by
          rcases Nat.lt_or_ge (nrm N) (nrm N') with h1 | h1
          · have h2 := (nrm_lt s1' s2').1 h1
            have h3 : N * 2 ^ nrm N < N' * 2 ^ nrm N := Nat.mul_lt_mul_of_pos_right hN (Nat.two_pow_pos _)
            omega
          · exact h1
        rcases Nat.lt_or_ge (nrm N') (nrm N) with h1 | h1
        · have h2 : (1024 - B - nrm N + 1) * 4503599627370496 ≤ (1024 - B - nrm N') * 4503599627370496 := Nat.mul_le_mul_right _ (by omega)
          rw [Nat.succ_mul] at h2
          obtain ⟨a, ha⟩ : ∃ a, (1024 - B - nrm N) * 4503599627370496 = a := ⟨_, rfl⟩
          obtain ⟨a', ha'⟩ : ∃ a', (1024 - B - nrm N') * 4503599627370496 = a' := ⟨_, rfl⟩
          rw [ha, ha'] at h2 ⊢
          clear ha ha'
          omega
        · have h2 : nrm N = nrm N' := by omega
          have h3 : N * 2 ^ nrm N < N' * 2 ^ nrm N := Nat.mul_lt_mul_of_pos_right hN (Nat.two_pow_pos _)
          rw [h2] at h3 m1 m2 ⊢
          omega
      · have e1 : wX B T F 0 M = 0 := by unfold wX; rw [if_neg c1, if_neg c2, if_neg c3]
        have e2 : wM T F 0 M = 0 := by unfold wM; rw [if_neg (by omega), if_neg c3]
        rw [e1, e2, Nat.zero_mul, Nat.zero_add]
        exact Nat.lt_of_lt_of_le (Nat.mul_pos (by omega) (by decide)) (Nat.le_add_right _ _)
end
theorem lex16 {x y : Nat} (h : x < y) (hy : y ≤ 31744) : (ex 16 x < ex 16 y ∨ ex 16 x = ex 16 y ∧ fr 16 x < fr 16 y) ∧ (ex 16 y = 31 → fr 16 y = 0) ∧ sg 16 x = false ∧ sg 16 y = false := by
  unfold ex fr sg
  rw [show xb 16 + fb 16 = 15 from rfl, show fb 16 = 10 from rfl, show xb 16 = 5 from rfl, show (2 : Nat) ^ 15 = 32768 by decide, show (2 : Nat) ^ 10 = 1024 by decide, show (2 : Nat) ^ 5 = 32 by decide]
  refine ⟨by omega, by omega, decide_eq_false (by omega), decide_eq_false (by omega)⟩
theorem lex32 {x y : Nat} (h : x < y) (hy : y ≤ 2139095040) : (ex 32 x < ex 32 y ∨ ex 32 x = ex 32 y ∧ fr 32 x < fr 32 y) ∧ (ex 32 y = 255 → fr 32 y = 0) ∧ sg 32 x = false ∧ sg 32 y = false := by
  unfold ex fr sg
  rw [show xb 32 + fb 32 = 31 from rfl, show fb 32 = 23 from rfl, show xb 32 = 8 from rfl, show (2 : Nat) ^ 31 = 2147483648 by decide, show (2 : Nat) ^ 23 = 8388608 by decide, show (2 : Nat) ^ 8 = 256 by decide]
  refine ⟨by omega, by omega, decide_eq_false (by omega), decide_eq_false (by omega)⟩
theorem jv_false (X M : Nat) : jv false X M = X * 4503599627370496 + M := by unfold jv; simp
theorem wi_mono16 {x y : Nat} (h : x < y) (hy : y ≤ 31744) : wiV 16 x < wiV 16 y := by
  obtain ⟨h1, h2, h3, h4⟩ := lex16 h hy
  have e1 := ex_lt (w := 16) (x := y)
  have f1 := fr_lt (w := 16) (x := x)
  have f2 := fr_lt (w := 16) (x := y)
  rw [wi_ok (fits16.2 (by omega)), wi_ok (fits16.2 (by omega)), show Int.toNat 16 = 16 from rfl, wd_16, wd_16, h3, h4, jv_false, jv_false]
  exact wd16.mono e1 f1 f2 h2 h1
theorem wi_mono32 {x y : Nat} (h : x < y) (hy : y ≤ 2139095040) : wiV 32 x < wiV 32 y := by
  obtain ⟨h1, h2, h3, h4⟩ := lex32 h hy
  have e1 := ex_lt (w := 32) (x := y)
  have f1 := fr_lt (w := 32) (x := x)
  have f2 := fr_lt (w := 32) (x := y)
  rw [wi_ok (fits32.2 (by omega)), wi_ok (fits32.2 (by omega)), show Int.toNat 32 = 32 from rfl, wd_32, wd_32, h3, h4, jv_false, jv_false]
  exact wd32.mono e1 f1 f2 h2 h1

/-! whole numbers -/
theorem fi_xa {v : Nat} {neg : Bool} (hv : v ≠ 0) (hO : fiO v = true) (hb : v ≤ 2 ^ 64) :
    ∃ q, xaO (fiV neg v) = true ∧ xaS (fiV neg v) = neg ∧ xaM (fiV neg v) = q ∧ xaE (fiV neg v) = (v.log2 : Int) - 52 ∧ v.log2 ≤ 64 ∧ q * 2 ^ v.log2 = v * 2 ^ 52 ∧ 2 ^ 52 ≤ q ∧ q < 2 ^ 53 ∧ fiV neg v < 18446744073709551616 := by
  have hl : v.log2 ≤ 64 := by
    rcases Nat.lt_or_ge 64 v.log2 with h | h
    · have h1 := Nat.log2_self_le hv
      have h2 : 2 ^ 65 ≤ 2 ^ v.log2 := pow_up h
      omega
    · exact h
  obtain ⟨q, hq⟩ : ∃ q, v * 2 ^ 52 / 2 ^ v.log2 = q := ⟨_, rfl⟩
  have he : q * 2 ^ v.log2 = v * 2 ^ 52 := by rw [← hq]; exact Nat.div_mul_cancel (Nat.dvd_of_mod_eq_zero (of_decide_eq_true hO))
  have hp := Nat.two_pow_pos v.log2
  have q1 : 2 ^ 52 ≤ q := by
    have h1 : 2 ^ v.log2 * 2 ^ 52 ≤ v * 2 ^ 52 := Nat.mul_le_mul_right _ (Nat.log2_self_le hv)
    exact Nat.le_of_mul_le_mul_right (by rw [he, Nat.mul_comm]; exact h1) hp
  have q2 : q < 2 ^ 53 := by
    have h1 : v * 2 ^ 52 < 2 ^ (v.log2 + 1) * 2 ^ 52 := Nat.mul_lt_mul_of_pos_right Nat.lt_log2_self (Nat.two_pow_pos _)
    rw [← he, Nat.pow_succ, Nat.mul_assoc, show 2 * 2 ^ 52 = 2 ^ 53 by decide, Nat.mul_comm] at h1
    exact Nat.lt_of_mul_lt_mul_left h1
  have hV := fi_some (neg := neg) hv hO
  rw [hq, b52] at hV
  rw [b52] at q1
  rw [p53] at q2
  obtain ⟨j1, j2, j3, j4⟩ := jv_parts (S := neg) (X := 1023 + v.log2) (M := q - 4503599627370496) (by omega) (by omega)
  refine ⟨q, ?_, ?_, ?_, ?_, hl, he, by rw [b52]; exact q1, by rw [p53]; exact q2, by rw [hV]; exact j4⟩
  · unfold xaO; rw [hV, j2]; exact decide_eq_true (by omega)
  · unfold xaS; rw [hV, j2, if_neg (by omega)]; exact j1
  · unfold xaM hid52; rw [hV, j2, j3, if_neg (by omega), if_neg (by omega)]; omega
  · unfold xaE; rw [hV, j2, if_neg (by omega), if_neg (by omega)]; omega
theorem xa_zero : xaO 0 = true ∧ xaS 0 = false ∧ xaM 0 = 0 ∧ xaE 0 = -1074 := by decide
/-- a whole number that has bits is that of its bits -/
theorem fi_int {n : Nat} {neg : Bool} (hn : n < 18446744073709551616) (hO : fiO (fiN neg n) = true) : inR (fiV neg (fiN neg n)) = (neg, n, true) := by
  obtain ⟨v, hv⟩ : ∃ v, fiN neg n = v := ⟨_, rfl⟩
  have hv2 : v = n + neg.toNat := hv.symm
  rw [hv] at hO ⊢
  have p64 : (2 : Nat) ^ 64 = 18446744073709551616 := by decide
  by_cases h0 : v = 0
  · subst h0
    have h1 : n = 0 := by omega
    have h2 : neg = false := by
      cases neg
      · rfl
      · rw [Bool.toNat_true] at hv2; omega
    subst h1 h2
    decide
  · have hb : v ≤ 2 ^ 64 := by rw [p64, hv2]; cases neg <;> simp <;> omega
    obtain ⟨q, a1, a2, a3, a4, a5, a6, a7, a8, _⟩ := fi_xa (neg := neg) h0 hO hb
    unfold inR iR hid52
    rw [a1, a2, a3, a4]
    rw [b52] at a7
    rw [if_neg (by simp; omega), if_neg (by omega)]
    obtain ⟨k, hk⟩ : ∃ k, v.log2 = k := ⟨_, rfl⟩
    rw [hk] at a4 a5 a6 ⊢
    have hle : 2 ^ k ≤ v := by rw [← hk]; exact Nat.log2_self_le h0
    by_cases c1 : neg = true ∧ (k : Int) - 52 = 12 ∧ q = 4503599627370496
    · rw [if_pos c1]
      obtain ⟨rfl, c2, rfl⟩ := c1
      obtain rfl : k = 64 := by omega
      rw [b52, p64] at a6
      rw [Bool.toNat_true] at hv2
      rw [show n = 18446744073709551615 by omega]
    · rw [if_neg c1]
      by_cases c2 : 11 < (k : Int) - 52
      · exfalso
        obtain rfl : k = 64 := by omega
        rw [b52, p64] at a6
        rw [p64] at hle hb
        cases neg
        · rw [Bool.toNat_false] at hv2; omega
        · exact c1 ⟨rfl, by omega, by omega⟩
      · rw [if_neg c2]
        by_cases c3 : (0 : Int) ≤ (k : Int) - 52
        · rw [if_pos c3]
          obtain ⟨d, rfl⟩ : ∃ d, k = 52 + d := ⟨k - 52, by omega⟩
          have e1 : (((52 + d : Nat) : Int) - 52).toNat = d := by omega
          have e2 : q * 2 ^ d = v := by
            rw [Nat.pow_add, ← Nat.mul_assoc, Nat.mul_right_comm] at a6
            exact Nat.eq_of_mul_eq_mul_right (Nat.two_pow_pos 52) a6
          rw [e1, e2, hv2, Nat.add_sub_cancel]
        · rw [if_neg c3]
          obtain ⟨d, hd⟩ : ∃ d, 52 = k + d := ⟨52 - k, by omega⟩
          have e1 : min (-((k : Int) - 52)).toNat 64 = d := by omega
          have e2 : q = v * 2 ^ d := by
            have e3 : v * 2 ^ 52 = v * 2 ^ d * 2 ^ k := by rw [Nat.mul_assoc, ← Nat.pow_add, show d + k = 52 by omega]
            rw [e3] at a6
            exact Nat.eq_of_mul_eq_mul_right (Nat.two_pow_pos k) a6
          rw [e1, e2, Nat.mul_mod_left, if_pos rfl, Nat.mul_div_cancel _ (Nat.two_pow_pos d), hv2, Nat.add_sub_cancel]
end Go.Proofs.YtcndkhgbgjnclaaGreatDoor.nn
/- Plain facts: what compose and convert answer is what the document's Widen, Narrow and FromInt answer. -/
namespace Go.Proofs.YtcndkhgbgjnclaaGreatDoor.nn

/-- m times 2^e is m' times 2^e' -/
def Sm (m : Nat) (e : Int) (m' : Nat) (e' : Int) : Prop := ∃ a b : Nat, e - (a : Int) = e' - (b : Int) ∧ m * 2 ^ a = m' * 2 ^ b
section
variable {m m' m'' : Nat} {e e' e'' : Int}
theorem Sm.refl (m : Nat) (e : Int) : Sm m e m e := ⟨0, 0, rfl, rfl⟩
theorem Sm.symm (h : Sm m e m' e') : Sm m' e' m e := by
  obtain ⟨a, b, h1, h2⟩ := h
  exact ⟨b, a, h1.symm, h2.symm⟩
theorem Sm.trans (h : Sm m e m' e') (h' : Sm m' e' m'' e'') : Sm m e m'' e'' := by
  obtain ⟨a, b, h1, h2⟩ := h
  obtain ⟨c, d, h3, h4⟩ := h'
  refine ⟨a + c, d + b, by omega, ?_⟩
  rw [Nat.pow_add, Nat.pow_add, ← Nat.mul_assoc, h2, ← Nat.mul_assoc, ← h4, Nat.mul_right_comm]
theorem log2_mul {m a : Nat} (h : 0 < m) : (m * 2 ^ a).log2 = m.log2 + a := by
  have hp := Nat.two_pow_pos a
  have h1 : 2 ^ a ≤ m * 2 ^ a := Nat.le_mul_of_pos_left _ h
  have h2 := log2_div h1
  rw [Nat.mul_div_cancel _ hp] at h2
  have h3 : a ≤ (m * 2 ^ a).log2 := (Nat.le_log2 (by omega)).2 h1
  omega
theorem Sm.pos (h : Sm m e m' e') (h0 : 0 < m) : 0 < m' := by
  obtain ⟨a, b, _, h2⟩ := h
  rcases Nat.eq_zero_or_pos m' with h1 | h1
  · rw [h1, Nat.zero_mul] at h2
    have := Nat.mul_pos h0 (Nat.two_pow_pos a)
    omega
  · exact h1
theorem Sm.log (h : Sm m e m' e') (h0 : 0 < m) : (m.log2 : Int) + e = (m'.log2 : Int) + e' := by
  have hp := h.pos h0
  obtain ⟨a, b, h1, h2⟩ := h
  have l1 := log2_mul (a := a) h0
  have l2 := log2_mul (a := b) hp
  rw [h2, l2] at l1
  omega
/-- m shifted to another unit -/
theorem Sm.shift (h : Sm m e m' e') (hm : m' < 18446744073709551616) : sOk m (e - e') = true ∧ sV m (e - e') = m' := by
  obtain ⟨a, b, h1, h2⟩ := h
  unfold sOk sV
  by_cases hn : e - e' < 0
  · rw [if_pos hn, if_pos hn]
    obtain ⟨d, hd⟩ : ∃ d : Nat, (-(e - e')).toNat = d := ⟨_, rfl⟩
    rw [hd]
    obtain rfl : b = d + a := by omega
    rw [Nat.pow_add, ← Nat.mul_assoc] at h2
    have h3 := Nat.eq_of_mul_eq_mul_right (Nat.two_pow_pos a) h2
    rw [h3]
    exact ⟨decide_eq_true (Nat.mul_mod_left _ _), Nat.mul_div_cancel _ (Nat.two_pow_pos d)⟩
  · rw [if_neg hn, if_neg hn]
    obtain ⟨d, hd⟩ : ∃ d : Nat, (e - e').toNat = d := ⟨_, rfl⟩
    rw [hd]
    obtain rfl : a = d + b := by omega
    rw [Nat.pow_add, ← Nat.mul_assoc] at h2
    have h3 := Nat.eq_of_mul_eq_mul_right (Nat.two_pow_pos b) h2
    rw [h3]
    exact ⟨decide_eq_true hm, Nat.mod_eq_of_lt hm⟩
theorem Sm.of_shift {n : Int} (hO : sOk m n = true) : Sm m e (sV m n) (e - n) := by
  unfold sOk at hO
  unfold sV
  by_cases hn : n < 0
  · rw [if_pos hn] at hO ⊢
    refine ⟨0, (-n).toNat, by omega, ?_⟩
    rw [Nat.pow_zero, Nat.mul_one, Nat.div_mul_cancel (Nat.dvd_of_mod_eq_zero (of_decide_eq_true hO))]
  · rw [if_neg hn] at hO ⊢
    refine ⟨n.toNat, 0, by omega, ?_⟩
    rw [Nat.mod_eq_of_lt (of_decide_eq_true hO), Nat.pow_zero, Nat.mul_one]
end
section
variable {k m X M : Nat} {e : Int}
theorem log2_eq {m F : Nat} (h1 : 2 ^ F ≤ m) (h2 : m < 2 ^ (F + 1)) : m.log2 = F := by
  have hp := Nat.two_pow_pos F
  have h3 : F ≤ m.log2 := (Nat.le_log2 (by omega)).2 h1
  have h4 : m.log2 < F + 1 := (Nat.log2_lt (by omega)).2 h2
  omega
/-- what a shape has is found -/
theorem compose_yes (hk : kOk k) (h0 : 0 < m) (hX : X < onz k) (hM : M < hdn k) (h : Sm m e (aM k X M) (aE k X)) : cmO k m e = true ∧ ∀ neg, cmV k neg m e = kv (xb k) (fb k) neg X M := by
  have hf := hk.facts
  have hbt := hk.bt
  have hH : hdn k = 2 ^ fb k := rfl
  have hH2 : 2 ^ (fb k + 1) = 2 * hdn k := by rw [hH, Nat.pow_succ, Nat.mul_comm]
  have hlog := h.log h0
  have hpos := h.pos h0
  have hlt := aM_lt (X := X) hk hM
  have hsh := h.shift (by omega)
  have hu : unt k m e = aE k X ∧ (m.log2 : Int) + e ≤ (bia k : Int) ∧ (0 < X → ((m.log2 : Int) + e + (bia k : Int)).toNat = X) := by
    unfold unt
    rw [hlog]
    by_cases h1 : X = 0
    · subst h1
      have e1 : aM k 0 M = M := if_pos rfl
      have e2 : aE k 0 = 1 - (bia k : Int) - (fb k : Int) := if_pos rfl
      rw [e1] at hpos
      rw [e1, e2]
      have h2 : M.log2 < fb k := (Nat.log2_lt (by omega)).2 hM
      omega
    · have e1 : aM k X M = M + hdn k := if_neg h1
      have e2 : aE k X = (X : Int) - (bia k : Int) - (fb k : Int) := if_neg h1
      rw [e1, e2, log2_eq (F := fb k) (by omega) (by omega)]
      omega
  obtain ⟨u1, u2, u3⟩ := hu
  have hO : cmO k m e = true := by
    unfold cmO
    rw [if_neg (by omega), u1, hsh.1, decide_eq_true u2]
    rfl
  have hU : cmU k m e = aM k X M := by unfold cmU; rw [u1, hsh.2]
  refine ⟨hO, fun neg => ?_⟩
  unfold cmV
  rw [hO, if_pos rfl, if_neg (by omega), hU]
  by_cases h1 : X = 0
  · subst h1
    rw [show aM k 0 M = M from if_pos rfl, if_pos hM]
  · rw [show aM k X M = M + hdn k from if_neg h1, if_neg (by omega), u3 (by omega), Nat.add_sub_cancel]
/-- what is found, a shape has -/
theorem compose_has (hk : kOk k) (h0 : 0 < m) (hO : cmO k m e = true) : ∃ X M, X < onz k ∧ M < hdn k ∧ Sm m e (aM k X M) (aE k X) := by
  have hbt := hk.bt
  have hH : hdn k = 2 ^ fb k := rfl
  have hH2 : 2 ^ (fb k + 1) = 2 * hdn k := by rw [hH, Nat.pow_succ, Nat.mul_comm]
  unfold cmO at hO
  rw [if_neg (by omega), Bool.and_eq_true] at hO
  obtain ⟨h1, h2⟩ := hO
  have h1 := of_decide_eq_true h1
  have h3 := Sm.of_shift (m := m) (e := e) h2
  rw [show sV m (e - unt k m e) = cmU k m e from rfl, show e - (e - unt k m e) = unt k m e by omega] at h3
  have hl := cmU_lt (k := k) (e := e) h0
  by_cases c : 1 - (bia k : Int) ≤ (m.log2 : Int) + e
  · have h4 := cmU_high h0 c h2
    refine ⟨((m.log2 : Int) + e + (bia k : Int)).toNat, cmU k m e - hdn k, by omega, by omega, ?_⟩
    have e1 : ((m.log2 : Int) + e + (bia k : Int)).toNat ≠ 0 := by omega
    rw [show aM k ((m.log2 : Int) + e + (bia k : Int)).toNat (cmU k m e - hdn k) = cmU k m e - hdn k + hdn k from if_neg e1, show aE k ((m.log2 : Int) + e + (bia k : Int)).toNat = _ from if_neg e1, Nat.sub_add_cancel (by omega)]
    rw [show ((((m.log2 : Int) + e + (bia k : Int)).toNat : Nat) : Int) - (bia k : Int) - (fb k : Int) = unt k m e by unfold unt; omega]
    exact h3
  · have h4 := cmU_low h0 (show (m.log2 : Int) + e < 1 - (bia k : Int) by omega)
    refine ⟨0, cmU k m e, by omega, h4, ?_⟩
    rw [show aM k 0 (cmU k m e) = cmU k m e from if_pos rfl, show aE k 0 = _ from if_pos rfl, show 1 - (bia k : Int) - (fb k : Int) = unt k m e by unfold unt; omega]
    exact h3
end
theorem kv_jv (S : Bool) (X M : Nat) : kv (xb 64) (fb 64) S X M = jv S X M := by
  unfold kv jv
  rw [show xb 64 = 11 from rfl, show fb 64 = 52 from rfl, show 11 + 52 = 63 from rfl, show (2 : Nat) ^ 63 = 9223372036854775808 by decide, b52]
theorem k64 : kOk 64 := .inr (.inr rfl)
/-- the width's parts of a shape -/
theorem kOk.wd {k : Nat} (h : kOk k) (hn : k ≠ 64) : Wd (xb k) (fb k) (bia k) (onz k + 1) := by
  rcases h with rfl | rfl | rfl
  · exact wd16
  · exact wd32
  · exact absurd rfl hn
/-- the wider parts are the same number -/
theorem wide_same {k X M : Nat} (hk : kOk k) (hn : k ≠ 64) (hX : X < onz k) (hM : M < hdn k) :
    Sm (aM k X M) (aE k X) (aM 64 (wX (bia k) (onz k + 1) (fb k) X M) (wM (onz k + 1) (fb k) X M)) (aE 64 (wX (bia k) (onz k + 1) (fb k) X M)) ∧ wX (bia k) (onz k + 1) (fb k) X M < 2047 ∧ wM (onz k + 1) (fb k) X M < 4503599627370496 := by
  have hw := hk.wd hn
  have hF := hw.f
  have hB := hw.b
  have hbt := hk.bt
  have hH : hdn k = 2 ^ fb k := rfl
  have e64 : hdn 64 = 4503599627370496 := by decide
  have c1 : X ≠ onz k + 1 - 1 := by omega
  by_cases c2 : 0 < X
  · have e1 : wX (bia k) (onz k + 1) (fb k) X M = X + 1023 - bia k := by unfold wX; rw [if_neg c1, if_pos c2]
    have e2 : wM (onz k + 1) (fb k) X M = M * 2 ^ (52 - fb k) := if_pos (.inr c2)
    have hwd := hw.wide (X := X) (M := M) (by omega) hM
    refine ⟨?_, by omega, hwd.2⟩
    rw [e1, e2, show aM k X M = M + hdn k from if_neg (by omega), show aE k X = _ from if_neg (by omega), show aM 64 (X + 1023 - bia k) (M * 2 ^ (52 - fb k)) = _ from if_neg (by omega), show aE 64 (X + 1023 - bia k) = _ from if_neg (by omega)]
    refine ⟨52 - fb k, 0, by rw [show bia 64 = 1023 from rfl, show fb 64 = 52 from rfl]; omega, ?_⟩
    rw [Nat.pow_zero, Nat.mul_one, Nat.add_mul, hH, ← Nat.pow_add, show fb k + (52 - fb k) = 52 by omega]
    rfl
  · obtain rfl : X = 0 := by omega
    by_cases c3 : 0 < M
    · obtain ⟨s1, s2, _⟩ := hw.small hM c3
      obtain ⟨n1, n2⟩ := nrm_hi s1 s2
      have n3 := nrm_pos s1 s2
      have n4 := hw.nrm_le hM c3
      have e1 : wX (bia k) (onz k + 1) (fb k) 0 M = 1024 - bia k - nrm (M * 2 ^ (52 - fb k)) := by unfold wX; rw [if_neg c1, if_neg c2, if_pos c3]
      have e2 : wM (onz k + 1) (fb k) 0 M = M * 2 ^ (52 - fb k) * 2 ^ nrm (M * 2 ^ (52 - fb k)) - 4503599627370496 := by unfold wM; rw [if_neg (by omega), if_pos c3]
      rw [e1, e2]
      obtain ⟨t, ht⟩ : ∃ t, nrm (M * 2 ^ (52 - fb k)) = t := ⟨_, rfl⟩
      rw [ht] at n1 n2 n3 n4 ⊢
      refine ⟨?_, by omega, by omega⟩
      rw [show aM k 0 M = M from if_pos rfl, show aE k 0 = _ from if_pos rfl, show aM 64 (1024 - bia k - t) (M * 2 ^ (52 - fb k) * 2 ^ t - 4503599627370496) = _ from if_neg (by omega), show aE 64 (1024 - bia k - t) = _ from if_neg (by omega), e64]
      refine ⟨52 - fb k + t, 0, by rw [show bia 64 = 1023 from rfl, show fb 64 = 52 from rfl]; omega, ?_⟩
      rw [Nat.pow_zero, Nat.mul_one, Nat.sub_add_cancel n2, Nat.pow_add, ← Nat.mul_assoc]
    · obtain rfl : M = 0 := by omega
      have e1 : wX (bia k) (onz k + 1) (fb k) 0 0 = 0 := by unfold wX; rw [if_neg c1, if_neg c2, if_neg c2]
      have e2 : wM (onz k + 1) (fb k) 0 0 = 0 := by unfold wM; rw [if_neg (by omega), if_neg c2]
      rw [e1, e2]
      refine ⟨?_, by omega, by omega⟩
      rw [show aM k 0 0 = 0 from if_pos rfl, show aE k 0 = _ from if_pos rfl, show aM 64 0 0 = 0 from if_pos rfl, show aE 64 0 = -1074 from rfl]
      exact ⟨1075 - bia k - fb k, 0, by omega, by rw [Nat.zero_mul, Nat.zero_mul]⟩
/-- compose of nothing -/
theorem compose_none {k : Nat} {neg : Bool} {e : Int} : cmO k 0 e = true ∧ cmV k neg 0 e = kv (xb k) (fb k) neg 0 0 := by
  have e1 : cmO k 0 e = true := if_pos rfl
  exact ⟨e1, by unfold cmV; rw [e1, if_pos rfl, if_pos rfl]⟩
theorem aM_zero {k X M : Nat} (hk : kOk k) (h : aM k X M = 0) : X = 0 ∧ M = 0 := by
  have := hk.facts
  unfold aM at h
  split at h
  · exact ⟨by assumption, h⟩
  · omega
theorem one_way {X M X' M' : Nat} (h1 : X < 2047) (h2 : M < 4503599627370496) (h3 : X' < 2047) (h4 : M' < 4503599627370496) (h : Sm (aM 64 X M) (aE 64 X) (aM 64 X' M') (aE 64 X')) (h0 : 0 < aM 64 X M) : X = X' ∧ M = M' := by
  have a := (compose_yes k64 h0 h1 h2 (Sm.refl _ _)).2 false
  have b := (compose_yes k64 h0 h3 h4 h).2 false
  rw [a, kv_jv, kv_jv] at b
  have p1 := jv_parts (S := false) (X := X) (M := M) (by omega) h2
  have p2 := jv_parts (S := false) (X := X') (M := M') (by omega) h4
  rw [b] at p1
  exact ⟨p1.2.1.symm.trans p2.2.1, p1.2.2.1.symm.trans p2.2.2.1⟩
end Go.Proofs.YtcndkhgbgjnclaaGreatDoor.nn
/- Plain facts: the real convert against the document's Widen and Narrow; compose against FromInt. -/
namespace Go.Proofs.YtcndkhgbgjnclaaGreatDoor.nn

theorem widen_num {k x : Nat} (hk : kOk k) (hx : x < lim k) : cvO k 64 x = true ∧ cvV k 64 x = wdV k x := by
  have h2 : fr k x < hdn k := fr_lt (w := k) (x := x)
  have h1 := ex_lt (w := k) (x := x)
  have h3 : ex k x ≤ onz k := by unfold onz; omega
  have hf := hk.facts
  by_cases hn : k = 64
  · subst hn
    have hx' : x < 18446744073709551616 := hx
    rw [wd_64 hx']
    have hp := parts_jv hx'
    by_cases hi : ex 64 x = onz 64
    · have hz : Sm (fr 64 x) 0 (fr 64 x) 0 := Sm.refl _ _
      have hs := hz.shift (by omega)
      rw [show (0 : Int) - 0 = (fb 64 : Int) - (fb 64 : Int) by omega] at hs
      have e1 : cvO 64 64 x = true := by unfold cvO; rw [if_pos hi]; exact hs.1
      refine ⟨e1, ?_⟩
      unfold cvV
      rw [if_pos hi, e1, if_pos rfl, kv_jv, hs.2, ← hi]
      exact hp
    · unfold cvO cvV
      rw [if_neg hi, if_neg hi]
      rcases Nat.eq_zero_or_pos (aM 64 (ex 64 x) (fr 64 x)) with h0 | h0
      · obtain ⟨z1, z2⟩ := aM_zero hk h0
        rw [h0]
        refine ⟨(compose_none (neg := false)).1, ?_⟩
        rw [compose_none.2, kv_jv]
        rw [z1, z2] at hp
        exact hp
      · have hy := compose_yes hk h0 (by omega) h2 (Sm.refl _ _)
        refine ⟨hy.1, ?_⟩
        rw [hy.2, kv_jv]
        exact hp
  · have hw := hk.wd hn
    have hF := hw.f
    have hwd : wdV k x = jv (sg k x) (wX (bia k) (onz k + 1) (fb k) (ex k x) (fr k x)) (wM (onz k + 1) (fb k) (ex k x) (fr k x)) := by
      rcases hk with rfl | rfl | rfl
      · exact wd_16 x
      · exact wd_32 x
      · exact absurd rfl hn
    rw [hwd]
    by_cases hi : ex k x = onz k
    · have hl : fr k x * 2 ^ (52 - fb k) < 4503599627370496 := by
        rw [← b52, show 52 = fb k + (52 - fb k) by omega, Nat.pow_add, show fb k + (52 - fb k) - fb k = 52 - fb k by omega]
        exact Nat.mul_lt_mul_of_pos_right h2 (Nat.two_pow_pos _)
      have hz : Sm (fr k x) ((fb 64 : Int) - (fb k : Int)) (fr k x * 2 ^ (52 - fb k)) 0 := ⟨52 - fb k, 0, by rw [show fb 64 = 52 from rfl]; omega, by rw [Nat.pow_zero, Nat.mul_one]⟩
      have hs := hz.shift (by omega)
      rw [Int.sub_zero] at hs
      have e1 : cvO k 64 x = true := by unfold cvO; rw [if_pos hi]; exact hs.1
      refine ⟨e1, ?_⟩
      unfold cvV
      rw [if_pos hi, e1, if_pos rfl, kv_jv, hs.2]
      unfold wX wM
      rw [if_pos (by omega), if_pos (by omega)]
      rfl
    · obtain ⟨s1, s2, s3⟩ := wide_same hk hn (show ex k x < onz k by omega) h2
      unfold cvO cvV
      rw [if_neg hi, if_neg hi]
      rcases Nat.eq_zero_or_pos (aM k (ex k x) (fr k x)) with h0 | h0
      · obtain ⟨z1, z2⟩ := aM_zero hk h0
        rw [h0]
        refine ⟨(compose_none (neg := false)).1, ?_⟩
        rw [compose_none.2, kv_jv, z1, z2]
        unfold wX wM
        rw [if_neg (by omega), if_neg (by omega), if_neg (by omega), if_neg (by omega), if_neg (by omega)]
      · have hy := compose_yes k64 h0 s2 s3 s1
        refine ⟨hy.1, ?_⟩
        rw [hy.2, kv_jv]
theorem narrow_fin {j X' M' : Nat} (hj : kOk j) (hn : j ≠ 64) (hX : X' < 2047) (hM : M' < 4503599627370496) (S : Bool) :
    cmO j (aM 64 X' M') (aE 64 X') = nwO (xb j) (fb j) X' M' ∧ cmV j S (aM 64 X' M') (aE 64 X') = nwA (xb j) (fb j) S X' M' := by
  have hw := hj.wd hn
  have hbt := hj.bt
  rcases Nat.eq_zero_or_pos (aM 64 X' M') with h0 | h0
  · obtain ⟨rfl, rfl⟩ := aM_zero k64 h0
    rw [h0]
    have e1 : nwO (xb j) (fb j) 0 0 = true := by unfold nwO; dsimp only; rw [if_pos rfl]; rfl
    rw [e1, (compose_none (neg := false)).1, compose_none.2]
    refine ⟨rfl, ?_⟩
    unfold nwA nwV kv
    dsimp only
    rw [e1, if_pos rfl, if_pos rfl, Nat.zero_mul]
  · cases hO : nwO (xb j) (fb j) X' M' with
    | true =>
      obtain ⟨X, M, a1, a2, a3, a4, a5, _⟩ := hw.forth (by omega) hM hO
      have hX1 : X < onz j := by
        rcases Nat.lt_or_ge X (onz j) with h | h
        · exact h
        · have : X = onz j + 1 - 1 := by omega
          unfold wX at a4
          rw [if_pos this] at a4
          omega
      obtain ⟨s1, _, _⟩ := wide_same hj hn hX1 a2
      rw [a4, a5] at s1
      have hy := compose_yes hj h0 hX1 a2 s1.symm
      exact ⟨hy.1, by rw [hy.2, a3]⟩
    | false =>
      have hc : cmO j (aM 64 X' M') (aE 64 X') = false := by
        cases h : cmO j (aM 64 X' M') (aE 64 X') with
        | false => rfl
        | true =>
          obtain ⟨X, M, a1, a2, a3⟩ := compose_has hj h0 h
          obtain ⟨s1, s2, s3⟩ := wide_same hj hn a1 a2
          obtain ⟨w1, w2⟩ := one_way hX hM s2 s3 (a3.trans s1) h0
          have hb := (hw.back (X := X) (M := M) (by omega) a2 false).1
          rw [← w1, ← w2, hO] at hb
          exact absurd hb (by decide)
      refine ⟨hc, ?_⟩
      unfold cmV nwA
      rw [hc, hO]
      rfl
theorem narrow_num {j x : Nat} (hj : kOk j) (hx : x < 18446744073709551616) : cvO 64 j x = nrO (j : Int) x ∧ cvV 64 j x = nrV (j : Int) x := by
  by_cases hn : j = 64
  · subst hn
    have h := widen_num k64 (show x < lim 64 from hx)
    rw [wd_64 hx] at h
    exact h
  · have hok : wOk (j : Int) := by
      rcases hj with rfl | rfl | rfl
      · exact .inl rfl
      · exact .inr (.inl rfl)
      · exact .inr (.inr rfl)
    have hr := nr_ok (x := x) hok (by omega)
    rw [Int.toNat_natCast] at hr
    rw [hr.1, hr.2]
    have h1 := ex_lt (w := 64) (x := x)
    have h2 := fr_lt (w := 64) (x := x)
    rw [show 2 ^ xb 64 = 2048 from rfl] at h1
    rw [show 2 ^ fb 64 = 4503599627370496 from rfl] at h2
    by_cases hi : ex 64 x = onz 64
    · have hi' : ex 64 x = 2047 := hi
      have hF := (hj.wd hn).f
      obtain ⟨d, hd⟩ : ∃ d : Nat, 52 - fb j = d := ⟨_, rfl⟩
      have hneg : (fb j : Int) - (fb 64 : Int) = -(d : Int) := by rw [show fb 64 = 52 from rfl]; omega
      have e0 : sOk (fr 64 x) ((fb j : Int) - (fb 64 : Int)) = shOk (fr 64 x) d := by
        rw [hneg]; unfold sOk shOk
        rw [if_pos (by omega), show (-(-(d : Int))).toNat = d by omega]
      have e2 : nwO (xb j) (fb j) (ex 64 x) (fr 64 x) = shOk (fr 64 x) d := by
        unfold nwO; dsimp only
        rw [if_neg (by omega), if_pos hi', hd]
      have e1 : cvO 64 j x = shOk (fr 64 x) d := by unfold cvO; rw [if_pos hi, e0]
      refine ⟨e1.trans e2.symm, ?_⟩
      unfold cvV nwA
      rw [if_pos hi, e1, e2]
      cases hO : shOk (fr 64 x) d with
      | false => rfl
      | true =>
        rw [if_pos rfl, if_pos rfl]
        have e3 : sV (fr 64 x) ((fb j : Int) - (fb 64 : Int)) = shV (fr 64 x) d := by
          rw [hneg]; unfold sV shV
          rw [if_pos (by omega), show (-(-(d : Int))).toNat = d by omega, if_pos (of_decide_eq_true hO)]
        rw [e3]
        unfold kv nwV
        dsimp only
        rw [if_neg (show ¬ ex 64 x = 0 by omega), if_pos hi', hd, Nat.add_assoc]
        rfl
    · have hi' : ex 64 x ≠ 2047 := hi
      unfold cvO cvV
      rw [if_neg hi, if_neg hi]
      exact narrow_fin hj hn (by omega) h2 _
theorem fromInt_num {v : Nat} (neg : Bool) (hv : 0 < v) (hb : v < 18446744073709551616) : cmO 64 v 0 = fiO v ∧ cmV 64 neg v 0 = fiV neg v := by
  have hv0 : v ≠ 0 := by omega
  have hL : v.log2 < 64 := (Nat.log2_lt hv0).2 (by rw [p64]; exact hb)
  cases hO : fiO v with
  | true =>
    obtain ⟨q, _, _, _, _, _, a6, a7, a8, _⟩ := fi_xa (neg := neg) hv0 hO (by rw [p64]; omega)
    rw [b52] at a7
    rw [p53] at a8
    have hs : Sm v 0 (aM 64 (1023 + v.log2) (q - 4503599627370496)) (aE 64 (1023 + v.log2)) := by
      rw [show aM 64 (1023 + v.log2) (q - 4503599627370496) = _ from if_neg (by omega), show aE 64 (1023 + v.log2) = _ from if_neg (by omega), show hdn 64 = 4503599627370496 by decide, Nat.sub_add_cancel a7]
      exact ⟨52, v.log2, by rw [show bia 64 = 1023 from rfl, show fb 64 = 52 from rfl]; omega, a6.symm⟩
    have hy := compose_yes k64 hv (show 1023 + v.log2 < onz 64 by rw [show onz 64 = 2047 by decide]; omega) (show q - 4503599627370496 < hdn 64 by rw [show hdn 64 = 4503599627370496 by decide]; omega) hs
    refine ⟨hy.1, ?_⟩
    have hq : v * 2 ^ 52 / 2 ^ v.log2 = q := by rw [← a6, Nat.mul_div_cancel _ (Nat.two_pow_pos _)]
    rw [hy.2, kv_jv, fi_some hv0 hO, hq, b52]
  | false =>
    have hc : cmO 64 v 0 = false := by
      cases h : cmO 64 v 0 with
      | false => rfl
      | true =>
        obtain ⟨X, M, a1, a2, a, b, a3, a4⟩ := compose_has k64 hv h
        have hd : hdn 64 = 2 ^ 52 := by decide
        rw [hd] at a2
        by_cases hX : X = 0
        · subst hX
          rw [show aM 64 0 M = M from if_pos rfl] at a4
          rw [show aE 64 0 = -1074 from rfl] at a3
          obtain ⟨c, hc, rfl⟩ : ∃ c, 52 ≤ c ∧ a = c + b := ⟨1074, by omega, by omega⟩
          rw [Nat.pow_add, ← Nat.mul_assoc] at a4
          have a5 := Nat.eq_of_mul_eq_mul_right (Nat.two_pow_pos b) a4
          have a6 : 1 * 2 ^ c ≤ v * 2 ^ c := Nat.mul_le_mul_right _ hv
          have a7 : (2 : Nat) ^ 52 ≤ 2 ^ c := Nat.pow_le_pow_right (by decide) hc
          rw [Nat.one_mul] at a6
          rw [a5] at a6
          exact absurd a2 (Nat.not_lt.2 (Nat.le_trans a7 a6))
        · rw [show aM 64 X M = M + hdn 64 from if_neg hX, hd] at a4
          rw [show aE 64 X = (X : Int) - (bia 64 : Int) - (fb 64 : Int) from if_neg hX] at a3
          by_cases hab : a ≤ b
          · obtain ⟨t, rfl⟩ : ∃ t, b = t + a := ⟨b - a, by omega⟩
            rw [Nat.pow_add, ← Nat.mul_assoc] at a4
            have a5 := Nat.eq_of_mul_eq_mul_right (Nat.two_pow_pos a) a4
            have := (fi_up a5 (Nat.le_add_left _ _) (by rw [p53]; rw [b52] at a2 ⊢; omega)).1
            rw [hO] at this
            exact absurd this (by decide)
          · obtain ⟨t, rfl⟩ : ∃ t, a = t + b := ⟨a - b, by omega⟩
            rw [Nat.pow_add, ← Nat.mul_assoc] at a4
            have a5 := Nat.eq_of_mul_eq_mul_right (Nat.two_pow_pos b) a4
            have := (fi_down a5.symm (Nat.le_add_left _ _) (by rw [p53]; rw [b52] at a2 ⊢; omega)).1
            rw [hO] at this
            exact absurd this (by decide)
    refine ⟨hc, ?_⟩
    unfold cmV
    rw [hc, fi_none hv0 hO]
    rfl
end Go.Proofs.YtcndkhgbgjnclaaGreatDoor.nn
/- The contracts of the real fbits: Widen, Narrow, Exact, FromInt. -/
namespace Go.Proofs.YtcndkhgbgjnclaaGreatDoor.nn
open Go.RowKit

end Go.Proofs.YtcndkhgbgjnclaaGreatDoor.nn
/- The contracts of the real fbits: Exact, FromInt, Int. -/
namespace Go.Proofs.YtcndkhgbgjnclaaGreatDoor.nn
open Go.RowKit

theorem xa_amount (x : Nat) (h : ex 64 x ≠ 2047) : xaO x = true ∧ xaS x = sg 64 x ∧ xaM x = aM 64 (ex 64 x) (fr 64 x) ∧ xaE x = aE 64 (ex 64 x) := by
  unfold xaO xaS xaM xaE aM aE
  rw [if_neg h, if_neg h, if_neg h, decide_eq_true h]
  refine ⟨rfl, rfl, ?_, ?_⟩
  · by_cases h0 : ex 64 x = 0
    · rw [if_pos h0, if_pos h0]
    · rw [if_neg h0, if_neg h0]
      rfl
  · by_cases h0 : ex 64 x = 0
    · rw [if_pos h0, if_pos h0]
      rfl
    · rw [if_neg h0, if_neg h0, show bia 64 = 1023 from rfl, show fb 64 = 52 from rfl]
      omega
theorem xa_none (x : Nat) (h : ex 64 x = 2047) : xaO x = false ∧ xaS x = false ∧ xaM x = 0 ∧ xaE x = 0 := by
  unfold xaO xaS xaM xaE
  rw [if_pos h, if_pos h, if_pos h, decide_eq_false (by simp [h])]
  exact ⟨rfl, rfl, rfl, rfl⟩
set_option maxRecDepth 100000 in
set_option maxHeartbeats 1000000 in
theorem fexact_any (x : Nat) (w : World) (hx : x < 18446744073709551616) : Calls Tryz.prog 17 #[.int .u64 (x : Int)] w (XaAns x w) := by
  unfold XaAns
  obtain ⟨c1, c2⟩ := cl5_inf (k := 64) (X := ex 64 x) (M := fr 64 x)
  have hw : ∀ W, Calls Tryz.prog 40 #[] W fun e w' => e = .returned (sv 64) ∧ Below W.heap.size W w' := widest_any
  have hc := fun W => class_any 64 x W k64 hx
  have hs := fun W => split_any 64 x W k64 hx
  have h2 := fr_lt (w := 64) (x := x)
  have h1 := ex_lt (w := 64) (x := x)
  have ha := fun W => amount_any 64 (ex 64 x) (fr 64 x) W k64 (by unfold onz; omega) h2
  have e0 : onz 64 = 2047 := by decide
  rw [e0] at c1
  rw [show clk 64 x = cl5 (xb 64) (ex 64 x) (fr 64 x) from rfl] at hc
  obtain ⟨C, hC⟩ : ∃ C, cl5 (xb 64) (ex 64 x) (fr 64 x) = C := ⟨_, rfl⟩
  rw [hC] at c1 c2 hc
  clear hC h1 h2 e0
  by_cases h : ex 64 x = 2047
  · obtain ⟨x1, x2, x3, x4⟩ := xa_none x h
    rw [x1, x2, x3, x4]
    have h34 : C = 3 ∨ C = 4 := by have := c1.2 h; omega
    clear x1 x2 x3 x4 c1 c2 h hs ha
    obtain ⟨K, hK⟩ : ∃ K, K = 64 := ⟨64, rfl⟩
    rw [← hK] at hc hw
    clear hK
    unfold sv at hc hw
    have HC := Lib.hid hc
    have HW := Lib.hid hw
    clear hc hw
    rcases h34 with rfl | rfl
    all_goals
      go_enter Tryz.func17, Tryz.ntmps17
      go_wp2_with fail
      with_reducible refine (HW.out _).mono ?_
      rintro e w1 ⟨rfl, hb⟩
      have H1 := Lib.hid hb
      clear hb
      have HB := Lib.hid (Bs.new w1 K 69)
      go_wp2_with fail
      with_reducible refine (HC.out _).mono ?_
      rintro e w2 ⟨rfl, hb⟩
      have H2 := Lib.hid (HB.out.on hb)
      clear hb
      go_wp2_with fail
      exact bodyPost_ret (v := .tuple #[.bool false, .int .u64 0, .int .i64 0, .bool false]) (by simp [results, Tryz.results17, go_sem]) rfl ⟨rfl, H1.out.trans (H2.out.b.mono H1.out.size)⟩
  · obtain ⟨x1, x2, x3, x4⟩ := xa_amount x h
    rw [x1, x2, x3, x4]
    have q1 : ((C : Int) == 3) = false := by simp; intro h3; exact h (c1.1 (by omega))
    have q2 : ((C : Int) == 4) = false := by simp; intro h3; exact h (c1.1 (by omega))
    clear x1 x2 x3 x4 c1 c2 h
    obtain ⟨m, hm⟩ : ∃ m, aM 64 (ex 64 x) (fr 64 x) = m := ⟨_, rfl⟩
    obtain ⟨e, he⟩ : ∃ e, aE 64 (ex 64 x) = e := ⟨_, rfl⟩
    rw [hm, he] at ha ⊢
    clear hm he
    obtain ⟨S, hS⟩ : ∃ S, sg 64 x = S := ⟨_, rfl⟩
    obtain ⟨X, hX⟩ : ∃ X, ex 64 x = X := ⟨_, rfl⟩
    obtain ⟨M, hM⟩ : ∃ M, fr 64 x = M := ⟨_, rfl⟩
    rw [hS, hX, hM] at hs
    rw [hX, hM] at ha
    rw [hS]
    clear hS hX hM
    obtain ⟨K, hK⟩ : ∃ K, K = 64 := ⟨64, rfl⟩
    rw [← hK] at hc hw hs ha
    clear hK
    unfold sv at hc hw hs ha
    have HC := Lib.hid hc
    have HW := Lib.hid hw
    have HS := Lib.hid hs
    have HA := Lib.hid ha
    clear hc hw hs ha
    go_enter Tryz.func17, Tryz.ntmps17
    go_wp2_with fail
    with_reducible refine (HW.out _).mono ?_
    rintro r1 w1 ⟨rfl, hb⟩
    have H1 := Lib.hid hb
    clear hb
    have HB := Lib.hid (Bs.new w1 K 69)
    go_wp2_with fail
    with_reducible refine (HC.out _).mono ?_
    rintro r1 w2 ⟨rfl, hb⟩
    have h2 := HB.out.on hb
    have hc2 := h2.all
    clear hb
    go_wp2_with fail
    with_reducible refine (HS.out _).mono ?_
    rintro r1 w3 ⟨rfl, hb⟩
    have h3 := h2.on hb
    have hc3 := h3.all
    clear hb hc2 h2
    go_wp2_with fail
    with_reducible refine (HA.out _).mono ?_
    rintro r1 w4 ⟨rfl, hb⟩
    have H4 := Lib.hid (h3.on hb)
    clear hb hc3 h3
    go_wp2_with fail
    exact bodyPost_ret (v := .tuple #[.bool S, .int .u64 (m : Int), .int .i64 e, .bool true]) (by simp [results, Tryz.results17, go_sem]) rfl ⟨rfl, H1.out.trans (H4.out.b.mono H1.out.size)⟩

/-! FromInt -/
theorem jv_least : jv true 1087 0 = 14118784831806504960 := by decide
end Go.Proofs.YtcndkhgbgjnclaaGreatDoor.nn
/- The real fdec: nearest. -/
namespace Go.Proofs.YtcndkhgbgjnclaaGreatDoor.nn
open Go.RowKit

/-- the bits of what is infinite -/
def inf : Nat := 2047 * h52
theorem inf_eq : inf = 9218868437227405312 := by decide
theorem cl_inf {x : Nat} (hx : x ≤ inf) : (x = inf → clC 64 x = 3) ∧ (x < inf → (clC 64 x : Int) ≠ 3) ∧ clC 64 x < 5 := by
  have e1 : clC 64 x = cls 64 (ex 64 x) (fr 64 x) := by unfold clC; rw [if_pos (fits64 x)]; rfl
  rw [inf_eq] at *
  have e2 : ex 64 x = x / 4503599627370496 % 2048 := rfl
  have e3 : fr 64 x = x % 4503599627370496 := rfl
  rw [e1]
  unfold cls
  rw [show (2 : Nat) ^ xb 64 - 1 = 2047 from rfl]
  refine ⟨fun h => ?_, fun h => ?_, ?_⟩
  · rw [if_pos (by omega), if_pos (by omega)]
  · rw [if_neg (by omega)]
    split
    · decide
    · split <;> decide
  · split
    · split <;> decide
    · split
      · decide
      · split <;> decide

theorem unit_of {X Y : Nat} {h u : Int} (hY : 0 < Y) (hh : HiIs X Y h) (hu : max (h - 52) (-1074) = u) : Unit X Y u := by
  rcases hh with ⟨h0, h1⟩ | ⟨_, h1, h2⟩
  · have hu' : u = -1074 := by omega
    refine ⟨by omega, .inl hu', fun g => ?_⟩
    unfold ge2 at g
    rw [h0, Nat.zero_mul] at g
    have := Nat.mul_pos hY (Nat.two_pow_pos (u + 53).toNat)
    omega
  · refine ⟨by omega, ?_, fun g => h2 (ge2_anti (by omega) g)⟩
    by_cases c : u = -1074
    · exact .inl c
    · exact .inr (by rw [show u + 52 = h by omega]; exact h1)
def neV (b : Nat) : Nat := if b < inf then b else 0
def NeAns (X Y : Nat) (w : World) (e : Ending) (w' : World) : Prop :=
  ∃ b, Near (X * 2 ^ e74) Y b ∧ e = .returned (.tuple #[.int .u64 (neV b : Int), .bool (decide (b < inf))]) ∧ Below w.heap.size w w'
theorem ne_yes {b : Nat} (h : b < inf) : neV b = b ∧ decide (b < inf) = true := ⟨if_pos h, decide_eq_true h⟩
theorem ne_no {b : Nat} (h : inf ≤ b) : neV b = 0 ∧ decide (b < inf) = false := ⟨if_neg (by omega), decide_eq_false (by omega)⟩

set_option maxRecDepth 100000 in
set_option maxHeartbeats 2000000 in
theorem nearest_any (v y : Value) (X Y : Nat) (w : World) (hv : N w v X) (hy : N w y Y) (hX : X < 2 ^ b20) (hY : Y < 2 ^ b20) (h0 : 0 < Y) :
    Calls Tryz.prog 38 #[v, y] w (NeAns X Y w) := by
  have HH := Lib.hid (highest_any v y X Y w hv hy hX hY h0)
  have HCl := Lib.hid (fun (b : Nat) (z : Int) (hz : z = (b : Int)) (hb : b < 18446744073709551616) W => by
    have := fclass_any 64 b W hb
    rw [← hz] at this
    exact this)
  have HV := Lib.hid (And.intro hv hy)
  have HX := Lib.hid (And.intro hX hY)
  clear hv hy hX hY
  go_enter Tryz.func38, Tryz.ntmps38
  go_wp2_with fail
  refine HH.out.mono ?_
  rintro e w1 ⟨h, rfl, hh1, hh2, hi, hb1⟩
  obtain ⟨u, hu⟩ : ∃ u, max (h - 52) (-1074) = u := ⟨_, rfl⟩
  have hU := unit_of h0 hi hu
  have HU := Lib.hid hU
  have HB1 := Lib.hid hb1
  have hlu := hU.least
  have hup : u ≤ 20001 := by omega
  obtain ⟨X', hX'⟩ : ∃ X', X' = X * 2 ^ (-u).toNat := ⟨_, rfl⟩
  obtain ⟨Y', hY'⟩ : ∃ Y', Y' = Y * 2 ^ u.toNat := ⟨_, rfl⟩
  obtain ⟨k, hk⟩ : ∃ k, (u + 1074).toNat = k := ⟨_, rfl⟩
  have k1 : u + 1074 = (k : Int) := by omega
  have HY0 : Hid (0 < Y') := Lib.hid (by rw [hY']; exact Nat.mul_pos h0 (Nat.two_pow_pos _))
  have key := fun up hq => near_unit h0 hU hX' hY' (up := up) hq
  rw [hk] at key
  obtain ⟨Q, hQ⟩ : ∃ Q, X' / Y' = Q := ⟨_, rfl⟩
  obtain ⟨R, hR⟩ : ∃ R, X' % Y' = R := ⟨_, rfl⟩
  have hRl : R < Y' := by rw [← hR]; exact Nat.mod_lt _ HY0.out
  rw [hQ, hR] at key
  obtain ⟨up, hup2⟩ : ∃ up, up = if Y' < 2 * R ∨ (2 * R = Y' ∧ Q % 2 = 1) then 1 else 0 := ⟨_, rfl⟩
  obtain ⟨q1, q2, near⟩ := key up hup2
  have hu01 : up ≤ 1 := by rw [hup2]; split <;> omega
  have HN := Lib.hid near
  clear key near hb1 hi hU
  by_cases hbig : 971 < u
  · have HE : Hid (inf ≤ k * h52 + (Q + up)) := Lib.hid (by
      have h52' : h52 = 4503599627370496 := rfl
      rw [inf_eq]
      rw [h52'] at q2 ⊢
      omega)
    clear q1 q2 hup2 hu01 hX' hY' hQ hR hRl hk k1
    go_wp2_with fail
    go_ret2
    refine ⟨_, HN.out, ?_, HB1.out⟩
    rw [(ne_no HE.out).1, (ne_no HE.out).2]
    rfl
  · have hXf : X * 2 ^ (-u).toNat < big := mul_fits (b := b20) HX.out.1 (by rw [b20_eq]; omega) (by rw [b131_eq, b20_eq]; omega)
    have hYf : Y * 2 ^ u.toNat < big := mul_fits (b := b20) HX.out.2 (by rw [b20_eq]; omega) (by rw [b131_eq, b20_eq]; omega)
    have hYf2 : Y' * 2 ^ 1 < big := by
      rw [hY', Nat.mul_assoc, ← Nat.pow_add]
      exact mul_fits (b := b20) HX.out.2 (by rw [b20_eq]; omega) (by rw [b131_eq, b20_eq]; omega)
    have hT := ftimesPower_any v y X Y (-u) w1 (HV.out.1.below HB1.out) (HV.out.2.below HB1.out) (by omega) (by omega) hXf (by rw [Int.neg_neg]; exact hYf)
    rw [Int.neg_neg, ← hX', ← hY'] at hT
    rw [← hX'] at hXf
    rw [← hY'] at hYf
    have HT := Lib.hid hT
    have HD := Lib.hid (fun W v1 u1 (h1 : N W v1 X') (h2 : N W u1 Y') => fdivide_any v1 u1 X' Y' W h1 h2 hXf hYf HY0.out)
    rw [hQ, hR] at HD
    have q1' : Q < 9007199254740992 := q1
    have HS := Lib.hid (fun W v1 (h1 : N W v1 Q) => fshort_any v1 Q W h1 (by omega))
    have HR2 := Lib.hid (fun W v1 (h1 : N W v1 R) => fshiftUp_any v1 R 1 W h1 (by omega) (by omega))
    have HC := Lib.hid (fun W v1 u1 (h1 : N W v1 (R * 2 ^ 1)) (h2 : N W u1 Y') => fcmp_any v1 u1 (R * 2 ^ 1) Y' W h1 h2)
    have hk2 : k ≤ 2045 := by omega
    obtain ⟨c, hc⟩ : ∃ c, cm (R * 2 ^ 1) Y' = c := ⟨_, rfl⟩
    have cases4 : (c = 1 ∧ up = 1) ∨ (c = 0 ∧ Q % 2 = 1 ∧ up = 1) ∨ (c = 0 ∧ Q % 2 = 0 ∧ up = 0) ∨ (c = -1 ∧ up = 0) := by
      rcases Nat.lt_trichotomy (R * 2 ^ 1) Y' with g | g | g
      · rw [cm_lt g] at hc
        rw [if_neg (by omega)] at hup2
        exact .inr (.inr (.inr ⟨hc.symm, hup2⟩))
      · rw [cm_eq g] at hc
        by_cases par : Q % 2 = 1
        · rw [if_pos (by omega)] at hup2
          exact .inr (.inl ⟨hc.symm, par, hup2⟩)
        · rw [if_neg (by omega)] at hup2
          exact .inr (.inr (.inl ⟨hc.symm, by omega, hup2⟩))
      · rw [cm_gt g] at hc
        rw [if_pos (by omega)] at hup2
        exact .inl ⟨hc.symm, hup2⟩
    rw [hc] at HC
    obtain ⟨b, hb⟩ : ∃ b, k * h52 + (Q + up) = b := ⟨_, rfl⟩
    rw [hb] at HN
    have hb2 : b = k * 4503599627370496 + (Q + up) := hb.symm
    have hb3 : b ≤ inf := by rw [inf_eq]; omega
    obtain ⟨ci, cl, c5⟩ := cl_inf hb3
    rw [inf_eq] at hb3
    clear q2 hup2 hX' hY' hQ hR hk hT hXf hYf hYf2 hRl hc hb q1
    have fin : Hid ((b = inf ∧ clC 64 b = 3) ∨ (b < inf ∧ (clC 64 b : Int) ≠ 3)) := Lib.hid (by
      rcases Nat.lt_or_ge b inf with g | g
      · exact .inr ⟨g, cl g⟩
      · have : b = inf := by rw [inf_eq] at g ⊢; omega
        exact .inl ⟨this, ci this⟩)
    have HK : Hid (∀ z : Int, z = (b : Int) → ∀ W, Calls Tryz.prog 14 #[.int .i64 64, .int .u64 z] W (ClAns 64 b W)) := Lib.hid (fun z hz W => HCl.out b z hz (by omega) W)
    clear ci cl HCl
    obtain ⟨C, hC⟩ : ∃ C, clC 64 b = C := ⟨_, rfl⟩
    unfold ClAns at HK
    rw [hC] at fin HK c5
    clear hC
    have k2 : u - -1074 = (k : Int) := by omega
    rcases cases4 with ⟨rfl, rfl⟩ | ⟨rfl, par, rfl⟩ | ⟨rfl, par, rfl⟩ | ⟨rfl, rfl⟩
    all_goals
      go_wp2_with fail
      refine HT.out.mono ?_
      rintro e w2 ⟨v2, y2, rfl, hN1, hN2, hb1⟩
      have HB2 := Lib.hid (HB1.out.trans (hb1.mono HB1.out.size))
      have HN2 := Lib.hid (And.intro hN1 hN2)
      clear hb1 hN1 hN2
      go_wp2_with fail
      refine (HD.out _ _ _ HN2.out.1 HN2.out.2).mono ?_
      rintro e w3 ⟨v3, y3, rfl, hN1, hN2, hb1⟩
      have HB3 := Lib.hid (HB2.out.trans (hb1.mono HB2.out.size))
      have HN3 := Lib.hid (And.intro (HN2.out.2.below hb1) (And.intro hN1 hN2))
      clear hb1 hN1 hN2
      go_wp2_with fail
      refine (HS.out _ _ HN3.out.2.1).mono ?_
      rintro e w' ⟨rfl, rfl⟩
      go_wp2_with fail
      refine (HR2.out _ _ HN3.out.2.2).mono ?_
      rintro e w4 ⟨v4, rfl, hN1, hb1⟩
      have HB4 := Lib.hid (HB3.out.trans (hb1.mono HB3.out.size))
      have HN4 := Lib.hid (And.intro (HN3.out.1.below hb1) hN1)
      clear hb1 hN1
      go_wp2_with fail
      refine (HC.out _ _ _ HN4.out.2 HN4.out.1).mono ?_
      rintro e w' ⟨rfl, j, rfl⟩
      go_wp2_with fail
      refine (HK.out _ (by omega) _).mono ?_
      rintro e w5 ⟨rfl, hb1⟩
      have HB5 := Lib.hid ((drew_below HB4.out j).trans (hb1.mono (by have := HB4.out.size; simp; omega)))
      clear hb1
      rcases fin.out with ⟨f1, f2⟩ | ⟨f1, f2⟩
      · have HE := Lib.hid (ne_no (Nat.le_of_eq f1.symm))
        clear f1
        obtain rfl : C = 3 := f2
        go_wp2_with fail
        go_ret2
        refine ⟨b, HN.out, ?_, HB5.out⟩
        rw [HE.out.1, HE.out.2]
        rfl
      · have HE := Lib.hid (ne_yes f1)
        have hne : ((C : Int) == 3) = false := by rw [beq_eq_false_iff_ne]; exact f2
        clear f1 f2
        go_wp2_with fail
        go_ret2
        refine ⟨b, HN.out, ?_, HB5.out⟩
        rw [HE.out.1, HE.out.2]
        exact ret_ub (by omega) rfl
end Go.Proofs.YtcndkhgbgjnclaaGreatDoor.nn
/- Plain facts: each number has a nearest float. No program is named here. -/
namespace Go.Proofs.YtcndkhgbgjnclaaGreatDoor.nn

theorem near_ex (X Y : Nat) (hY : 0 < Y) : ∃ b, Near X Y b := by
  obtain ⟨B, hB⟩ : ∃ B, 2 * h52 * Y = B := ⟨_, rfl⟩
  have h0 : 0 < h52 := by decide
  have hB0 : 0 < B := by rw [← hB]; exact Nat.mul_pos (by omega) hY
  have step : ∀ n, X < B * 2 ^ n → ∃ k, X < B * 2 ^ k ∧ (k = 0 ∨ B * 2 ^ (k - 1) ≤ X) := by
    intro n
    induction n with
    | zero => exact fun h => ⟨0, h, .inl rfl⟩
    | succ n ih =>
      intro h
      rcases Nat.lt_or_ge X (B * 2 ^ n) with g | g
      · exact ih g
      · exact ⟨n + 1, h, .inr (by rw [Nat.add_sub_cancel]; exact g)⟩
  obtain ⟨k, h1, h2⟩ := step X (by
    have h3 := Nat.lt_two_pow_self (n := X)
    have h4 : 1 * 2 ^ X ≤ B * 2 ^ X := Nat.mul_le_mul_right _ hB0
    omega)
  have hD : 0 < Y * 2 ^ k := Nat.mul_pos hY (Nat.two_pow_pos k)
  have hdm := Nat.div_add_mod X (Y * 2 ^ k)
  refine ⟨_, near_of (q := X / (Y * 2 ^ k)) (r := X % (Y * 2 ^ k)) (k := k) (up := _) hY (by rw [Nat.mul_comm]; exact hdm.symm) (Nat.mod_lt _ hD) ?_ ?_ rfl⟩
  · rw [Nat.div_lt_iff_lt_mul hD, ← Nat.mul_assoc, hB]
    exact h1
  · rcases h2 with h2 | h2
    · exact .inl h2
    · rcases Nat.eq_zero_or_pos k with h3 | h3
      · exact .inl h3
      · right
        rw [Nat.le_div_iff_mul_le hD]
        have e : B * 2 ^ (k - 1) = h52 * (Y * 2 ^ k) := by
          rw [← hB, show k = k - 1 + 1 by omega, Nat.add_sub_cancel, Nat.pow_succ, ← Nat.mul_assoc, ← Nat.mul_assoc, Nat.mul_right_comm 2 h52 Y, Nat.mul_comm (2 * Y) h52, Nat.mul_comm 2 Y, ← Nat.mul_assoc, Nat.mul_right_comm]
        rw [← e]
        exact h2
theorem ten_two (n : Nat) : 10 ^ n ≤ 2 ^ (4 * n) := by
  rw [Nat.pow_mul]
  exact Nat.pow_le_pow_left (by decide) n
end Go.Proofs.YtcndkhgbgjnclaaGreatDoor.nn
/- The real fdec: Round. -/
namespace Go.Proofs.YtcndkhgbgjnclaaGreatDoor.nn
open Go.RowKit

/-- the number that digits with an exponent are, over another -/
def rX (s : ByteArray) (z : Int) : Nat := dv (bt s) s.size * 10 ^ z.toNat
def rY (z : Int) : Nat := 10 ^ (-z).toNat
theorem rY_pos (z : Int) : 0 < rY z := Nat.pow_pos (by decide)
/-- b is the nearest -/
def RN (s : ByteArray) (z : Int) (b : Nat) : Prop := Near (rX s z * 2 ^ e74) (rY z) b
theorem RN_ex (s : ByteArray) (z : Int) : ∃ b, RN s z b := near_ex _ _ (rY_pos z)
def roV (neg : Bool) (b : Nat) : Nat := if b < inf then sB neg + b else 0
def roE (b : Nat) : Nat := if b < inf then 0 else 8
def RoAns (V E : Nat) (w : World) (e : Ending) (w' : World) : Prop := e = .returned (.tuple #[.int .u64 (V : Int), .int .i64 (E : Int)]) ∧ Below w.heap.size w w'
theorem rf_zero {s : ByteArray} {z : Int} (h : rfE s z = 0) : s.size ≤ 800 ∧ 0 < s.size ∧ dgs (bt s) s.size = true ∧ -2000 ≤ z ∧ z ≤ 2000 := by
  unfold rfE at h
  by_cases h1 : 800 < s.size
  · rw [if_pos h1] at h; omega
  · rw [if_neg h1] at h
    cases h2 : (dgs (bt s) s.size && decide (0 < s.size)) with
    | false => rw [h2, if_pos rfl] at h; omega
    | true =>
      rw [h2, if_neg (by decide)] at h
      rw [Bool.and_eq_true, decide_eq_true_eq] at h2
      split at h
      · omega
      · exact ⟨by omega, h2.2, h2.1, by omega, by omega⟩
theorem rf_le (s : ByteArray) (z : Int) : rfE s z < 8 := by
  unfold rfE
  split
  · decide
  · split
    · decide
    · split <;> decide
theorem rX_fits {s : ByteArray} {z : Int} (h : rfE s z = 0) : rX s z < 2 ^ b20 ∧ rY z < 2 ^ b20 := by
  obtain ⟨h1, h2, h3, h4, h5⟩ := rf_zero h
  have e : ∀ n, n ≤ 2800 → 10 ^ n < 2 ^ b20 := fun n hn => Nat.lt_of_le_of_lt (ten_two n) ((Nat.pow_lt_pow_iff_right (by decide)).2 (by rw [b20_eq]; omega))
  constructor
  · unfold rX
    have h6 := dv_lt h3
    have h7 : dv (bt s) s.size * 10 ^ z.toNat < 10 ^ s.size * 10 ^ z.toNat := Nat.mul_lt_mul_of_pos_right h6 (Nat.pow_pos (by decide))
    rw [← Nat.pow_add] at h7
    exact Nat.lt_trans h7 (e _ (by omega))
  · exact e _ (by omega)

set_option maxRecDepth 100000 in
set_option maxHeartbeats 400000 in
theorem round_no (neg : Bool) (s : ByteArray) (z : Int) (w : World) (hs : s.size ≤ maxLen) (hz1 : -9223372036854775808 ≤ z) (hz2 : z ≤ 9223372036854775807) (hr : rfE s z ≠ 0) :
    Calls Tryz.prog 15 #[.bool neg, .string s, .int .i64 z] w (RoAns 0 (rfE s z) w) := by
  have HR := Lib.hid (refuse_any s z w hs hz1 hz2)
  have HB := Lib.hid (Below.refl w.heap.size w)
  obtain ⟨r, hrr⟩ : ∃ r, rfE s z = r := ⟨_, rfl⟩
  rw [hrr] at hr HR
  rw [hrr]
  have k0 : ((r : Int) != 0) = true := by simp; omega
  clear hrr hr hs
  go_enter Tryz.func15, Tryz.ntmps15
  go_wp2_with fail
  refine HR.out.mono ?_
  rintro e w' ⟨rfl, rfl⟩
  go_wp2_with fail
  go_ret2
  exact ⟨rfl, HB.out⟩

set_option maxRecDepth 100000 in
set_option maxHeartbeats 400000 in
theorem round_yes (neg : Bool) (s : ByteArray) (z : Int) (b : Nat) (w : World) (hr : rfE s z = 0) (hb : RN s z b) :
    Calls Tryz.prog 15 #[.bool neg, .string s, .int .i64 z] w (RoAns (roV neg b) (roE b) w) := by
  obtain ⟨h1, h2, h3, h4, h5⟩ := rf_zero hr
  obtain ⟨f1, f2⟩ := rX_fits hr
  have HR := Lib.hid (refuse_any s z w (by unfold maxLen; omega) (by omega) (by omega))
  have HA := Lib.hid (ratio_any s z w h3 h2 (by omega) (by omega) (by omega))
  have HN := Lib.hid (fun W v u (hv : N W v (rX s z)) (hu : N W u (rY z)) => nearest_any v u (rX s z) (rY z) W hv hu f1 f2 (rY_pos z))
  have HS := Lib.hid (fun m W (hm : m < 9223372036854775808) => fsigned_any neg m W hm)
  rw [hr] at HR
  have HU : Hid (∀ b', Near (rX s z * 2 ^ e74) (rY z) b' → b' = b) := Lib.hid fun b' h => near_uniq (rY_pos z) h hb
  have hA : rX s z = dv (bt s) s.size * 10 ^ z.toNat := rfl
  have hY : rY z = 10 ^ (-z).toNat := rfl
  rw [← hA, ← hY] at HA
  have HB := Lib.hid (Below.refl w.heap.size w)
  clear hb hr h3 f1 f2 hA hY
  obtain ⟨P, hP⟩ : ∃ P, rX s z = P := ⟨_, rfl⟩
  obtain ⟨Q, hQ⟩ : ∃ Q, rY z = Q := ⟨_, rfl⟩
  rw [hP, hQ] at HA HN HU
  clear hP hQ
  by_cases hi : b < inf
  · have e1 : roV neg b = sB neg + b := if_pos hi
    have e2 : roE b = 0 := if_pos hi
    obtain ⟨n1, n2⟩ := ne_yes hi
    rw [e1, e2]
    have hi2 := hi
    rw [inf_eq] at hi2
    have H12 := Lib.hid (And.intro n1 n2)
    clear e1 e2 n1 n2 hi
    go_enter Tryz.func15, Tryz.ntmps15
    go_wp2_with fail
    refine HR.out.mono ?_
    rintro e w' ⟨rfl, rfl⟩
    go_wp2_with fail
    refine HA.out.mono ?_
    rintro e w1 ⟨v, u, rfl, hv, hu, hb1⟩
    have HV := Lib.hid (And.intro hv hu)
    have HB1 := Lib.hid hb1
    clear hv hu hb1
    go_wp2_with fail
    refine (HN.out _ _ _ HV.out.1 HV.out.2).mono ?_
    rintro e w2 ⟨b', hn, rfl, hb2⟩
    obtain rfl := HU.out b' hn
    have HB2 := Lib.hid (HB1.out.trans (hb2.mono HB1.out.size))
    rw [H12.out.1, H12.out.2]
    clear hn hb2
    go_wp2_with fail
    refine (HS.out _ _ (by omega)).mono ?_
    rintro e w' ⟨rfl, rfl⟩
    go_wp2_with fail
    go_ret2
    exact ⟨rfl, HB2.out⟩
  · have e1 : roV neg b = 0 := if_neg hi
    have e2 : roE b = 8 := if_neg hi
    obtain ⟨n1, n2⟩ := ne_no (Nat.le_of_not_lt hi)
    rw [e1, e2]
    have H12 := Lib.hid (And.intro n1 n2)
    clear e1 e2 n1 n2 hi
    go_enter Tryz.func15, Tryz.ntmps15
    go_wp2_with fail
    refine HR.out.mono ?_
    rintro e w' ⟨rfl, rfl⟩
    go_wp2_with fail
    refine HA.out.mono ?_
    rintro e w1 ⟨v, u, rfl, hv, hu, hb1⟩
    have HV := Lib.hid (And.intro hv hu)
    have HB1 := Lib.hid hb1
    clear hv hu hb1
    go_wp2_with fail
    refine (HN.out _ _ _ HV.out.1 HV.out.2).mono ?_
    rintro e w2 ⟨b', hn, rfl, hb2⟩
    obtain rfl := HU.out b' hn
    have HB2 := Lib.hid (HB1.out.trans (hb2.mono HB1.out.size))
    rw [H12.out.1, H12.out.2]
    clear hn hb2
    go_wp2_with fail
    go_ret2
    exact ⟨rfl, HB2.out⟩

theorem two_add {a b c : Nat} (h : c = a + b) : (2 : Nat) ^ c = 2 ^ a * 2 ^ b := by rw [h, Nat.pow_add]
/-- the text 1 with the exponent 0 -/
theorem one_near : RN ⟨#[49]⟩ 0 4607182418800017408 := by
  have e1 : rX ⟨#[49]⟩ 0 * 2 ^ e74 = vf 4607182418800017408 * rY 0 := by
    obtain ⟨j, hj⟩ : ∃ j, j = 1022 := ⟨_, rfl⟩
    have hv : vf (j * h52 + h52) = h52 * 2 ^ j := vf_at (by omega) (.inr (Nat.le_refl _))
    have hx : rX ⟨#[49]⟩ 0 = 1 := by decide
    have hy : rY 0 = 1 := by decide
    have hb : 4607182418800017408 = j * h52 + h52 := by rw [hj]; decide
    rw [hx, hy, hb, hv, Nat.one_mul, Nat.mul_one, ← h52_eq]
    exact two_add (by rw [hj]; rfl)
  unfold RN
  rw [e1]
  exact near_self _ _ (rY_pos 0)
set_option maxRecDepth 100000 in
set_option maxHeartbeats 400000 in
theorem awake_any6 (w : World) : Calls Tryz.prog 11 #[] w fun e w' => e = .returned (.bool true) ∧ Below w.heap.size w w' := by
  have HR := Lib.hid (round_yes false ⟨#[49]⟩ 0 _ w (by decide) one_near)
  rw [show roV false 4607182418800017408 = 4607182418800017408 by decide, show roE 4607182418800017408 = 0 by decide] at HR
  go_enter Tryz.func11, Tryz.ntmps11
  go_wp2_with fail
  refine HR.out.mono ?_
  rintro e w1 ⟨rfl, hb1⟩
  have HB1 := Lib.hid hb1
  clear hb1
  go_wp2_with fail
  go_ret
  exact ⟨rfl, HB1.out⟩
end Go.Proofs.YtcndkhgbgjnclaaGreatDoor.nn
/- The real fdec: decimals, long, times, and the quarters in units (newSpan's own function). -/
namespace Go.Proofs.YtcndkhgbgjnclaaGreatDoor.nn
open Go.RowKit

/-- the exponent of the greatest power of 10 that is not above 2^n -/
def dcm (n : Int) : Int := n * 78913 / 262144
set_option maxRecDepth 100000 in
theorem decimals_any (n : Int) (w : World) (h1 : -1100 ≤ n) (h2 : n ≤ 1100) :
    Calls Tryz.prog 43 #[.int .i64 n] w fun e w' => e = .returned (.int .i64 (dcm n)) ∧ w = w' := by
  go_enter Tryz.func43, Tryz.ntmps43
  go_wp2
  go_ret
  exact ⟨ret_int (by unfold dcm; first | rfl | omega | simp), rfl⟩

/-- a number in two limbs -/
def L2 (w : World) (v : Value) (X : Nat) : Prop := ∃ g, v = .slice (some ⟨g, 0, none⟩) 2 2 ∧ Rd w .u32 (some ⟨g, 0, none⟩) 2 (fun i => if i = 0 then X % 4294967296 else X / 4294967296) ∧ X < 18446744073709551616
theorem L2.below {w w' : World} {v : Value} {X : Nat} (h : L2 w v X) (hb : Below w.heap.size w w') : L2 w' v X := by
  obtain ⟨g, rfl, h1, h2⟩ := h
  exact ⟨g, rfl, h1.below hb, h2⟩
set_option maxRecDepth 100000 in
theorem long2_any (X : Nat) (w : World) (hX : X < 18446744073709551616) :
    Calls Tryz.prog 49 #[.int .u64 (X : Int)] w fun e w' => ∃ v, e = .returned v ∧ L2 w' v X ∧ Below w.heap.size w w' := by
  have e1 : (X : Int) % 4294967296 = ((X % 4294967296 : Nat) : Int) := by omega
  have e2 : (X : Int) / 4294967296 = ((X / 4294967296 : Nat) : Int) := by omega
  have hl : X / 4294967296 < 4294967296 := by omega
  have hr : Hid (∀ T, Rd (w.alloc (.cells #[.int .u32 ((X % 4294967296 : Nat) : Int), .int .u32 ((X / 4294967296 : Nat) : Int)] T)) .u32 (some ⟨w.heap.size, 0, none⟩) 2 (fun i => if i = 0 then X % 4294967296 else X / 4294967296)) := Lib.hid fun T _ => ⟨w.heap.size, 0, rfl, by rw [hsz]; omega, fun i hi => by
    rw [World.cell?_alloc_at _ _ _ _ rfl]
    rcases (by omega : i = 0 ∨ i = 1) with rfl | rfl <;> rfl⟩
  obtain ⟨lo, hlo⟩ : ∃ lo, X % 4294967296 = lo := ⟨_, rfl⟩
  obtain ⟨hi, hhi⟩ : ∃ hi, X / 4294967296 = hi := ⟨_, rfl⟩
  have HF : Hid ((fun i => if i = 0 then lo else hi) = (fun i => if i = 0 then X % 4294967296 else X / 4294967296)) := Lib.hid (by rw [hlo, hhi])
  rw [hlo] at e1
  rw [hhi] at e2 hl
  rw [hlo, hhi] at hr
  have hlb : lo < 4294967296 := by omega
  clear hlo hhi
  go_enter Tryz.func49, Tryz.ntmps49
  go_wp2
  go_ret
  exact ⟨_, rfl, ⟨_, rfl, by rw [← HF.out]; exact hr.out _, hX⟩, (Below.refl _ _).alloc (Nat.le_refl _) _⟩
theorem L2.sm {X : Nat} (hX : X < 18446744073709551616) : Lt (2 ^ 32) (fun i => if i = 0 then X % 4294967296 else X / 4294967296) 2 ∧ nn.sm (2 ^ 32) (fun i => if i = 0 then X % 4294967296 else X / 4294967296) 2 = X := by
  refine ⟨fun i hi => ?_, ?_⟩
  · rcases (by omega : i = 0 ∨ i = 1) with rfl | rfl
    · simp; omega
    · simp; omega
  · simp [nn.sm]
    omega
set_option maxRecDepth 100000 in
set_option maxHeartbeats 400000 in
theorem ftimes_any (v u : Value) (X Y : Nat) (w : World) (h : L2 w v X) (hu : N w u Y) (hXY : X * Y < big) (hY : Y < big) :
    Calls Tryz.prog 48 #[v, u] w (NA w (X * Y)) := by
  obtain ⟨g, rfl, h1, h2⟩ := h
  obtain ⟨B, m, d, g2, rfl, hN⟩ := hu
  obtain ⟨l1, l2⟩ := L2.sm h2
  have hm := hN.short hY
  have t1 := tr_le (fun i => if i = 0 then X % 4294967296 else X / 4294967296) 2
  have t2 := tr_le g2 m
  have htl : tl2 2 m (fun i => if i = 0 then X % 4294967296 else X / 4294967296) g2 = false := by unfold tl2; simp only [Bool.or_eq_false_iff, decide_eq_false_iff_not]; omega
  have hc := mul_any (some ⟨g, 0, none⟩) B 2 m 2 d _ g2 w h1 hN.rd l1 hN.lt (Nat.le_refl _) hN.le (by simp [maxLen]) hN.cap
  have e1 : mulR 2 m (fun i => if i = 0 then X % 4294967296 else X / 4294967296) g2 = X * Y := by unfold mulR; rw [htl, if_neg Bool.false_ne_true, l2, hN.val, fitR_lt hXY]
  have e2 : mulE 2 m (fun i => if i = 0 then X % 4294967296 else X / 4294967296) g2 = 0 := by unfold mulE; rw [htl, if_neg Bool.false_ne_true, l2, hN.val, fitE_lt hXY]
  rw [e1, e2] at hc
  obtain ⟨R, hR⟩ : ∃ R, X * Y = R := ⟨_, rfl⟩
  rw [hR] at hc
  rw [hR]
  have HC := Lib.hid hc
  clear hc e1 e2 htl hR hXY hY l1 l2 h1 h2 hN t1 t2 hm
  go_enter Tryz.func48, Tryz.ntmps48
  go_wp2_with fail
  refine HC.out.mono ?_
  rintro e w1 ⟨A1, n1, c1, f1, rfl, hN, hb1⟩
  go_wp2_with fail
  go_ret
  exact ⟨_, rfl, ⟨A1, n1, c1, f1, rfl, hN⟩, hb1⟩
end Go.Proofs.YtcndkhgbgjnclaaGreatDoor.nn
/- The real fdec: the quarters of a float in units of a power of ten (newSpan's own function). -/
namespace Go.Proofs.YtcndkhgbgjnclaaGreatDoor.nn
open Go.RowKit

/-- the variables over (block g1) and under (block g2) hold the numbers X and Y -/
structure Sv (w : World) (g1 g2 : Nat) (v u : Value) (X Y : Nat) (W : World) : Prop where
  c1 : W.cell? ⟨g1, 0, none⟩ = some v
  c2 : W.cell? ⟨g2, 0, none⟩ = some u
  n1 : N W v X
  n2 : N W u Y
  b : Below w.heap.size w W
  z : g1 < W.heap.size ∧ g2 < W.heap.size
theorem Sv.on {w W W' : World} {g1 g2 : Nat} {v u : Value} {X Y : Nat} (h : Sv w g1 g2 v u X Y W) (hB : Below W.heap.size W W') : Sv w g1 g2 v u X Y W' :=
  ⟨(hB.cell (p := ⟨_, _, none⟩) h.z.1).trans h.c1, (hB.cell (p := ⟨_, _, none⟩) h.z.2).trans h.c2, h.n1.below hB, h.n2.below hB, h.b.trans (hB.mono h.b.size), Nat.lt_of_lt_of_le h.z.1 hB.size, Nat.lt_of_lt_of_le h.z.2 hB.size⟩
theorem Sv.drew {w W : World} {g1 g2 : Nat} {v u : Value} {X Y : Nat} (h : Sv w g1 g2 v u X Y W) : Sv w g1 g2 v u X Y W.drew := h.on (Below.drew (Below.refl _ _))
theorem Sv.all {w W : World} {g1 g2 : Nat} {v u : Value} {X Y : Nat} (h : Sv w g1 g2 v u X Y W) : W.cell? ⟨g1, 0, none⟩ = some v ∧ W.cell? ⟨g2, 0, none⟩ = some u ∧ Sv w g1 g2 v u X Y W := ⟨h.c1, h.c2, h⟩
theorem bl_pos {R : Nat} : (0 < bl R) ↔ 0 < R := by
  rcases Nat.eq_zero_or_pos R with h | h
  · subst h; rw [bl_zero]
  · exact ⟨fun _ => h, fun _ => (bl_ge (by omega)).2⟩
set_option maxRecDepth 100000 in
set_option maxHeartbeats 2000000 in
theorem units_any (w0 : World) (g1 g2 : Nat) (v u : Value) (X Y q : Nat) (w : World) (h : Sv w0 g1 g2 v u X Y w) (hq : q < 18446744073709551616) (hX : q * X < big) (hX1 : X < big) (hY : Y < big) (h0 : 0 < Y) (hQ : q * X / Y < 18446744073709551616) :
    Calls Tryz.prog 46 #[.int .u64 (q : Int), .pointer (some ⟨g1, 0, none⟩), .pointer (some ⟨g2, 0, none⟩)] w
      fun e w' => e = .returned (.tuple #[.int .u64 ((q * X / Y : Nat) : Int), .bool (decide (0 < q * X % Y))]) ∧ Sv w0 g1 g2 v u X Y w' := by
  have HX := Lib.hid (fun W (h : Sv w0 g1 g2 v u X Y W) => h.all)
  have HL := Lib.hid (fun W (h : Sv w0 g1 g2 v u X Y W) => (long2_any q W hq).mono fun e w' ⟨t, he, hl, hb⟩ => (⟨t, he, hl, h.on hb⟩ : ∃ t, e = Ending.returned t ∧ L2 w' t q ∧ Sv w0 g1 g2 v u X Y w'))
  have HT := Lib.hid (fun W t (hl : L2 W t q) (h : Sv w0 g1 g2 v u X Y W) => (ftimes_any t v q X W hl h.n1 hX hX1).mono fun e w' ⟨t2, he, hl, hb⟩ => (⟨t2, he, hl, h.on hb⟩ : ∃ t2, e = Ending.returned t2 ∧ N w' t2 (q * X) ∧ Sv w0 g1 g2 v u X Y w'))
  have HD := Lib.hid (fun W t (hl : N W t (q * X)) (h : Sv w0 g1 g2 v u X Y W) => (fdivide_any t u (q * X) Y W hl h.n2 hX hY h0).mono fun e w' ⟨t2, t3, he, hl, hl2, hb⟩ => (⟨t2, t3, he, hl, hl2, h.on hb⟩ : ∃ t2 t3, e = Ending.returned (.tuple #[t2, t3]) ∧ N w' t2 (q * X / Y) ∧ N w' t3 (q * X % Y) ∧ Sv w0 g1 g2 v u X Y w'))
  have hR : q * X % Y < big := Nat.lt_of_le_of_lt (Nat.mod_le _ _) hX
  obtain ⟨Q, hQQ⟩ : ∃ Q, q * X / Y = Q := ⟨_, rfl⟩
  obtain ⟨R, hRR⟩ : ∃ R, q * X % Y = R := ⟨_, rfl⟩
  obtain ⟨P, hPP⟩ : ∃ P, q * X = P := ⟨_, rfl⟩
  rw [hQQ, hRR] at HD
  rw [hPP] at HD HT
  rw [hQQ] at hQ
  rw [hRR] at hR
  rw [hQQ, hRR]
  have HS := Lib.hid (fun W t (hl : N W t Q) => fshort_any t Q W hl hQ)
  have HBi := Lib.hid (fun W t (hl : N W t R) => fbits_any t R W hl hR)
  have HK : Hid (decide (0 < bl R) = decide (0 < R)) := Lib.hid (by
    have := bl_pos (R := R)
    by_cases c : 0 < R
    · rw [decide_eq_true c, decide_eq_true (this.2 c)]
    · rw [decide_eq_false c, decide_eq_false (fun g => c (this.1 g))])
  have hk0 := h.drew
  have hx0 := HX.out _ hk0
  have hblR : bl R ≤ 131072 := by
    rw [big_two] at hR
    have := bl_le hR
    rw [b131_eq] at this
    exact this
  obtain ⟨B, hB⟩ : ∃ B, bl R = B := ⟨_, rfl⟩
  rw [hB] at HK HBi hblR
  clear hQQ hRR hPP hX hX1 hY h0 hQ hR hB h
  go_enter Tryz.func46, Tryz.ntmps46
  go_wp2_with fail
  go_region_held3 (fun W => W.cell? ⟨g1, 0, none⟩ = some v ∧ W.cell? ⟨g2, 0, none⟩ = some u ∧ Sv w0 g1 g2 v u X Y W) (first | exact HX.out _ ‹_› | exact HX.out _ (And.right ‹_›))
    (first
      | (go_at_call 49; refine (HL.out _ ?_).mono ?_; (first | assumption | exact And.right ‹_›); rintro e w' ⟨t1, rfl, l1, hk1⟩)
      | (go_at_call 48; refine (HT.out _ _ ?_ ?_).mono ?_; assumption; (first | assumption | exact And.right ‹_›); rintro e w' ⟨t2, rfl, l2, hk2⟩)
      | (go_at_call 47; refine (HD.out _ _ ?_ ?_).mono ?_; assumption; (first | assumption | exact And.right ‹_›); rintro e w' ⟨t3, t4, rfl, l3, l4, hk3⟩))
  clear hx0
  have L3 := Lib.hid l3
  have L4 := Lib.hid l4
  have K3 := Lib.hid hk3
  clear l1 l2 l3 l4 hk1 hk2 hk3
  go_wp2_with fail
  refine (HS.out _ _ L3.out).mono ?_
  rintro e w' ⟨rfl, rfl⟩
  go_wp2_with fail
  refine (HBi.out _ _ L4.out).mono ?_
  rintro e w' ⟨rfl, rfl⟩
  go_wp2_with fail
  go_ret2
  exact ⟨congrArg (fun b => Ending.returned (.tuple #[.int .u64 (Q : Int), .bool b])) HK.out, K3.out⟩
end Go.Proofs.YtcndkhgbgjnclaaGreatDoor.nn
/- The real fdec: isUpper and fewest. -/
namespace Go.Proofs.YtcndkhgbgjnclaaGreatDoor.nn
open Go.RowKit

/-- a span as a value -/
def spV (A : Nat) (mo : Bool) (F L : Nat) (p : Int) : Value := .agg #[.int .u64 (A : Int), .bool mo, .int .u64 (F : Int), .int .u64 (L : Int), .int .i64 p]
/-- is the upper one to be taken -/
def iu (A : Nat) (mo : Bool) (lo P : Nat) : Bool := if A - lo = lo + P - A then (if mo then true else decide (lo / P % 2 ≠ 0)) else decide (lo + P - A < A - lo)
/-- what is found at a step -/
def cd (A : Nat) (mo : Bool) (F L P : Nat) : Option Nat :=
  if A / P * P + P ≤ L ∧ (A / P * P < F ∨ iu A mo (A / P * P) P = true) then some (A / P * P + P) else if F ≤ A / P * P then some (A / P * P) else none
def fws (A : Nat) (mo : Bool) (F L : Nat) : Nat → Nat
  | 0 => 0
  | j + 1 => match cd A mo F L (10 ^ (j + 1)) with | some x => x | none => fws A mo F L j
def j0 (A : Nat) : Nat := if 1000000000000000000 ≤ A then 18 else 17

set_option maxRecDepth 100000 in
set_option maxHeartbeats 1000000 in
theorem isUpper_any (A : Nat) (mo : Bool) (F L : Nat) (p : Int) (lo P : Nat) (w : World) (h1 : lo ≤ A) (h2 : A < lo + P) (hP : 0 < P) (hb : lo + P < 9223372036854775808) :
    Calls Tryz.prog 53 #[spV A mo F L p, .int .u64 (lo : Int), .int .u64 (P : Int)] w fun e w' => e = .returned (.bool (iu A mo lo P)) ∧ Below w.heap.size w w' := by
  unfold spV
  have HB := Lib.hid (fun o => (Below.refl w.heap.size w).alloc (Nat.le_refl _) o)
  have e1 : (A : Int) - (lo : Int) = ((A - lo : Nat) : Int) := by omega
  have e2 : (lo : Int) + (P : Int) - (A : Int) = ((lo + P - A : Nat) : Int) := by omega
  have eq1 : (lo : Int) / (P : Int) = ((lo / P : Nat) : Int) := rfl
  obtain ⟨R, hR⟩ : ∃ R, iu A mo lo P = R := ⟨_, rfl⟩
  have HR := Lib.hid hR
  rw [hR]
  unfold iu at hR
  obtain ⟨x, hx⟩ : ∃ x, A - lo = x := ⟨_, rfl⟩
  obtain ⟨y, hy⟩ : ∃ y, lo + P - A = y := ⟨_, rfl⟩
  obtain ⟨q, hq⟩ : ∃ q, lo / P = q := ⟨_, rfl⟩
  rw [hx, hy, hq] at hR
  rw [hx] at e1
  rw [hy] at e2
  rw [hq] at eq1
  have hxb : x < 9223372036854775808 := by omega
  have hyb : y < 9223372036854775808 := by omega
  have hqb : q < 9223372036854775808 := by rw [← hq]; exact Nat.lt_of_le_of_lt (Nat.div_le_self _ _) (by omega)
  have HXY := Lib.hid (And.intro hx (And.intro hy hq))
  clear hx hy hq
  by_cases c : x = y
  · rw [if_pos c] at hR
    subst c
    cases mo with
    | true =>
      rw [if_pos rfl] at hR
      subst hR
      go_enter Tryz.func53, Tryz.ntmps53
      go_wp2_with fail
      go_quiet (fail)
      go_wp2_with fail
      go_ret
      exact ⟨rfl, drew_below (HB.out _) _⟩
    | false =>
      rw [if_neg (by decide)] at hR
      by_cases par : q % 2 = 0
      · rw [decide_eq_false (by omega)] at hR
        subst hR
        have hpar : ((q : Int) % 2 != 0) = false := by simp; omega
        clear par
        go_enter Tryz.func53, Tryz.ntmps53
        go_wp2_with fail
        go_quiet (fail)
        go_wp2_with fail
        go_ret
        exact ⟨rfl, drew_below (HB.out _) _⟩
      · rw [decide_eq_true (by omega)] at hR
        subst hR
        have hpar : ((q : Int) % 2 != 0) = true := by simp; omega
        clear par
        go_enter Tryz.func53, Tryz.ntmps53
        go_wp2_with fail
        go_quiet (fail)
        go_wp2_with fail
        go_ret
        exact ⟨rfl, drew_below (HB.out _) _⟩
  · rw [if_neg c] at hR
    have hne : ((x : Int) != (y : Int)) = true := by simp; omega
    by_cases g : y < x
    · rw [decide_eq_true g] at hR
      subst hR
      clear c
      go_enter Tryz.func53, Tryz.ntmps53
      go_wp2_with fail
      go_quiet (fail)
      go_wp2_with fail
      go_ret
      exact ⟨rfl, drew_below (HB.out _) _⟩
    · rw [decide_eq_false g] at hR
      subst hR
      clear c
      go_enter Tryz.func53, Tryz.ntmps53
      go_wp2_with fail
      go_quiet (fail)
      go_wp2_with fail
      go_ret
      exact ⟨rfl, drew_below (HB.out _) _⟩
end Go.Proofs.YtcndkhgbgjnclaaGreatDoor.nn
/- The real fdec: fewest. -/
namespace Go.Proofs.YtcndkhgbgjnclaaGreatDoor.nn
open Go.RowKit

structure Bsp (w : World) (A : Nat) (mo : Bool) (F L : Nat) (p : Int) (W : World) : Prop where
  c0 : W.cell? ⟨w.heap.size, 0, none⟩ = some (.int .u64 (A : Int))
  c1 : W.cell? ⟨w.heap.size, 1, none⟩ = some (.bool mo)
  c2 : W.cell? ⟨w.heap.size, 2, none⟩ = some (.int .u64 (F : Int))
  c3 : W.cell? ⟨w.heap.size, 3, none⟩ = some (.int .u64 (L : Int))
  c4 : W.cell? ⟨w.heap.size, 4, none⟩ = some (.int .i64 p)
  b : Below w.heap.size w W
  z : w.heap.size < W.heap.size
section
variable {w W W' : World} {A F L : Nat} {mo : Bool} {p : Int}
theorem Bsp.new (w : World) (T : TypeId) : Bsp w A mo F L p (w.alloc (.cells #[.int .u64 (A : Int), .bool mo, .int .u64 (F : Int), .int .u64 (L : Int), .int .i64 p] T)) :=
  ⟨by simp, by simp, by simp, by simp, by simp, (Below.refl _ _).alloc (Nat.le_refl _) _, by simp⟩
theorem Bsp.on (h : Bsp w A mo F L p W) (hB : Below W.heap.size W W') : Bsp w A mo F L p W' :=
  ⟨(hB.cell (p := ⟨_, _, none⟩) h.z).trans h.c0, (hB.cell (p := ⟨_, _, none⟩) h.z).trans h.c1, (hB.cell (p := ⟨_, _, none⟩) h.z).trans h.c2, (hB.cell (p := ⟨_, _, none⟩) h.z).trans h.c3, (hB.cell (p := ⟨_, _, none⟩) h.z).trans h.c4, h.b.trans (hB.mono (Nat.le_of_lt h.z)), Nat.lt_of_lt_of_le h.z hB.size⟩
theorem Bsp.all (h : Bsp w A mo F L p W) : W.cell? ⟨w.heap.size, 0, none⟩ = some (.int .u64 (A : Int)) ∧ W.cell? ⟨w.heap.size, 1, none⟩ = some (.bool mo) ∧ W.cell? ⟨w.heap.size, 2, none⟩ = some (.int .u64 (F : Int)) ∧ W.cell? ⟨w.heap.size, 3, none⟩ = some (.int .u64 (L : Int)) ∧ W.cell? ⟨w.heap.size, 4, none⟩ = some (.int .i64 p) := ⟨h.c0, h.c1, h.c2, h.c3, h.c4⟩
end
theorem j0_le (A : Nat) : j0 A = 17 ∨ j0 A = 18 := by
  unfold j0
  split
  · exact .inr rfl
  · exact .inl rfl
theorem ten_le18 {j : Nat} (h : j ≤ 18) : 10 ^ j ≤ 1000000000000000000 := Nat.le_trans (Nat.pow_le_pow_right (by decide) h) (by decide)
set_option maxRecDepth 100000 in
set_option maxHeartbeats 4000000 in
theorem fewest_any (A : Nat) (mo : Bool) (F L : Nat) (p : Int) (w : World) (h1 : 100000000000000000 ≤ A) (h2 : A < 4000000000000000000) (hF : F < 9223372036854775808) (hL : L < 9223372036854775808) :
    Calls Tryz.prog 20 #[spV A mo F L p] w fun e w' => e = .returned (.int .u64 (fws A mo F L (j0 A) : Int)) ∧ Below w.heap.size w w' := by
  have HI := Lib.hid (fun lo P W (g1 : lo ≤ A) (g2 : A < lo + P) (g3 : 0 < P) (g4 : lo + P < 9223372036854775808) => isUpper_any A mo F L p lo P W g1 g2 g3 g4)
  unfold spV at HI ⊢
  have HB := Lib.hid (fun T => Bsp.new (A := A) (mo := mo) (F := F) (L := L) (p := p) w T)
  obtain ⟨R, hR⟩ : ∃ R, fws A mo F L (j0 A) = R := ⟨_, rfl⟩
  rw [hR]
  have HR := Lib.hid hR
  clear hR
  go_enter Tryz.func20, Tryz.ntmps20
  go_wp2_with fail
  go_step3
  go_wp2_with fail
  have H1 := Lib.hid (HB.out 47)
  obtain ⟨W1, hW1⟩ : ∃ W1, w.alloc (.cells #[.int .u64 (A : Int), .bool mo, .int .u64 (F : Int), .int .u64 (L : Int), .int .i64 p] 47) = W1 := ⟨_, rfl⟩
  rw [hW1] at H1 ⊢
  clear hW1 HB
  obtain ⟨c0, c1, c2, c3, c4⟩ := H1.out.all
  go_wp2_with fail
  go_loop [3] (fun s3 => ∃ P : Nat, s3 = .int .u64 (P : Int) ∧ ((P = 1000000000000000000) ∨ (P = 100000000000000000 ∧ A < 1000000000000000000))) (fun s3 => (intOf s3).toNat)
  case atStart => exact ⟨1000000000000000000, rfl, .inl rfl⟩
  case round =>
    obtain ⟨P, rfl, hP⟩ := hrel
    by_cases hgt : A < P
    · obtain ⟨Q, hQ⟩ : ∃ Q : Nat, Q = 100000000000000000 := ⟨_, rfl⟩
      have hdv : (P : Int) / 10 = (Q : Int) := by omega
      have hQr : Hid (Q = 100000000000000000 ∧ A < 1000000000000000000) := Lib.hid ⟨hQ, by omega⟩
      have hlt : Q < P := by omega
      have hQb : Q < 9223372036854775808 := by omega
      clear hP hQ
      go_wp2_with fail
      go_round
      case rel => exact ⟨Q, rfl, .inr hQr.out⟩
      case measure => simp [intOf]; omega
    · have hj : P = 10 ^ j0 A := by
        unfold j0
        rcases hP with h | ⟨h, g⟩
        · rw [if_pos (by omega), h]
        · rw [if_neg (by omega), h]
      have HJ := Lib.hid hj
      have hj18 : j0 A ≤ 18 := by rcases j0_le A with h | h <;> omega
      have HJ18 := Lib.hid hj18
      clear hP hj hj18
      go_wp2_with fail
      go_step3
      go_wp2_with fail
      go_loopw [3, 4] (fun s3 s4 wr => ∃ j : Nat, j ≤ 18 ∧ s3 = .int .u64 ((10 ^ j : Nat) : Int) ∧ s4 = .int .u64 0 ∧ Hid (fws A mo F L j = R) ∧ Hid (Bsp w A mo F L p wr)) (fun s3 _ _ => (intOf s3).toNat)
      case atStart => exact ⟨j0 A, HJ18.out, by rw [HJ.out], rfl, HR, Lib.hid H1.out⟩
      case round =>
        clear c0 c1 c2 c3 c4
        obtain ⟨j, hj, rfl, rfl, hf, hb⟩ := hrel
        obtain ⟨c0, c1, c2, c3, c4⟩ := hb.out.all
        by_cases hj0 : j = 0
        · subst hj0
          have hR0 : Hid (R = 0) := Lib.hid hf.out.symm
          rw [Nat.pow_zero]
          go_wp2_with fail
          (first | go_ret | (rw [Exit.noGoto_ret]; go_ret))
          exact ⟨ret_int (by rw [hR0.out]; rfl), hb.out.b⟩
        · obtain ⟨i, rfl⟩ : ∃ i, j = i + 1 := ⟨j - 1, by omega⟩
          have hp18 := ten_le18 hj
          have hp10 : 10 ≤ 10 ^ (i + 1) := by
            have := Nat.pow_pos (n := i) (show 0 < 10 by decide)
            rw [Nat.pow_succ]; omega
          have hdiv : 10 ^ (i + 1) / 10 = 10 ^ i := by rw [Nat.pow_succ, Nat.mul_div_cancel _ (by decide)]
          have hfc : fws A mo F L (i + 1) = match cd A mo F L (10 ^ (i + 1)) with | some x => x | none => fws A mo F L i := rfl
          rw [hf.out] at hfc
          have HFI : Hid (cd A mo F L (10 ^ (i + 1)) = none → fws A mo F L i = R) := Lib.hid fun h => by rw [h] at hfc; exact hfc.symm
          have HFS : Hid (∀ x, cd A mo F L (10 ^ (i + 1)) = some x → x = R) := Lib.hid fun x h => by rw [h] at hfc; exact hfc.symm
          obtain ⟨P2, hP2⟩ : ∃ P, 10 ^ (i + 1) = P := ⟨_, rfl⟩
          obtain ⟨P3, hP3⟩ : ∃ P, 10 ^ i = P := ⟨_, rfl⟩
          rw [hP2] at hp18 hp10 hdiv HFI HFS
          rw [hP3] at hdiv
          rw [hP2]
          have hdm := Nat.div_add_mod A P2
          have hml := Nat.mod_lt A (show 0 < P2 by omega)
          have hq0 := Nat.div_le_self A P2
          obtain ⟨q, hq⟩ : ∃ q, A / P2 = q := ⟨_, rfl⟩
          obtain ⟨r, hr⟩ : ∃ r, A % P2 = r := ⟨_, rfl⟩
          rw [hq, hr] at hdm
          rw [hr] at hml
          rw [hq] at hq0
          have eq1 : (A : Int) / (P2 : Int) = (q : Int) := by rw [← hq]; rfl
          obtain ⟨lo, hlo⟩ : ∃ lo, q * P2 = lo := ⟨_, rfl⟩
          rw [Nat.mul_comm, hlo] at hdm
          have eq2 : (q : Int) * (P2 : Int) = (lo : Int) := by rw [← hlo]; rfl
          have hcd : cd A mo F L P2 = if lo + P2 ≤ L ∧ (lo < F ∨ iu A mo lo P2 = true) then some (lo + P2) else if F ≤ lo then some lo else none := by unfold cd; rw [hq, hlo]
          have hloA : lo ≤ A := by omega
          have hAlo : A < lo + P2 := by omega
          have hdivi : (P2 : Int) / 10 = (P3 : Int) := by omega
          have HP3 := Lib.hid hP3
          have hP3lt : P3 < P2 := by omega
          have HU := Lib.hid (fun W => HI.out lo P2 W hloA hAlo (by omega) (by omega))
          obtain ⟨U, hU⟩ : ∃ U, iu A mo lo P2 = U := ⟨_, rfl⟩
          rw [hU] at HU hcd
          have HCD := Lib.hid hcd
          clear hcd hU hP2 hP3 hdiv hdm hml hq hr hlo hfc
          by_cases k1 : lo + P2 ≤ L
          · by_cases k2 : lo < F
            · have HF2 := Lib.hid (HFS.out (lo + P2) (by rw [HCD.out, if_pos ⟨k1, .inl k2⟩]))
              go_wp2_with fail
              (first | go_ret | (rw [Exit.noGoto_ret]; go_ret))
              exact ⟨ret_int (by rw [← HF2.out]; rfl), hb.out.b⟩
            · cases U with
              | true =>
                have HF2 := Lib.hid (HFS.out (lo + P2) (by rw [HCD.out, if_pos ⟨k1, .inr rfl⟩]))
                go_wp2_with fail
                refine (HU.out _).mono ?_
                rintro e w2 ⟨rfl, hb2⟩
                have B2 := Lib.hid (hb.out.on hb2).b
                clear hb2
                go_wp2_with fail
                (first | go_ret | (rw [Exit.noGoto_ret]; go_ret))
                exact ⟨ret_int (by rw [← HF2.out]; rfl), B2.out⟩
              | false =>
                have HF2 := Lib.hid (HFS.out lo (by rw [HCD.out, if_neg (by rintro ⟨_, h | h⟩; exact k2 h; cases h), if_pos (by omega)]))
                go_wp2_with fail
                refine (HU.out _).mono ?_
                rintro e w2 ⟨rfl, hb2⟩
                have B2 := Lib.hid (hb.out.on hb2)
                have d2 := B2.out.c2
                clear hb2
                go_wp2_with fail
                (first | go_ret | (rw [Exit.noGoto_ret]; go_ret))
                exact ⟨ret_int (by rw [← HF2.out]), B2.out.b⟩
          · by_cases k2 : lo < F
            · have HN : Hid (fws A mo F L i = R) := Lib.hid (HFI.out (by rw [HCD.out, if_neg (fun h => k1 h.1), if_neg (by omega)]))
              go_wp2_with fail
              go_roundw
              case rel => exact ⟨i, by omega, by rw [HP3.out], rfl, HN, hb⟩
              case measure => simp [intOf]; omega
            · have HF2 := Lib.hid (HFS.out lo (by rw [HCD.out, if_neg (fun h => k1 h.1), if_pos (by omega)]))
              go_wp2_with fail
              (first | go_ret | (rw [Exit.noGoto_ret]; go_ret))
              exact ⟨ret_int (by rw [← HF2.out]), hb.out.b⟩
end Go.Proofs.YtcndkhgbgjnclaaGreatDoor.nn
/- The real fdec: newSpan. -/
namespace Go.Proofs.YtcndkhgbgjnclaaGreatDoor.nn
open Go.RowKit

def z5 : Array Value := #[.int .u64 0, .bool false, .int .u64 0, .int .u64 0, .int .i64 0]
/-- the answer's block is as it was made; the variables over and under hold X and Y -/
structure Sr (w : World) (g1 g2 : Nat) (v u : Value) (X Y : Nat) (W : World) : Prop where
  r : W.heap[w.heap.size]? = some (.cells z5 47 (0, 0))
  s : Sv w g1 g2 v u X Y W
  g : w.heap.size < g1 ∧ w.heap.size < g2
theorem Sr.on {w W W' : World} {g1 g2 : Nat} {v u : Value} {X Y : Nat} (h : Sr w g1 g2 v u X Y W) (hB : Below W.heap.size W W') : Sr w g1 g2 v u X Y W' :=
  ⟨(hB.block _ (by have := h.s.z; have := h.g; omega)).trans h.r, h.s.on hB, h.g⟩
theorem Sr.rat {w W : World} {g1 g2 : Nat} {v u : Value} {X Y : Nat} (h : Sr w g1 g2 v u X Y W) (i : Nat) : W.cell? ⟨w.heap.size, i, none⟩ = z5[i]? ∧ W.frozen? ⟨w.heap.size, i, none⟩ = false := by
  refine ⟨cell_of_row W _ i _ _ _ h.r, ?_⟩
  have := h.r
  simp [World.frozen?, this]
theorem Sr.rall {w W : World} {g1 g2 : Nat} {v u : Value} {X Y : Nat} (h : Sr w g1 g2 v u X Y W) : W.cell? ⟨w.heap.size, 0, none⟩ = some (.int .u64 0) ∧ W.cell? ⟨w.heap.size, 1, none⟩ = some (.bool false) ∧ W.cell? ⟨w.heap.size, 2, none⟩ = some (.int .u64 0) ∧ W.cell? ⟨w.heap.size, 3, none⟩ = some (.int .u64 0) ∧ W.cell? ⟨w.heap.size, 4, none⟩ = some (.int .i64 0) :=
  ⟨(h.rat 0).1, (h.rat 1).1, (h.rat 2).1, (h.rat 3).1, (h.rat 4).1⟩
theorem Sr.rmk {w W : World} {g1 g2 : Nat} {v u : Value} {X Y : Nat} (h : Sr w g1 g2 v u X Y W) : W.frozen? ⟨w.heap.size, 0, none⟩ = false ∧ W.frozen? ⟨w.heap.size, 1, none⟩ = false ∧ W.frozen? ⟨w.heap.size, 2, none⟩ = false ∧ W.frozen? ⟨w.heap.size, 3, none⟩ = false ∧ W.frozen? ⟨w.heap.size, 4, none⟩ = false :=
  ⟨(h.rat 0).2, (h.rat 1).2, (h.rat 2).2, (h.rat 3).2, (h.rat 4).2⟩
/-- what is counted in quarters, and its unit -/
def spP (m : Nat) (e : Int) : Int := dcm ((bl m : Int) - 1 + e) + 1 - 18
def spX (m : Nat) (e : Int) : Nat := 10 ^ (-(spP m e)).toNat * 2 ^ (e - 2).toNat
def spY (m : Nat) (e : Int) : Nat := 10 ^ (spP m e).toNat * 2 ^ (-(e - 2)).toNat
def spB (m : Nat) (e : Int) : Nat := if m = 4503599627370496 ∧ -1074 < e then 1 else 2
def spF (m : Nat) (e : Int) : Nat := (4 * m - spB m e) * spX m e / spY m e + (if 0 < (4 * m - spB m e) * spX m e % spY m e ∨ m % 2 = 1 then 1 else 0)
def spL (m : Nat) (e : Int) : Nat := (4 * m + 2) * spX m e / spY m e - (if m % 2 = 1 ∧ ¬ 0 < (4 * m + 2) * spX m e % spY m e then 1 else 0)
def spA (m : Nat) (e : Int) : Nat := 4 * m * spX m e / spY m e
def spM (m : Nat) (e : Int) : Bool := decide (0 < 4 * m * spX m e % spY m e)
def SpAns (m : Nat) (e : Int) (w : World) (r : Ending) (w' : World) : Prop := r = .returned (spV (spA m e) (spM m e) (spF m e) (spL m e) (spP m e)) ∧ Below w.heap.size w w'

/-- a number in memory lies in no block that holds a slice -/
theorem N.apart {W : World} {v : Value} {X g : Nat} (h : N W v X) {B : Option Addr} {m d : Nat} {T : TypeId} (hg : W.heap[g]? = some (.cells #[.slice B m d] T (0, 0))) : ∀ b o n c, v = .slice (some ⟨b, o, none⟩) n c → 0 < n → b ≠ g := by
  rintro b o n c rfl h0 rfl
  obtain ⟨A, n', c', f, e, hn⟩ := h
  injection e with e1 e2 e3
  subst e2
  obtain ⟨b', off, e4, hbl, hc⟩ := hn.rd h0
  rw [← e1] at e4
  injection e4 with e4
  injection e4 with e5 e6 e7
  have h1 := hc 0 h0
  rw [← e5, cell_of_row W b _ _ _ _ hg] at h1
  rcases Nat.eq_zero_or_pos (off + 0) with h2 | h2
  · rw [h2] at h1
    simp at h1
  · rw [Array.getElem?_eq_none (by simp; omega)] at h1
    cases h1
/-- behind the two stores into the variables -/
theorem Sr.stored {w w2 : World} {g1 g2 : Nat} {v u : Value} {X Y : Nat} {B1 B2 : Option Addr} {m1 d1 m2 d2 : Nat} {T1 T2 : TypeId} (hr : w2.heap[w.heap.size]? = some (.cells z5 47 (0, 0))) (hb : Below w.heap.size w w2) (hv : N w2 v X) (hu : N w2 u Y)
    (hg1 : w.heap.size < g1) (hg2 : g1 < g2) (hz : g2 < w2.heap.size) (h1 : w2.heap[g1]? = some (.cells #[.slice B1 m1 d1] T1 (0, 0))) (h2 : w2.heap[g2]? = some (.cells #[.slice B2 m2 d2] T2 (0, 0))) :
    Sr w g1 g2 v u X Y ((w2.setCell ⟨g1, 0, none⟩ v).setCell ⟨g2, 0, none⟩ u) := by
  have a11 := hv.apart h1
  have a12 := hv.apart h2
  have a21 := hu.apart h1
  have a22 := hu.apart h2
  have hne : g1 ≠ g2 := by omega
  have hsz2 : ((w2.setCell ⟨g1, 0, none⟩ v).setCell ⟨g2, 0, none⟩ u).heap.size = w2.heap.size := by simp [World.setCell]
  have keep : ∀ b, b ≠ g1 → b ≠ g2 → ((w2.setCell ⟨g1, 0, none⟩ v).setCell ⟨g2, 0, none⟩ u).heap[b]? = w2.heap[b]? := fun b e1 e2 => by
    simp only [World.setCell, Array.getElem?_modify]
    rw [if_neg (by omega), if_neg (by omega)]
  have kN : ∀ (t : Value) (Z : Nat), N w2 t Z → (∀ b o n c, t = .slice (some ⟨b, o, none⟩) n c → 0 < n → b ≠ g1) → (∀ b o n c, t = .slice (some ⟨b, o, none⟩) n c → 0 < n → b ≠ g2) → N ((w2.setCell ⟨g1, 0, none⟩ v).setCell ⟨g2, 0, none⟩ u) t Z := fun t Z hN o1 o2 => by
    obtain ⟨A, n, c, f, rfl, hn⟩ := hN
    refine ⟨A, n, c, f, rfl, hn.le, hn.cap, fun h0 => ?_, hn.lt, hn.trm, hn.val⟩
    obtain ⟨b, off, e, hbl, hc⟩ := hn.rd h0
    have n1 := o1 b off n c (by rw [e]) h0
    have n2 := o2 b off n c (by rw [e]) h0
    exact ⟨b, off, e, by rw [hsz2]; exact hbl, fun i hi => (World.cell?_of_block (keep b n1 n2)).trans (hc i hi)⟩
  refine ⟨(keep _ (by omega) (by omega)).trans hr, ⟨?_, ?_, kN v X hv a11 a12, kN u Y hu a21 a22, (hb.setCell (by show w.heap.size ≤ g1; omega) _).setCell (by show w.heap.size ≤ g2; omega) _, by rw [hsz2]; omega⟩, by omega⟩
  · have e : ((w2.setCell ⟨g1, 0, none⟩ v).setCell ⟨g2, 0, none⟩ u).heap[g1]? = some (.cells #[v] T1 (0, 0)) := by
      simp [World.setCell, Array.getElem?_modify, h1, hne.symm]
    exact cell_of_row _ _ 0 _ _ _ e
  · have e : ((w2.setCell ⟨g1, 0, none⟩ v).setCell ⟨g2, 0, none⟩ u).heap[g2]? = some (.cells #[u] T2 (0, 0)) := by
      simp [World.setCell, Array.getElem?_modify, h2, hne]
    exact cell_of_row _ _ 0 _ _ _ e
end Go.Proofs.YtcndkhgbgjnclaaGreatDoor.nn
/- The walk of the real fdec's newSpan. -/
namespace Go.Proofs.YtcndkhgbgjnclaaGreatDoor.nn
open Go.RowKit

/-- from the two variables' making to the second stores -/
theorem Sr.begun {w w1 : World} {A1 A2 : Option Addr} {n1 c1 n2 c2 : Nat} {T1 T2 : TypeId} (hb : Below (w.alloc (.cells z5 47)).heap.size (w.alloc (.cells z5 47)) w1) :
    Below w1.heap.size w1 ((w1.alloc (.cells #[.slice A1 n1 c1] T1)).alloc (.cells #[.slice A2 n2 c2] T2))
    ∧ ∀ w2, Below ((w1.alloc (.cells #[.slice A1 n1 c1] T1)).alloc (.cells #[.slice A2 n2 c2] T2)).heap.size ((w1.alloc (.cells #[.slice A1 n1 c1] T1)).alloc (.cells #[.slice A2 n2 c2] T2)) w2 →
      (w2.cell? ⟨w1.heap.size, 0, none⟩ = some (.slice A1 n1 c1) ∧ w2.frozen? ⟨w1.heap.size, 0, none⟩ = false ∧ w2.cell? ⟨w1.heap.size + 1, 0, none⟩ = some (.slice A2 n2 c2) ∧ w2.frozen? ⟨w1.heap.size + 1, 0, none⟩ = false)
      ∧ ∀ v u X Y, N w2 v X → N w2 u Y → Sr w w1.heap.size (w1.heap.size + 1) v u X Y ((w2.setCell ⟨w1.heap.size, 0, none⟩ v).setCell ⟨w1.heap.size + 1, 0, none⟩ u) := by
  obtain ⟨W2, hW⟩ : ∃ W, (w1.alloc (.cells #[.slice A1 n1 c1] T1)).alloc (.cells #[.slice A2 n2 c2] T2) = W := ⟨_, rfl⟩
  have hs0 := hb.size
  rw [hsz] at hs0
  have hbw : Below w1.heap.size w1 W2 := by rw [← hW]; exact ((Below.refl _ _).alloc (Nat.le_refl _) _).alloc (by rw [hsz]; omega) _
  have hs2 : W2.heap.size = w1.heap.size + 2 := by rw [← hW, hsz, hsz]
  have hg1 : W2.heap[w1.heap.size]? = some (.cells #[.slice A1 n1 c1] T1 (0, 0)) := by rw [← hW]; exact (Lib.alloc_old _ _ _ (by rw [hsz]; omega)).trans (heap_alloc_new _ _)
  have hg2 : W2.heap[w1.heap.size + 1]? = some (.cells #[.slice A2 n2 c2] T2 (0, 0)) := by have h := heap_alloc_new (w1.alloc (.cells #[.slice A1 n1 c1] T1)) (.cells #[.slice A2 n2 c2] T2); rw [hsz, hW] at h; exact h
  rw [hW]
  refine ⟨hbw, fun w2 h2 => ?_⟩
  have k1 := (h2.block w1.heap.size (by omega)).trans hg1
  have k2 := (h2.block (w1.heap.size + 1) (by omega)).trans hg2
  refine ⟨⟨cell_of_row _ _ 0 _ _ _ k1, by simp [World.frozen?, k1], cell_of_row _ _ 0 _ _ _ k2, by simp [World.frozen?, k2]⟩, fun v u X Y hv hu => ?_⟩
  have hz : (w.alloc (.cells z5 47)).heap[w.heap.size]? = some (.cells z5 47 (0, 0)) := heap_alloc_new _ _
  have hall : Below w.heap.size w w2 := by
    refine (((Below.refl w.heap.size w).alloc (Nat.le_refl _) (.cells z5 47)).trans (hb.mono (by rw [hsz]; omega))).trans ((hbw.mono (by omega)).trans (h2.mono (by omega)))
  exact Sr.stored ((h2.block _ (by omega)).trans ((hbw.block _ (by omega)).trans ((hb.block _ (by rw [hsz]; omega)).trans hz))) hall hv hu (by omega) (by omega) (by have := h2.size; omega) k1 k2
theorem bitLen_nat {m : Nat} (h : m < 18446744073709551616) : Lib.bitLen m = bl m := bitLen_bl 64 m h (Nat.le_refl _)
theorem sp_fits {e p : Int} {X Y : Nat} (he1 : -1074 ≤ e) (he2 : e ≤ 971) (hp1 : -420 ≤ p) (hp2 : p ≤ 420) (eX : X = 10 ^ (-p).toNat * 2 ^ (e - 2).toNat) (eY : Y = 10 ^ p.toNat * 2 ^ (-(e - 2)).toNat) :
    X < big ∧ Y < big ∧ (∀ q, q < 2 ^ 60 → q * X < big) ∧ 0 < Y := by
  have hX1 : 10 ^ (-p).toNat < 2 ^ b20 ∧ 10 ^ p.toNat < 2 ^ b20 := by
    have t : ∀ n, n ≤ 2800 → 10 ^ n < 2 ^ b20 := fun n hn => Nat.lt_of_le_of_lt (ten_two n) ((Nat.pow_lt_pow_iff_right (by decide)).2 (by rw [b20_eq]; omega))
    exact ⟨t _ (by omega), t _ (by omega)⟩
  refine ⟨?_, ?_, fun q hq' => ?_, ?_⟩
  · rw [eX]; exact mul_fits (b := b20) hX1.1 (by rw [b20_eq]; omega) (by rw [b131_eq, b20_eq]; omega)
  · rw [eY]; exact mul_fits (b := b20) hX1.2 (by rw [b20_eq]; omega) (by rw [b131_eq, b20_eq]; omega)
  · rw [eX]
    have h1 : 10 ^ (-p).toNat * 2 ^ (e - 2).toNat < 2 ^ (b20 + (e - 2).toNat) := by rw [Nat.pow_add]; exact Nat.mul_lt_mul_of_pos_right hX1.1 (Nat.two_pow_pos _)
    refine fits_of (k := 60 + (b20 + (e - 2).toNat)) ?_ (by rw [b131_eq, b20_eq]; omega)
    rw [Nat.pow_add]
    exact Nat.mul_lt_mul'' hq' h1
  · rw [eY]; exact Nat.mul_pos (Nat.pow_pos (by decide)) (Nat.two_pow_pos _)
theorem sr_units {w W : World} {g1 g2 X Y : Nat} {v u : Value} (q : Nat) (hq : q < 18446744073709551616) (hX2 : q * X < big) (hXb : X < big) (hYb : Y < big) (hY0 : 0 < Y) (hQ : q * X / Y < 18446744073709551616) (h : Sr w g1 g2 v u X Y W) :
    Calls Tryz.prog 46 #[.int .u64 (q : Int), .pointer (some ⟨g1, 0, none⟩), .pointer (some ⟨g2, 0, none⟩)] W
      fun r w' => r = .returned (.tuple #[.int .u64 ((q * X / Y : Nat) : Int), .bool (decide (0 < q * X % Y))]) ∧ Sr w g1 g2 v u X Y w' :=
  (units_any W g1 g2 v u X Y q W ⟨h.s.c1, h.s.c2, h.s.n1, h.s.n2, Below.refl _ _, h.s.z⟩ hq hX2 hXb hYb hY0 hQ).mono fun _ _ ⟨he, hs⟩ => ⟨he, h.on hs.b⟩
--WALKS
set_option maxRecDepth 100000 in
set_option maxHeartbeats 8000000 in
theorem newSpan_0e (m : Nat) (e : Int) (w : World) (hm0 : 0 < m) (hm : m < 9007199254740992) (he1 : -1074 ≤ e) (he2 : e ≤ 971) (hq : (4 * m + 2) * spX m e / spY m e < 9223372036854775807) (hl : 1 ≤ (4 * m + 2) * spX m e / spY m e) (hcm : m ≠ 4503599627370496) (hpar : m % 2 = 0) :
    Calls Tryz.prog 18 #[.int .u64 (m : Int), .int .i64 e] w (SpAns m e w) := by
  have hbl1 := (bl_ge (N := m) (by omega)).2
  have hbl2 : bl m ≤ 53 := bl_le (k := 53) (by omega)
  have HLn := Lib.hid (fun W => Tryz.bits_Len64 (m : Int) W (by omega) (by omega))
  rw [Int.toNat_natCast, bitLen_nat (by omega)] at HLn
  have HDe := Lib.hid (fun n W (h1 : -1100 ≤ n) (h2 : n ≤ 1100) => decimals_any n W h1 h2)
  obtain ⟨p, hp⟩ : ∃ p, spP m e = p := ⟨_, rfl⟩
  have hpd : dcm ((bl m : Int) - 1 + e) + 1 - 18 = p := hp
  have hdb : -400 ≤ dcm ((bl m : Int) - 1 + e) ∧ dcm ((bl m : Int) - 1 + e) ≤ 400 := by unfold dcm; omega
  obtain ⟨dd, hdd⟩ : ∃ d, dcm ((bl m : Int) - 1 + e) = d := ⟨_, rfl⟩
  obtain ⟨K, hK⟩ : ∃ K, bl m = K := ⟨_, rfl⟩
  rw [hdd] at hpd hdb
  rw [hK] at hdd hbl1 hbl2 HLn
  have HDD := Lib.hid hdd
  have eX : spX m e = 10 ^ (-p).toNat * 2 ^ (e - 2).toNat := by unfold spX; rw [hp]
  have eY : spY m e = 10 ^ p.toNat * 2 ^ (-(e - 2)).toNat := by unfold spY; rw [hp]
  have HRa := Lib.hid (fun W => ratio_any ⟨#[49]⟩ (-p) W (by decide) (by decide) (by decide) (by omega) (by omega))
  rw [show dv (bt ⟨#[49]⟩) (ByteArray.size ⟨#[49]⟩) = 1 by decide, Nat.one_mul, Int.neg_neg] at HRa
  obtain ⟨hXb, hYb, hX2, hY0⟩ := sp_fits (p := p) he1 he2 (by omega) (by omega) eX eY
  have HTP := Lib.hid (fun v u W (hv : N W v (10 ^ (-p).toNat)) (hu : N W u (10 ^ p.toNat)) => ftimesPower_any v u (10 ^ (-p).toNat) (10 ^ p.toNat) (e - 2) W hv hu (by omega) (by omega) (by rw [← eX]; exact hXb) (by rw [← eY]; exact hYb))
  rw [← eX, ← eY] at HTP
  have hsB : spB m e = 2 := if_neg (fun h => hcm h.1)
  have hF : spF m e = (4 * m - 2) * spX m e / spY m e + (if 0 < (4 * m - 2) * spX m e % spY m e ∨ m % 2 = 1 then 1 else 0) := by unfold spF; rw [hsB]
  have hL : spL m e = (4 * m + 2) * spX m e / spY m e - (if m % 2 = 1 ∧ ¬ 0 < (4 * m + 2) * spX m e % spY m e then 1 else 0) := rfl
  have hA : spA m e = 4 * m * spX m e / spY m e := rfl
  have hM : spM m e = decide (0 < 4 * m * spX m e % spY m e) := rfl
  generalize spX m e = X at *
  generalize spY m e = Y at *
  clear eX eY
  have mono : ∀ q, q ≤ 4 * m + 2 → q * X / Y < 9223372036854775807 := fun q h => Nat.lt_of_le_of_lt (Nat.div_le_div_right (Nat.mul_le_mul_right _ h)) hq
  have hA1 := mono (4 * m) (by omega)
  have hF1 := mono (4 * m - 2) (by omega)
  have H1 := Lib.hid (fun g1 g2 v u W (h : Sr w g1 g2 v u X Y W) => sr_units (4 * m) (by omega) (hX2 _ (by omega)) hXb hYb hY0 (by omega) h)
  have H2 := Lib.hid (fun g1 g2 v u W (h : Sr w g1 g2 v u X Y W) => sr_units (4 * m - 2) (by omega) (hX2 _ (by omega)) hXb hYb hY0 (by omega) h)
  have H3 := Lib.hid (fun g1 g2 v u W (h : Sr w g1 g2 v u X Y W) => sr_units (4 * m + 2) (by omega) (hX2 _ (by omega)) hXb hYb hY0 (by omega) h)
  obtain ⟨A0, hA0⟩ : ∃ q, 4 * m * X / Y = q := ⟨_, rfl⟩
  obtain ⟨F0, hF0⟩ : ∃ q, (4 * m - 2) * X / Y = q := ⟨_, rfl⟩
  obtain ⟨L0, hL0⟩ : ∃ q, (4 * m + 2) * X / Y = q := ⟨_, rfl⟩
  obtain ⟨ab, hab⟩ : ∃ q, decide (0 < 4 * m * X % Y) = q := ⟨_, rfl⟩
  obtain ⟨fb, hfb⟩ : ∃ q, decide (0 < (4 * m - 2) * X % Y) = q := ⟨_, rfl⟩
  obtain ⟨lb, hlb⟩ : ∃ q, decide (0 < (4 * m + 2) * X % Y) = q := ⟨_, rfl⟩
  rw [hA0, hab] at H1
  rw [hF0, hfb] at H2
  rw [hL0, hlb] at H3
  rw [hA0] at hA hA1
  rw [hab] at hM
  rw [hF0] at hF hF1
  rw [hL0] at hL hq hl
  obtain ⟨FF, hFF⟩ : ∃ q, spF m e = q := ⟨_, rfl⟩
  obtain ⟨LL, hLL⟩ : ∃ q, spL m e = q := ⟨_, rfl⟩
  have HV : Hid (spV (spA m e) (spM m e) (spF m e) (spL m e) (spP m e) = .agg #[.int .u64 (A0 : Int), .bool ab, .int .u64 (FF : Int), .int .u64 (LL : Int), .int .i64 p]) := Lib.hid (by unfold spV; rw [hA, hM, hp, hFF, hLL])
  rw [hFF] at hF
  rw [hLL] at hL
  have hF' : FF = F0 + (if fb = true ∨ m % 2 = 1 then 1 else 0) := by rw [hF, ← hfb]; simp only [decide_eq_true_eq]
  have hL' : LL = L0 - (if m % 2 = 1 ∧ lb = false then 1 else 0) := by rw [hL, ← hlb]; simp only [decide_eq_false_iff_not]
  clear hF hL
  have hpar2 : ((m : Int) % 2 != 0) = false := by simp; omega
  have h2z : (4 * (m : Int) - 2) = ((4 * m - 2 : Nat) : Int) := by omega
  have H2' := Lib.hid (fun g1 g2 v u W (h : Sr w g1 g2 v u X Y W) => H2.out g1 g2 v u W h)
  rw [← h2z] at H2'
  have H1' := Lib.hid (fun g1 g2 v u W (h : Sr w g1 g2 v u X Y W) => H1.out g1 g2 v u W h)
  rw [show ((4 * m : Nat) : Int) = 4 * (m : Int) by omega] at H1'
  have H3' := Lib.hid (fun g1 g2 v u W (h : Sr w g1 g2 v u X Y W) => H3.out g1 g2 v u W h)
  rw [show ((4 * m + 2 : Nat) : Int) = 4 * (m : Int) + 2 by omega] at H3'
  clear hXb hYb hX2 hY0 mono hA0 hF0 hL0 hab hfb hlb H1 H2 H3 hA hM hFF hLL hsB h2z hp hK
  have hcB : ((m : Int) == 4503599627370496) = false := by simp; omega
  go_enter Tryz.func18, Tryz.ntmps18
  go_wp2_with fail
  refine (HLn.out _).mono ?_
  rintro r w' ⟨rfl, rfl⟩
  go_wp2_with fail
  refine (HDe.out _ _ (by omega) (by omega)).mono ?_
  rintro r w' ⟨rfl, rfl⟩
  rw [HDD.out]
  go_wp2_with fail
  refine (HRa.out _).mono ?_
  rintro r w1 ⟨v1, u1, rfl, hv1, hu1, hb1⟩
  have HV1 := Lib.hid hv1
  have HU1 := Lib.hid hu1
  obtain ⟨A1, n1, c1, f1, rfl, -⟩ := hv1
  obtain ⟨A2, n2, c2, f2, rfl, -⟩ := hu1
  obtain ⟨hbw, hcont⟩ := Sr.begun (w := w) (w1 := w1) (A1 := A1) (A2 := A2) (n1 := n1) (c1 := c1) (n2 := n2) (c2 := c2) (T1 := 52) (T2 := 52) hb1
  have HCO := Lib.hid hcont
  have HBW := Lib.hid hbw
  clear hb1 hcont hbw
  go_wp2_with fail
  refine (HTP.out _ _ _ (HV1.out.below HBW.out) (HU1.out.below HBW.out)).mono ?_
  rintro r w2 ⟨v2, u2, rfl, hv2, hu2, hb2⟩
  obtain ⟨⟨k1, k2, k3, k4⟩, hsr⟩ := HCO.out w2 hb2
  have HSR := Lib.hid (hsr _ _ _ _ hv2 hu2)
  obtain ⟨A3, n3, c3, f3, rfl, -⟩ := hv2
  obtain ⟨A4, n4, c4, f4, rfl, -⟩ := hu2
  clear hb2 hsr HCO HBW HTP HV1 HU1 HRa HLn HDD HDe
  go_wp2_with fail
  clear k1 k2 k3 k4
  generalize (w2.setCell ⟨w1.heap.size, 0, none⟩ (.slice A3 n3 c3)).setCell ⟨w1.heap.size + 1, 0, none⟩ (.slice A4 n4 c4) = W3 at HSR ⊢
  go_wp2_with fail
  refine (H1'.out _ _ _ _ _ HSR.out).mono ?_
  rintro r w4 ⟨rfl, hs4⟩
  have HS4 := Lib.hid hs4
  clear hs4 HSR
  go_wp2_with fail
  refine (H2'.out _ _ _ _ _ HS4.out).mono ?_
  rintro r w5 ⟨rfl, hs5⟩
  have HS5 := Lib.hid hs5
  clear hs5 HS4
  go_wp2_with fail
  refine (H3'.out _ _ _ _ _ HS5.out).mono ?_
  rintro r w6 ⟨rfl, hs6⟩
  have HS6 := Lib.hid hs6
  obtain ⟨r0, r1, r2, r3, r4⟩ := hs6.rall
  obtain ⟨m0, m1, m2, m3, m4⟩ := hs6.rmk
  clear hs6 HS5 H1' H2' H3'
  cases fb
  case false =>
    have hFx : FF = F0 := by rw [hF']; simp [hpar]
    have hLx : LL = L0 := by rw [hL']; simp [hpar]
    clear hF' hL'
    go_wp2_with fail
    have hFz : ((F0 : Nat) : Int) = (F0 : Int) := by omega
    have hLz : ((L0 : Nat) : Int) = (L0 : Int) := by omega
    refine bodyPost_ret (v := .agg #[.int .u64 (A0 : Int), .bool ab, .int .u64 ((F0 : Int)), .int .u64 ((L0 : Int)), .int .i64 p]) (by simp [results, Tryz.results18, go_sem, r0, r1, r2, r3, r4]) rfl ⟨by rw [HV.out, hFx, hLx, hFz, hLz], ?_⟩
    exact ((((HS6.out.s.b.setCell (Nat.le_refl _) _).setCell (Nat.le_refl _) _).setCell (Nat.le_refl _) _).setCell (Nat.le_refl _) _).setCell (Nat.le_refl _) _
  case true =>
    have hFx : FF = F0 + 1 := by rw [hF']; simp [hpar]
    have hLx : LL = L0 := by rw [hL']; simp [hpar]
    clear hF' hL'
    go_wp2_with fail
    have hFz : ((F0 + 1 : Nat) : Int) = (F0 : Int) + 1 := by omega
    have hLz : ((L0 : Nat) : Int) = (L0 : Int) := by omega
    refine bodyPost_ret (v := .agg #[.int .u64 (A0 : Int), .bool ab, .int .u64 ((F0 : Int) + 1), .int .u64 ((L0 : Int)), .int .i64 p]) (by simp [results, Tryz.results18, go_sem, r0, r1, r2, r3, r4]) rfl ⟨by rw [HV.out, hFx, hLx, hFz, hLz], ?_⟩
    exact ((((HS6.out.s.b.setCell (Nat.le_refl _) _).setCell (Nat.le_refl _) _).setCell (Nat.le_refl _) _).setCell (Nat.le_refl _) _).setCell (Nat.le_refl _) _
set_option maxRecDepth 100000 in
set_option maxHeartbeats 8000000 in
theorem newSpan_0o (m : Nat) (e : Int) (w : World) (hm0 : 0 < m) (hm : m < 9007199254740992) (he1 : -1074 ≤ e) (he2 : e ≤ 971) (hq : (4 * m + 2) * spX m e / spY m e < 9223372036854775807) (hl : 1 ≤ (4 * m + 2) * spX m e / spY m e) (hcm : m ≠ 4503599627370496) (hpar : m % 2 = 1) :
    Calls Tryz.prog 18 #[.int .u64 (m : Int), .int .i64 e] w (SpAns m e w) := by
  have hbl1 := (bl_ge (N := m) (by omega)).2
  have hbl2 : bl m ≤ 53 := bl_le (k := 53) (by omega)
  have HLn := Lib.hid (fun W => Tryz.bits_Len64 (m : Int) W (by omega) (by omega))
  rw [Int.toNat_natCast, bitLen_nat (by omega)] at HLn
  have HDe := Lib.hid (fun n W (h1 : -1100 ≤ n) (h2 : n ≤ 1100) => decimals_any n W h1 h2)
  obtain ⟨p, hp⟩ : ∃ p, spP m e = p := ⟨_, rfl⟩
  have hpd : dcm ((bl m : Int) - 1 + e) + 1 - 18 = p := hp
  have hdb : -400 ≤ dcm ((bl m : Int) - 1 + e) ∧ dcm ((bl m : Int) - 1 + e) ≤ 400 := by unfold dcm; omega
  obtain ⟨dd, hdd⟩ : ∃ d, dcm ((bl m : Int) - 1 + e) = d := ⟨_, rfl⟩
  obtain ⟨K, hK⟩ : ∃ K, bl m = K := ⟨_, rfl⟩
  rw [hdd] at hpd hdb
  rw [hK] at hdd hbl1 hbl2 HLn
  have HDD := Lib.hid hdd
  have eX : spX m e = 10 ^ (-p).toNat * 2 ^ (e - 2).toNat := by unfold spX; rw [hp]
  have eY : spY m e = 10 ^ p.toNat * 2 ^ (-(e - 2)).toNat := by unfold spY; rw [hp]
  have HRa := Lib.hid (fun W => ratio_any ⟨#[49]⟩ (-p) W (by decide) (by decide) (by decide) (by omega) (by omega))
  rw [show dv (bt ⟨#[49]⟩) (ByteArray.size ⟨#[49]⟩) = 1 by decide, Nat.one_mul, Int.neg_neg] at HRa
  obtain ⟨hXb, hYb, hX2, hY0⟩ := sp_fits (p := p) he1 he2 (by omega) (by omega) eX eY
  have HTP := Lib.hid (fun v u W (hv : N W v (10 ^ (-p).toNat)) (hu : N W u (10 ^ p.toNat)) => ftimesPower_any v u (10 ^ (-p).toNat) (10 ^ p.toNat) (e - 2) W hv hu (by omega) (by omega) (by rw [← eX]; exact hXb) (by rw [← eY]; exact hYb))
  rw [← eX, ← eY] at HTP
  have hsB : spB m e = 2 := if_neg (fun h => hcm h.1)
  have hF : spF m e = (4 * m - 2) * spX m e / spY m e + (if 0 < (4 * m - 2) * spX m e % spY m e ∨ m % 2 = 1 then 1 else 0) := by unfold spF; rw [hsB]
  have hL : spL m e = (4 * m + 2) * spX m e / spY m e - (if m % 2 = 1 ∧ ¬ 0 < (4 * m + 2) * spX m e % spY m e then 1 else 0) := rfl
  have hA : spA m e = 4 * m * spX m e / spY m e := rfl
  have hM : spM m e = decide (0 < 4 * m * spX m e % spY m e) := rfl
  generalize spX m e = X at *
  generalize spY m e = Y at *
  clear eX eY
  have mono : ∀ q, q ≤ 4 * m + 2 → q * X / Y < 9223372036854775807 := fun q h => Nat.lt_of_le_of_lt (Nat.div_le_div_right (Nat.mul_le_mul_right _ h)) hq
  have hA1 := mono (4 * m) (by omega)
  have hF1 := mono (4 * m - 2) (by omega)
  have H1 := Lib.hid (fun g1 g2 v u W (h : Sr w g1 g2 v u X Y W) => sr_units (4 * m) (by omega) (hX2 _ (by omega)) hXb hYb hY0 (by omega) h)
  have H2 := Lib.hid (fun g1 g2 v u W (h : Sr w g1 g2 v u X Y W) => sr_units (4 * m - 2) (by omega) (hX2 _ (by omega)) hXb hYb hY0 (by omega) h)
  have H3 := Lib.hid (fun g1 g2 v u W (h : Sr w g1 g2 v u X Y W) => sr_units (4 * m + 2) (by omega) (hX2 _ (by omega)) hXb hYb hY0 (by omega) h)
  obtain ⟨A0, hA0⟩ : ∃ q, 4 * m * X / Y = q := ⟨_, rfl⟩
  obtain ⟨F0, hF0⟩ : ∃ q, (4 * m - 2) * X / Y = q := ⟨_, rfl⟩
  obtain ⟨L0, hL0⟩ : ∃ q, (4 * m + 2) * X / Y = q := ⟨_, rfl⟩
  obtain ⟨ab, hab⟩ : ∃ q, decide (0 < 4 * m * X % Y) = q := ⟨_, rfl⟩
  obtain ⟨fb, hfb⟩ : ∃ q, decide (0 < (4 * m - 2) * X % Y) = q := ⟨_, rfl⟩
  obtain ⟨lb, hlb⟩ : ∃ q, decide (0 < (4 * m + 2) * X % Y) = q := ⟨_, rfl⟩
  rw [hA0, hab] at H1
  rw [hF0, hfb] at H2
  rw [hL0, hlb] at H3
  rw [hA0] at hA hA1
  rw [hab] at hM
  rw [hF0] at hF hF1
  rw [hL0] at hL hq hl
  obtain ⟨FF, hFF⟩ : ∃ q, spF m e = q := ⟨_, rfl⟩
  obtain ⟨LL, hLL⟩ : ∃ q, spL m e = q := ⟨_, rfl⟩
  have HV : Hid (spV (spA m e) (spM m e) (spF m e) (spL m e) (spP m e) = .agg #[.int .u64 (A0 : Int), .bool ab, .int .u64 (FF : Int), .int .u64 (LL : Int), .int .i64 p]) := Lib.hid (by unfold spV; rw [hA, hM, hp, hFF, hLL])
  rw [hFF] at hF
  rw [hLL] at hL
  have hF' : FF = F0 + (if fb = true ∨ m % 2 = 1 then 1 else 0) := by rw [hF, ← hfb]; simp only [decide_eq_true_eq]
  have hL' : LL = L0 - (if m % 2 = 1 ∧ lb = false then 1 else 0) := by rw [hL, ← hlb]; simp only [decide_eq_false_iff_not]
  clear hF hL
  have hpar2 : ((m : Int) % 2 != 0) = true := by simp; omega
  have h2z : (4 * (m : Int) - 2) = ((4 * m - 2 : Nat) : Int) := by omega
  have H2' := Lib.hid (fun g1 g2 v u W (h : Sr w g1 g2 v u X Y W) => H2.out g1 g2 v u W h)
  rw [← h2z] at H2'
  have H1' := Lib.hid (fun g1 g2 v u W (h : Sr w g1 g2 v u X Y W) => H1.out g1 g2 v u W h)
  rw [show ((4 * m : Nat) : Int) = 4 * (m : Int) by omega] at H1'
  have H3' := Lib.hid (fun g1 g2 v u W (h : Sr w g1 g2 v u X Y W) => H3.out g1 g2 v u W h)
  rw [show ((4 * m + 2 : Nat) : Int) = 4 * (m : Int) + 2 by omega] at H3'
  clear hXb hYb hX2 hY0 mono hA0 hF0 hL0 hab hfb hlb H1 H2 H3 hA hM hFF hLL hsB h2z hp hK
  have hcB : ((m : Int) == 4503599627370496) = false := by simp; omega
  go_enter Tryz.func18, Tryz.ntmps18
  go_wp2_with fail
  refine (HLn.out _).mono ?_
  rintro r w' ⟨rfl, rfl⟩
  go_wp2_with fail
  refine (HDe.out _ _ (by omega) (by omega)).mono ?_
  rintro r w' ⟨rfl, rfl⟩
  rw [HDD.out]
  go_wp2_with fail
  refine (HRa.out _).mono ?_
  rintro r w1 ⟨v1, u1, rfl, hv1, hu1, hb1⟩
  have HV1 := Lib.hid hv1
  have HU1 := Lib.hid hu1
  obtain ⟨A1, n1, c1, f1, rfl, -⟩ := hv1
  obtain ⟨A2, n2, c2, f2, rfl, -⟩ := hu1
  obtain ⟨hbw, hcont⟩ := Sr.begun (w := w) (w1 := w1) (A1 := A1) (A2 := A2) (n1 := n1) (c1 := c1) (n2 := n2) (c2 := c2) (T1 := 52) (T2 := 52) hb1
  have HCO := Lib.hid hcont
  have HBW := Lib.hid hbw
  clear hb1 hcont hbw
  go_wp2_with fail
  refine (HTP.out _ _ _ (HV1.out.below HBW.out) (HU1.out.below HBW.out)).mono ?_
  rintro r w2 ⟨v2, u2, rfl, hv2, hu2, hb2⟩
  obtain ⟨⟨k1, k2, k3, k4⟩, hsr⟩ := HCO.out w2 hb2
  have HSR := Lib.hid (hsr _ _ _ _ hv2 hu2)
  obtain ⟨A3, n3, c3, f3, rfl, -⟩ := hv2
  obtain ⟨A4, n4, c4, f4, rfl, -⟩ := hu2
  clear hb2 hsr HCO HBW HTP HV1 HU1 HRa HLn HDD HDe
  go_wp2_with fail
  clear k1 k2 k3 k4
  generalize (w2.setCell ⟨w1.heap.size, 0, none⟩ (.slice A3 n3 c3)).setCell ⟨w1.heap.size + 1, 0, none⟩ (.slice A4 n4 c4) = W3 at HSR ⊢
  go_wp2_with fail
  refine (H1'.out _ _ _ _ _ HSR.out).mono ?_
  rintro r w4 ⟨rfl, hs4⟩
  have HS4 := Lib.hid hs4
  clear hs4 HSR
  go_wp2_with fail
  refine (H2'.out _ _ _ _ _ HS4.out).mono ?_
  rintro r w5 ⟨rfl, hs5⟩
  have HS5 := Lib.hid hs5
  clear hs5 HS4
  go_wp2_with fail
  refine (H3'.out _ _ _ _ _ HS5.out).mono ?_
  rintro r w6 ⟨rfl, hs6⟩
  have HS6 := Lib.hid hs6
  obtain ⟨r0, r1, r2, r3, r4⟩ := hs6.rall
  obtain ⟨m0, m1, m2, m3, m4⟩ := hs6.rmk
  clear hs6 HS5 H1' H2' H3'
  cases fb
  case false =>
    cases lb
    case false =>
      have hFx : FF = F0 + 1 := by rw [hF']; simp [hpar]
      have hLx : LL = L0 - 1 := by rw [hL']; simp [hpar]
      clear hF' hL'
      go_wp2_with fail
      have hFz : ((F0 + 1 : Nat) : Int) = (F0 : Int) + 1 := by omega
      have hLz : ((L0 - 1 : Nat) : Int) = (L0 : Int) - 1 := by omega
      refine bodyPost_ret (v := .agg #[.int .u64 (A0 : Int), .bool ab, .int .u64 ((F0 : Int) + 1), .int .u64 ((L0 : Int) - 1), .int .i64 p]) (by simp [results, Tryz.results18, go_sem, r0, r1, r2, r3, r4]) rfl ⟨by rw [HV.out, hFx, hLx, hFz, hLz], ?_⟩
      exact ((((HS6.out.s.b.setCell (Nat.le_refl _) _).setCell (Nat.le_refl _) _).setCell (Nat.le_refl _) _).setCell (Nat.le_refl _) _).setCell (Nat.le_refl _) _
    case true =>
      have hFx : FF = F0 + 1 := by rw [hF']; simp [hpar]
      have hLx : LL = L0 := by rw [hL']; simp [hpar]
      clear hF' hL'
      go_wp2_with fail
      have hFz : ((F0 + 1 : Nat) : Int) = (F0 : Int) + 1 := by omega
      have hLz : ((L0 : Nat) : Int) = (L0 : Int) := by omega
      refine bodyPost_ret (v := .agg #[.int .u64 (A0 : Int), .bool ab, .int .u64 ((F0 : Int) + 1), .int .u64 ((L0 : Int)), .int .i64 p]) (by simp [results, Tryz.results18, go_sem, r0, r1, r2, r3, r4]) rfl ⟨by rw [HV.out, hFx, hLx, hFz, hLz], ?_⟩
      exact ((((HS6.out.s.b.setCell (Nat.le_refl _) _).setCell (Nat.le_refl _) _).setCell (Nat.le_refl _) _).setCell (Nat.le_refl _) _).setCell (Nat.le_refl _) _
  case true =>
    cases lb
    case false =>
      have hFx : FF = F0 + 1 := by rw [hF']; simp [hpar]
      have hLx : LL = L0 - 1 := by rw [hL']; simp [hpar]
      clear hF' hL'
      go_wp2_with fail
      have hFz : ((F0 + 1 : Nat) : Int) = (F0 : Int) + 1 := by omega
      have hLz : ((L0 - 1 : Nat) : Int) = (L0 : Int) - 1 := by omega
      refine bodyPost_ret (v := .agg #[.int .u64 (A0 : Int), .bool ab, .int .u64 ((F0 : Int) + 1), .int .u64 ((L0 : Int) - 1), .int .i64 p]) (by simp [results, Tryz.results18, go_sem, r0, r1, r2, r3, r4]) rfl ⟨by rw [HV.out, hFx, hLx, hFz, hLz], ?_⟩
      exact ((((HS6.out.s.b.setCell (Nat.le_refl _) _).setCell (Nat.le_refl _) _).setCell (Nat.le_refl _) _).setCell (Nat.le_refl _) _).setCell (Nat.le_refl _) _
    case true =>
      have hFx : FF = F0 + 1 := by rw [hF']; simp [hpar]
      have hLx : LL = L0 := by rw [hL']; simp [hpar]
      clear hF' hL'
      go_wp2_with fail
      have hFz : ((F0 + 1 : Nat) : Int) = (F0 : Int) + 1 := by omega
      have hLz : ((L0 : Nat) : Int) = (L0 : Int) := by omega
      refine bodyPost_ret (v := .agg #[.int .u64 (A0 : Int), .bool ab, .int .u64 ((F0 : Int) + 1), .int .u64 ((L0 : Int)), .int .i64 p]) (by simp [results, Tryz.results18, go_sem, r0, r1, r2, r3, r4]) rfl ⟨by rw [HV.out, hFx, hLx, hFz, hLz], ?_⟩
      exact ((((HS6.out.s.b.setCell (Nat.le_refl _) _).setCell (Nat.le_refl _) _).setCell (Nat.le_refl _) _).setCell (Nat.le_refl _) _).setCell (Nat.le_refl _) _
set_option maxRecDepth 100000 in
set_option maxHeartbeats 8000000 in
theorem newSpan_1e (m : Nat) (e : Int) (w : World) (hm0 : 0 < m) (hm : m < 9007199254740992) (he1 : -1074 ≤ e) (he2 : e ≤ 971) (hq : (4 * m + 2) * spX m e / spY m e < 9223372036854775807) (hl : 1 ≤ (4 * m + 2) * spX m e / spY m e) (hcm : m = 4503599627370496) (hce : ¬ -1074 < e) (hpar : m % 2 = 0) :
    Calls Tryz.prog 18 #[.int .u64 (m : Int), .int .i64 e] w (SpAns m e w) := by
  have hbl1 := (bl_ge (N := m) (by omega)).2
  have hbl2 : bl m ≤ 53 := bl_le (k := 53) (by omega)
  have HLn := Lib.hid (fun W => Tryz.bits_Len64 (m : Int) W (by omega) (by omega))
  rw [Int.toNat_natCast, bitLen_nat (by omega)] at HLn
  have HDe := Lib.hid (fun n W (h1 : -1100 ≤ n) (h2 : n ≤ 1100) => decimals_any n W h1 h2)
  obtain ⟨p, hp⟩ : ∃ p, spP m e = p := ⟨_, rfl⟩
  have hpd : dcm ((bl m : Int) - 1 + e) + 1 - 18 = p := hp
  have hdb : -400 ≤ dcm ((bl m : Int) - 1 + e) ∧ dcm ((bl m : Int) - 1 + e) ≤ 400 := by unfold dcm; omega
  obtain ⟨dd, hdd⟩ : ∃ d, dcm ((bl m : Int) - 1 + e) = d := ⟨_, rfl⟩
  obtain ⟨K, hK⟩ : ∃ K, bl m = K := ⟨_, rfl⟩
  rw [hdd] at hpd hdb
  rw [hK] at hdd hbl1 hbl2 HLn
  have HDD := Lib.hid hdd
  have eX : spX m e = 10 ^ (-p).toNat * 2 ^ (e - 2).toNat := by unfold spX; rw [hp]
  have eY : spY m e = 10 ^ p.toNat * 2 ^ (-(e - 2)).toNat := by unfold spY; rw [hp]
  have HRa := Lib.hid (fun W => ratio_any ⟨#[49]⟩ (-p) W (by decide) (by decide) (by decide) (by omega) (by omega))
  rw [show dv (bt ⟨#[49]⟩) (ByteArray.size ⟨#[49]⟩) = 1 by decide, Nat.one_mul, Int.neg_neg] at HRa
  obtain ⟨hXb, hYb, hX2, hY0⟩ := sp_fits (p := p) he1 he2 (by omega) (by omega) eX eY
  have HTP := Lib.hid (fun v u W (hv : N W v (10 ^ (-p).toNat)) (hu : N W u (10 ^ p.toNat)) => ftimesPower_any v u (10 ^ (-p).toNat) (10 ^ p.toNat) (e - 2) W hv hu (by omega) (by omega) (by rw [← eX]; exact hXb) (by rw [← eY]; exact hYb))
  rw [← eX, ← eY] at HTP
  have hsB : spB m e = 2 := if_neg (fun h => hce h.2)
  have hF : spF m e = (4 * m - 2) * spX m e / spY m e + (if 0 < (4 * m - 2) * spX m e % spY m e ∨ m % 2 = 1 then 1 else 0) := by unfold spF; rw [hsB]
  have hL : spL m e = (4 * m + 2) * spX m e / spY m e - (if m % 2 = 1 ∧ ¬ 0 < (4 * m + 2) * spX m e % spY m e then 1 else 0) := rfl
  have hA : spA m e = 4 * m * spX m e / spY m e := rfl
  have hM : spM m e = decide (0 < 4 * m * spX m e % spY m e) := rfl
  generalize spX m e = X at *
  generalize spY m e = Y at *
  clear eX eY
  have mono : ∀ q, q ≤ 4 * m + 2 → q * X / Y < 9223372036854775807 := fun q h => Nat.lt_of_le_of_lt (Nat.div_le_div_right (Nat.mul_le_mul_right _ h)) hq
  have hA1 := mono (4 * m) (by omega)
  have hF1 := mono (4 * m - 2) (by omega)
  have H1 := Lib.hid (fun g1 g2 v u W (h : Sr w g1 g2 v u X Y W) => sr_units (4 * m) (by omega) (hX2 _ (by omega)) hXb hYb hY0 (by omega) h)
  have H2 := Lib.hid (fun g1 g2 v u W (h : Sr w g1 g2 v u X Y W) => sr_units (4 * m - 2) (by omega) (hX2 _ (by omega)) hXb hYb hY0 (by omega) h)
  have H3 := Lib.hid (fun g1 g2 v u W (h : Sr w g1 g2 v u X Y W) => sr_units (4 * m + 2) (by omega) (hX2 _ (by omega)) hXb hYb hY0 (by omega) h)
  obtain ⟨A0, hA0⟩ : ∃ q, 4 * m * X / Y = q := ⟨_, rfl⟩
  obtain ⟨F0, hF0⟩ : ∃ q, (4 * m - 2) * X / Y = q := ⟨_, rfl⟩
  obtain ⟨L0, hL0⟩ : ∃ q, (4 * m + 2) * X / Y = q := ⟨_, rfl⟩
  obtain ⟨ab, hab⟩ : ∃ q, decide (0 < 4 * m * X % Y) = q := ⟨_, rfl⟩
  obtain ⟨fb, hfb⟩ : ∃ q, decide (0 < (4 * m - 2) * X % Y) = q := ⟨_, rfl⟩
  obtain ⟨lb, hlb⟩ : ∃ q, decide (0 < (4 * m + 2) * X % Y) = q := ⟨_, rfl⟩
  rw [hA0, hab] at H1
  rw [hF0, hfb] at H2
  rw [hL0, hlb] at H3
  rw [hA0] at hA hA1
  rw [hab] at hM
  rw [hF0] at hF hF1
  rw [hL0] at hL hq hl
  obtain ⟨FF, hFF⟩ : ∃ q, spF m e = q := ⟨_, rfl⟩
  obtain ⟨LL, hLL⟩ : ∃ q, spL m e = q := ⟨_, rfl⟩
  have HV : Hid (spV (spA m e) (spM m e) (spF m e) (spL m e) (spP m e) = .agg #[.int .u64 (A0 : Int), .bool ab, .int .u64 (FF : Int), .int .u64 (LL : Int), .int .i64 p]) := Lib.hid (by unfold spV; rw [hA, hM, hp, hFF, hLL])
  rw [hFF] at hF
  rw [hLL] at hL
  have hF' : FF = F0 + (if fb = true ∨ m % 2 = 1 then 1 else 0) := by rw [hF, ← hfb]; simp only [decide_eq_true_eq]
  have hL' : LL = L0 - (if m % 2 = 1 ∧ lb = false then 1 else 0) := by rw [hL, ← hlb]; simp only [decide_eq_false_iff_not]
  clear hF hL
  have hpar2 : ((m : Int) % 2 != 0) = false := by simp; omega
  have h2z : (4 * (m : Int) - 2) = ((4 * m - 2 : Nat) : Int) := by omega
  have H2' := Lib.hid (fun g1 g2 v u W (h : Sr w g1 g2 v u X Y W) => H2.out g1 g2 v u W h)
  rw [← h2z] at H2'
  have H1' := Lib.hid (fun g1 g2 v u W (h : Sr w g1 g2 v u X Y W) => H1.out g1 g2 v u W h)
  rw [show ((4 * m : Nat) : Int) = 4 * (m : Int) by omega] at H1'
  have H3' := Lib.hid (fun g1 g2 v u W (h : Sr w g1 g2 v u X Y W) => H3.out g1 g2 v u W h)
  rw [show ((4 * m + 2 : Nat) : Int) = 4 * (m : Int) + 2 by omega] at H3'
  clear hXb hYb hX2 hY0 mono hA0 hF0 hL0 hab hfb hlb H1 H2 H3 hA hM hFF hLL hsB h2z hp hK
  have hcB : ((m : Int) == 4503599627370496) = true := by simp; omega
  have hcG : decide (e > -1074) = false := by simp; omega
  have hcH : decide (-1074 < e) = false := hcG
  clear hcm hce
  go_enter Tryz.func18, Tryz.ntmps18
  go_wp2_with fail
  refine (HLn.out _).mono ?_
  rintro r w' ⟨rfl, rfl⟩
  go_wp2_with fail
  refine (HDe.out _ _ (by omega) (by omega)).mono ?_
  rintro r w' ⟨rfl, rfl⟩
  rw [HDD.out]
  go_wp2_with fail
  refine (HRa.out _).mono ?_
  rintro r w1 ⟨v1, u1, rfl, hv1, hu1, hb1⟩
  have HV1 := Lib.hid hv1
  have HU1 := Lib.hid hu1
  obtain ⟨A1, n1, c1, f1, rfl, -⟩ := hv1
  obtain ⟨A2, n2, c2, f2, rfl, -⟩ := hu1
  obtain ⟨hbw, hcont⟩ := Sr.begun (w := w) (w1 := w1) (A1 := A1) (A2 := A2) (n1 := n1) (c1 := c1) (n2 := n2) (c2 := c2) (T1 := 52) (T2 := 52) hb1
  have HCO := Lib.hid hcont
  have HBW := Lib.hid hbw
  clear hb1 hcont hbw
  go_wp2_with fail
  refine (HTP.out _ _ _ (HV1.out.below HBW.out) (HU1.out.below HBW.out)).mono ?_
  rintro r w2 ⟨v2, u2, rfl, hv2, hu2, hb2⟩
  obtain ⟨⟨k1, k2, k3, k4⟩, hsr⟩ := HCO.out w2 hb2
  have HSR := Lib.hid (hsr _ _ _ _ hv2 hu2)
  obtain ⟨A3, n3, c3, f3, rfl, -⟩ := hv2
  obtain ⟨A4, n4, c4, f4, rfl, -⟩ := hu2
  clear hb2 hsr HCO HBW HTP HV1 HU1 HRa HLn HDD HDe
  go_wp2_with fail
  clear k1 k2 k3 k4
  generalize (w2.setCell ⟨w1.heap.size, 0, none⟩ (.slice A3 n3 c3)).setCell ⟨w1.heap.size + 1, 0, none⟩ (.slice A4 n4 c4) = W3 at HSR ⊢
  go_wp2_with fail
  refine (H1'.out _ _ _ _ _ HSR.out).mono ?_
  rintro r w4 ⟨rfl, hs4⟩
  have HS4 := Lib.hid hs4
  clear hs4 HSR
  go_wp2_with fail
  refine (H2'.out _ _ _ _ _ HS4.out).mono ?_
  rintro r w5 ⟨rfl, hs5⟩
  have HS5 := Lib.hid hs5
  clear hs5 HS4
  go_wp2_with fail
  refine (H3'.out _ _ _ _ _ HS5.out).mono ?_
  rintro r w6 ⟨rfl, hs6⟩
  have HS6 := Lib.hid hs6
  obtain ⟨r0, r1, r2, r3, r4⟩ := hs6.rall
  obtain ⟨m0, m1, m2, m3, m4⟩ := hs6.rmk
  clear hs6 HS5 H1' H2' H3'
  cases fb
  case false =>
    have hFx : FF = F0 := by rw [hF']; simp [hpar]
    have hLx : LL = L0 := by rw [hL']; simp [hpar]
    clear hF' hL'
    go_wp2_with fail
    have hFz : ((F0 : Nat) : Int) = (F0 : Int) := by omega
    have hLz : ((L0 : Nat) : Int) = (L0 : Int) := by omega
    refine bodyPost_ret (v := .agg #[.int .u64 (A0 : Int), .bool ab, .int .u64 ((F0 : Int)), .int .u64 ((L0 : Int)), .int .i64 p]) (by simp [results, Tryz.results18, go_sem, r0, r1, r2, r3, r4]) rfl ⟨by rw [HV.out, hFx, hLx, hFz, hLz], ?_⟩
    exact ((((HS6.out.s.b.setCell (Nat.le_refl _) _).setCell (Nat.le_refl _) _).setCell (Nat.le_refl _) _).setCell (Nat.le_refl _) _).setCell (Nat.le_refl _) _
  case true =>
    have hFx : FF = F0 + 1 := by rw [hF']; simp [hpar]
    have hLx : LL = L0 := by rw [hL']; simp [hpar]
    clear hF' hL'
    go_wp2_with fail
    have hFz : ((F0 + 1 : Nat) : Int) = (F0 : Int) + 1 := by omega
    have hLz : ((L0 : Nat) : Int) = (L0 : Int) := by omega
    refine bodyPost_ret (v := .agg #[.int .u64 (A0 : Int), .bool ab, .int .u64 ((F0 : Int) + 1), .int .u64 ((L0 : Int)), .int .i64 p]) (by simp [results, Tryz.results18, go_sem, r0, r1, r2, r3, r4]) rfl ⟨by rw [HV.out, hFx, hLx, hFz, hLz], ?_⟩
    exact ((((HS6.out.s.b.setCell (Nat.le_refl _) _).setCell (Nat.le_refl _) _).setCell (Nat.le_refl _) _).setCell (Nat.le_refl _) _).setCell (Nat.le_refl _) _
set_option maxRecDepth 100000 in
set_option maxHeartbeats 8000000 in
theorem newSpan_2e (m : Nat) (e : Int) (w : World) (hm0 : 0 < m) (hm : m < 9007199254740992) (he1 : -1074 ≤ e) (he2 : e ≤ 971) (hq : (4 * m + 2) * spX m e / spY m e < 9223372036854775807) (hl : 1 ≤ (4 * m + 2) * spX m e / spY m e) (hcm : m = 4503599627370496) (hce : -1074 < e) (hpar : m % 2 = 0) :
    Calls Tryz.prog 18 #[.int .u64 (m : Int), .int .i64 e] w (SpAns m e w) := by
  have hbl1 := (bl_ge (N := m) (by omega)).2
  have hbl2 : bl m ≤ 53 := bl_le (k := 53) (by omega)
  have HLn := Lib.hid (fun W => Tryz.bits_Len64 (m : Int) W (by omega) (by omega))
  rw [Int.toNat_natCast, bitLen_nat (by omega)] at HLn
  have HDe := Lib.hid (fun n W (h1 : -1100 ≤ n) (h2 : n ≤ 1100) => decimals_any n W h1 h2)
  obtain ⟨p, hp⟩ : ∃ p, spP m e = p := ⟨_, rfl⟩
  have hpd : dcm ((bl m : Int) - 1 + e) + 1 - 18 = p := hp
  have hdb : -400 ≤ dcm ((bl m : Int) - 1 + e) ∧ dcm ((bl m : Int) - 1 + e) ≤ 400 := by unfold dcm; omega
  obtain ⟨dd, hdd⟩ : ∃ d, dcm ((bl m : Int) - 1 + e) = d := ⟨_, rfl⟩
  obtain ⟨K, hK⟩ : ∃ K, bl m = K := ⟨_, rfl⟩
  rw [hdd] at hpd hdb
  rw [hK] at hdd hbl1 hbl2 HLn
  have HDD := Lib.hid hdd
  have eX : spX m e = 10 ^ (-p).toNat * 2 ^ (e - 2).toNat := by unfold spX; rw [hp]
  have eY : spY m e = 10 ^ p.toNat * 2 ^ (-(e - 2)).toNat := by unfold spY; rw [hp]
  have HRa := Lib.hid (fun W => ratio_any ⟨#[49]⟩ (-p) W (by decide) (by decide) (by decide) (by omega) (by omega))
  rw [show dv (bt ⟨#[49]⟩) (ByteArray.size ⟨#[49]⟩) = 1 by decide, Nat.one_mul, Int.neg_neg] at HRa
  obtain ⟨hXb, hYb, hX2, hY0⟩ := sp_fits (p := p) he1 he2 (by omega) (by omega) eX eY
  have HTP := Lib.hid (fun v u W (hv : N W v (10 ^ (-p).toNat)) (hu : N W u (10 ^ p.toNat)) => ftimesPower_any v u (10 ^ (-p).toNat) (10 ^ p.toNat) (e - 2) W hv hu (by omega) (by omega) (by rw [← eX]; exact hXb) (by rw [← eY]; exact hYb))
  rw [← eX, ← eY] at HTP
  have hsB : spB m e = 1 := if_pos ⟨hcm, hce⟩
  have hF : spF m e = (4 * m - 1) * spX m e / spY m e + (if 0 < (4 * m - 1) * spX m e % spY m e ∨ m % 2 = 1 then 1 else 0) := by unfold spF; rw [hsB]
  have hL : spL m e = (4 * m + 2) * spX m e / spY m e - (if m % 2 = 1 ∧ ¬ 0 < (4 * m + 2) * spX m e % spY m e then 1 else 0) := rfl
  have hA : spA m e = 4 * m * spX m e / spY m e := rfl
  have hM : spM m e = decide (0 < 4 * m * spX m e % spY m e) := rfl
  generalize spX m e = X at *
  generalize spY m e = Y at *
  clear eX eY
  have mono : ∀ q, q ≤ 4 * m + 2 → q * X / Y < 9223372036854775807 := fun q h => Nat.lt_of_le_of_lt (Nat.div_le_div_right (Nat.mul_le_mul_right _ h)) hq
  have hA1 := mono (4 * m) (by omega)
  have hF1 := mono (4 * m - 1) (by omega)
  have H1 := Lib.hid (fun g1 g2 v u W (h : Sr w g1 g2 v u X Y W) => sr_units (4 * m) (by omega) (hX2 _ (by omega)) hXb hYb hY0 (by omega) h)
  have H2 := Lib.hid (fun g1 g2 v u W (h : Sr w g1 g2 v u X Y W) => sr_units (4 * m - 1) (by omega) (hX2 _ (by omega)) hXb hYb hY0 (by omega) h)
  have H3 := Lib.hid (fun g1 g2 v u W (h : Sr w g1 g2 v u X Y W) => sr_units (4 * m + 2) (by omega) (hX2 _ (by omega)) hXb hYb hY0 (by omega) h)
  obtain ⟨A0, hA0⟩ : ∃ q, 4 * m * X / Y = q := ⟨_, rfl⟩
  obtain ⟨F0, hF0⟩ : ∃ q, (4 * m - 1) * X / Y = q := ⟨_, rfl⟩
  obtain ⟨L0, hL0⟩ : ∃ q, (4 * m + 2) * X / Y = q := ⟨_, rfl⟩
  obtain ⟨ab, hab⟩ : ∃ q, decide (0 < 4 * m * X % Y) = q := ⟨_, rfl⟩
  obtain ⟨fb, hfb⟩ : ∃ q, decide (0 < (4 * m - 1) * X % Y) = q := ⟨_, rfl⟩
  obtain ⟨lb, hlb⟩ : ∃ q, decide (0 < (4 * m + 2) * X % Y) = q := ⟨_, rfl⟩
  rw [hA0, hab] at H1
  rw [hF0, hfb] at H2
  rw [hL0, hlb] at H3
  rw [hA0] at hA hA1
  rw [hab] at hM
  rw [hF0] at hF hF1
  rw [hL0] at hL hq hl
  obtain ⟨FF, hFF⟩ : ∃ q, spF m e = q := ⟨_, rfl⟩
  obtain ⟨LL, hLL⟩ : ∃ q, spL m e = q := ⟨_, rfl⟩
  have HV : Hid (spV (spA m e) (spM m e) (spF m e) (spL m e) (spP m e) = .agg #[.int .u64 (A0 : Int), .bool ab, .int .u64 (FF : Int), .int .u64 (LL : Int), .int .i64 p]) := Lib.hid (by unfold spV; rw [hA, hM, hp, hFF, hLL])
  rw [hFF] at hF
  rw [hLL] at hL
  have hF' : FF = F0 + (if fb = true ∨ m % 2 = 1 then 1 else 0) := by rw [hF, ← hfb]; simp only [decide_eq_true_eq]
  have hL' : LL = L0 - (if m % 2 = 1 ∧ lb = false then 1 else 0) := by rw [hL, ← hlb]; simp only [decide_eq_false_iff_not]
  clear hF hL
  have hpar2 : ((m : Int) % 2 != 0) = false := by simp; omega
  have h2z : (4 * (m : Int) - 1) = ((4 * m - 1 : Nat) : Int) := by omega
  have H2' := Lib.hid (fun g1 g2 v u W (h : Sr w g1 g2 v u X Y W) => H2.out g1 g2 v u W h)
  rw [← h2z] at H2'
  have H1' := Lib.hid (fun g1 g2 v u W (h : Sr w g1 g2 v u X Y W) => H1.out g1 g2 v u W h)
  rw [show ((4 * m : Nat) : Int) = 4 * (m : Int) by omega] at H1'
  have H3' := Lib.hid (fun g1 g2 v u W (h : Sr w g1 g2 v u X Y W) => H3.out g1 g2 v u W h)
  rw [show ((4 * m + 2 : Nat) : Int) = 4 * (m : Int) + 2 by omega] at H3'
  clear hXb hYb hX2 hY0 mono hA0 hF0 hL0 hab hfb hlb H1 H2 H3 hA hM hFF hLL hsB h2z hp hK
  have hcB : ((m : Int) == 4503599627370496) = true := by simp; omega
  have hcG : decide (e > -1074) = true := by simp; omega
  have hcH : decide (-1074 < e) = true := hcG
  clear hcm hce
  go_enter Tryz.func18, Tryz.ntmps18
  go_wp2_with fail
  refine (HLn.out _).mono ?_
  rintro r w' ⟨rfl, rfl⟩
  go_wp2_with fail
  refine (HDe.out _ _ (by omega) (by omega)).mono ?_
  rintro r w' ⟨rfl, rfl⟩
  rw [HDD.out]
  go_wp2_with fail
  refine (HRa.out _).mono ?_
  rintro r w1 ⟨v1, u1, rfl, hv1, hu1, hb1⟩
  have HV1 := Lib.hid hv1
  have HU1 := Lib.hid hu1
  obtain ⟨A1, n1, c1, f1, rfl, -⟩ := hv1
  obtain ⟨A2, n2, c2, f2, rfl, -⟩ := hu1
  obtain ⟨hbw, hcont⟩ := Sr.begun (w := w) (w1 := w1) (A1 := A1) (A2 := A2) (n1 := n1) (c1 := c1) (n2 := n2) (c2 := c2) (T1 := 52) (T2 := 52) hb1
  have HCO := Lib.hid hcont
  have HBW := Lib.hid hbw
  clear hb1 hcont hbw
  go_wp2_with fail
  refine (HTP.out _ _ _ (HV1.out.below HBW.out) (HU1.out.below HBW.out)).mono ?_
  rintro r w2 ⟨v2, u2, rfl, hv2, hu2, hb2⟩
  obtain ⟨⟨k1, k2, k3, k4⟩, hsr⟩ := HCO.out w2 hb2
  have HSR := Lib.hid (hsr _ _ _ _ hv2 hu2)
  obtain ⟨A3, n3, c3, f3, rfl, -⟩ := hv2
  obtain ⟨A4, n4, c4, f4, rfl, -⟩ := hu2
  clear hb2 hsr HCO HBW HTP HV1 HU1 HRa HLn HDD HDe
  go_wp2_with fail
  clear k1 k2 k3 k4
  generalize (w2.setCell ⟨w1.heap.size, 0, none⟩ (.slice A3 n3 c3)).setCell ⟨w1.heap.size + 1, 0, none⟩ (.slice A4 n4 c4) = W3 at HSR ⊢
  go_wp2_with fail
  refine (H1'.out _ _ _ _ _ HSR.out).mono ?_
  rintro r w4 ⟨rfl, hs4⟩
  have HS4 := Lib.hid hs4
  clear hs4 HSR
  go_wp2_with fail
  refine (H2'.out _ _ _ _ _ HS4.out).mono ?_
  rintro r w5 ⟨rfl, hs5⟩
  have HS5 := Lib.hid hs5
  clear hs5 HS4
  go_wp2_with fail
  refine (H3'.out _ _ _ _ _ HS5.out).mono ?_
  rintro r w6 ⟨rfl, hs6⟩
  have HS6 := Lib.hid hs6
  obtain ⟨r0, r1, r2, r3, r4⟩ := hs6.rall
  obtain ⟨m0, m1, m2, m3, m4⟩ := hs6.rmk
  clear hs6 HS5 H1' H2' H3'
  cases fb
  case false =>
    have hFx : FF = F0 := by rw [hF']; simp [hpar]
    have hLx : LL = L0 := by rw [hL']; simp [hpar]
    clear hF' hL'
    go_wp2_with fail
    have hFz : ((F0 : Nat) : Int) = (F0 : Int) := by omega
    have hLz : ((L0 : Nat) : Int) = (L0 : Int) := by omega
    refine bodyPost_ret (v := .agg #[.int .u64 (A0 : Int), .bool ab, .int .u64 ((F0 : Int)), .int .u64 ((L0 : Int)), .int .i64 p]) (by simp [results, Tryz.results18, go_sem, r0, r1, r2, r3, r4]) rfl ⟨by rw [HV.out, hFx, hLx, hFz, hLz], ?_⟩
    exact ((((HS6.out.s.b.setCell (Nat.le_refl _) _).setCell (Nat.le_refl _) _).setCell (Nat.le_refl _) _).setCell (Nat.le_refl _) _).setCell (Nat.le_refl _) _
  case true =>
    have hFx : FF = F0 + 1 := by rw [hF']; simp [hpar]
    have hLx : LL = L0 := by rw [hL']; simp [hpar]
    clear hF' hL'
    go_wp2_with fail
    have hFz : ((F0 + 1 : Nat) : Int) = (F0 : Int) + 1 := by omega
    have hLz : ((L0 : Nat) : Int) = (L0 : Int) := by omega
    refine bodyPost_ret (v := .agg #[.int .u64 (A0 : Int), .bool ab, .int .u64 ((F0 : Int) + 1), .int .u64 ((L0 : Int)), .int .i64 p]) (by simp [results, Tryz.results18, go_sem, r0, r1, r2, r3, r4]) rfl ⟨by rw [HV.out, hFx, hLx, hFz, hLz], ?_⟩
    exact ((((HS6.out.s.b.setCell (Nat.le_refl _) _).setCell (Nat.le_refl _) _).setCell (Nat.le_refl _) _).setCell (Nat.le_refl _) _).setCell (Nat.le_refl _) _
theorem newSpan_any (m : Nat) (e : Int) (w : World) (hm0 : 0 < m) (hm : m < 9007199254740992) (he1 : -1074 ≤ e) (he2 : e ≤ 971) (hq : (4 * m + 2) * spX m e / spY m e < 9223372036854775807) (hl : 1 ≤ (4 * m + 2) * spX m e / spY m e) :
    Calls Tryz.prog 18 #[.int .u64 (m : Int), .int .i64 e] w (SpAns m e w) := by
  by_cases c : m = 4503599627370496
  · by_cases d : -1074 < e
    · exact newSpan_2e m e w hm0 hm he1 he2 hq hl c d (by omega)
    · exact newSpan_1e m e w hm0 hm he1 he2 hq hl c d (by omega)
  · rcases (by omega : m % 2 = 0 ∨ m % 2 = 1) with h | h
    · exact newSpan_0e m e w hm0 hm he1 he2 hq hl c h
    · exact newSpan_0o m e w hm0 hm he1 he2 hq hl c h
end Go.Proofs.YtcndkhgbgjnclaaGreatDoor.nn
/- The real fdec: the span's bounds (plain). -/
namespace Go.Proofs.YtcndkhgbgjnclaaGreatDoor.nn
open Go.RowKit

/-- with k bits and the exponent e: the amount is 10^17 at least, its upper end below 4 * 10^18 -/
def spOk (k : Nat) (e : Int) : Bool :=
  let p := dcm ((k : Int) - 1 + e) + 1 - 18
  let X := 10 ^ (-p).toNat * 2 ^ (e - 2).toNat
  let Y := 10 ^ p.toNat * 2 ^ (-(e - 2)).toNat
  Nat.ble (100000000000000000 * Y) (4 * 2 ^ (k - 1) * X) && Nat.ble (4 * 2 ^ k * X) (4000000000000000000 * Y)
def okLow : Nat → Bool | 0 => true | k + 1 => spOk (k + 1) (-1074) && okLow k
def okHigh : Nat → Bool | 0 => true | j + 1 => spOk 53 ((j : Int) - 1074) && okHigh j
theorem okLow_all : okLow 53 = true := by decide +kernel
theorem okHigh_all : okHigh 2046 = true := by decide +kernel
theorem okLow_at : ∀ n, okLow n = true → ∀ k, 1 ≤ k → k ≤ n → spOk k (-1074) = true := fun n => by
  induction n with
  | zero => intro _ k h1 h2; omega
  | succ n ih =>
    intro h k h1 h2
    rw [okLow, Bool.and_eq_true] at h
    rcases (by omega : k = n + 1 ∨ k ≤ n) with rfl | g
    · exact h.1
    · exact ih h.2 k h1 g
theorem okHigh_at : ∀ n, okHigh n = true → ∀ j : Nat, j < n → spOk 53 ((j : Int) - 1074) = true := fun n => by
  induction n with
  | zero => intro _ k h1; omega
  | succ n ih =>
    intro h k h1
    rw [okHigh, Bool.and_eq_true] at h
    rcases (by omega : k = n ∨ k < n) with rfl | g
    · exact h.1
    · exact ih h.2 k g
/-- a float's m and e -/
def Fe (m : Nat) (e : Int) : Prop := 0 < m ∧ m < 2 * h52 ∧ -1074 ≤ e ∧ e ≤ 971 ∧ (e = -1074 ∨ h52 ≤ m)
theorem Fe.ok {m : Nat} {e : Int} (h : Fe m e) : spOk (bl m) e = true := by
  obtain ⟨h1, h2, h3, h4, h5⟩ := h
  have b1 := (bl_ge (N := m) (by omega)).2
  have b2 : bl m ≤ 53 := bl_le (k := 53) (by rw [h52] at h2; omega)
  rcases h5 with rfl | h5
  · exact okLow_at 53 okLow_all _ (by omega) b2
  · have b3 : bl m = 53 := by
      rcases (by omega : bl m = 53 ∨ bl m ≤ 52) with g | g
      · exact g
      · have := bl_lt m
        have := Nat.pow_le_pow_right (n := 2) (by decide) g
        rw [h52_eq] at this
        omega
    rw [b3]
    have := okHigh_at 2046 okHigh_all (e + 1074).toNat (by omega)
    rwa [show (((e + 1074).toNat : Nat) : Int) - 1074 = e by omega] at this

/-- what the ends of a span keep to -/
theorem Fe.ends {m : Nat} {e : Int} (h : Fe m e) : 0 < spY m e ∧ 100000000000000000 * spY m e ≤ 4 * m * spX m e ∧ (4 * m + 2) * spX m e < 4000000000000000000 * spY m e := by
  have h0 := h.ok
  have hX : spX m e = 10 ^ (-(spP m e)).toNat * 2 ^ (e - 2).toNat := rfl
  have hY : spY m e = 10 ^ (spP m e).toNat * 2 ^ (-(e - 2)).toNat := rfl
  have hY0 : 0 < spY m e := by rw [hY]; exact Nat.mul_pos (Nat.pow_pos (by decide)) (Nat.two_pow_pos _)
  have hX0 : 0 < spX m e := by rw [hX]; exact Nat.mul_pos (Nat.pow_pos (by decide)) (Nat.two_pow_pos _)
  have h1 : Nat.ble (100000000000000000 * spY m e) (4 * 2 ^ (bl m - 1) * spX m e) = true ∧ Nat.ble (4 * 2 ^ bl m * spX m e) (4000000000000000000 * spY m e) = true := by
    unfold spOk at h0
    simp only [Bool.and_eq_true] at h0
    exact h0
  obtain ⟨g1, g2⟩ := h1
  have g1 := Nat.le_of_ble_eq_true g1
  have g2 := Nat.le_of_ble_eq_true g2
  have hm1 := (bl_ge (N := m) (by have := h.1; omega)).1
  have hm2 := bl_lt m
  refine ⟨hY0, Nat.le_trans g1 (Nat.mul_le_mul_right _ (by omega)), Nat.lt_of_lt_of_le ?_ g2⟩
  exact Nat.mul_lt_mul_of_pos_right (by omega) hX0
theorem Fe.span {m : Nat} {e : Int} (h : Fe m e) : 100000000000000000 ≤ spA m e ∧ spA m e ≤ (4 * m + 2) * spX m e / spY m e ∧ (4 * m + 2) * spX m e / spY m e < 4000000000000000000 ∧ spF m e ≤ spA m e + 1 ∧ spL m e < 4000000000000000000 := by
  obtain ⟨h0, h1, h2⟩ := h.ends
  have a1 : 100000000000000000 ≤ spA m e := (Nat.le_div_iff_mul_le h0).2 h1
  have a2 : spA m e ≤ (4 * m + 2) * spX m e / spY m e := Nat.div_le_div_right (Nat.mul_le_mul_right _ (by omega))
  have a3 : (4 * m + 2) * spX m e / spY m e < 4000000000000000000 := (Nat.div_lt_iff_lt_mul h0).2 h2
  have a4 : (4 * m - spB m e) * spX m e / spY m e ≤ spA m e := Nat.div_le_div_right (Nat.mul_le_mul_right _ (by omega))
  refine ⟨a1, a2, a3, ?_, Nat.lt_of_le_of_lt (Nat.sub_le _ _) a3⟩
  unfold spF
  split <;> omega
end Go.Proofs.YtcndkhgbgjnclaaGreatDoor.nn
/- The walk of decimalChunks: a number in chunks of 19 decimal digits, the lowest first. -/
namespace Go.Proofs.YtcndkhgbgjnclaaGreatDoor.nn
open Go.RowKit

def D19 : Nat := 10000000000000000000
theorem d19_pos : 0 < D19 := by decide
theorem d19_lt : D19 < W64 := by decide

/-- i chunks of V are in the row v, what is left stands in block g -/
structure DcRel (base B2 : Nat) (w wr : World) (g : Nat) (V i n : Nat) (f : Nat → Nat) (cur : Array Value) (v : Value) (ch : Nat → Nat) : Prop where
  blk : Bk wr g 22 cur
  ints : Ints cur .u64 0 n f
  lt : Lt W64 f n
  trm : Trm f n
  val : sm W64 f n = V / D19 ^ i
  own : wr.ownsRow B2 22 1 v i (vl .u64 ch i)
  chs : ∀ j, j < i → ch j = V / D19 ^ j % D19
  one : 1 ≤ i
  last : i = 1 ∨ V / D19 ^ (i - 1) ≠ 0
  below : Below base w wr
  gB : g < B2
  bB : base ≤ g
  sz : B2 ≤ wr.heap.size

theorem div_pow (V D i : Nat) : V / D ^ (i + 1) = V / D ^ i / D := by rw [Nat.pow_succ, Nat.div_div_eq_div_mul]
theorem pow_div_lt {x k : Nat} (h : x < 2 ^ (k + 1)) : x / D19 < 2 ^ k := by
  rw [Nat.div_lt_iff_lt_mul d19_pos]
  have : 2 ^ k * 2 ≤ 2 ^ k * D19 := Nat.mul_le_mul_left _ (by decide)
  rw [Nat.pow_succ] at h
  omega

/-- the chunks: a row of its own with k of them -/
def Chunks (base : Nat) (w w' : World) (e : Ending) (V M : Nat) : Prop :=
  ∃ v k ch, e = .returned v ∧ w'.ownsRow base 22 1 v k (vl .u64 ch k) ∧ (∀ j, j < k → ch j = V / D19 ^ j % D19) ∧ 1 ≤ k ∧ k ≤ M ∧ (k = 1 ∨ V / D19 ^ (k - 1) ≠ 0) ∧ V / D19 ^ k = 0 ∧ Below base w w'

end Go.Proofs.YtcndkhgbgjnclaaGreatDoor.nn
/- Decimal digits: joined from pieces of 19, and read back. No program is named here. -/
namespace Go.Proofs.YtcndkhgbgjnclaaGreatDoor.nn
open Go.RowKit

/-- the last m digits of b, zeros ahead -/
def fw : Nat → Nat → List UInt8
  | 0, _ => []
  | m + 1, b => fw m (b / 10) ++ [UInt8.ofNat (48 + b % 10)]
theorem dec_big {u : Nat} (h : ¬ u < 10) : Lib.decDigits u = Lib.decDigits (u / 10) ++ [UInt8.ofNat (48 + u % 10)] := by rw [Lib.decDigits, dif_neg h]
theorem dec_join (m : Nat) : ∀ a b, a ≠ 0 → b < 10 ^ m → Lib.decDigits (a * 10 ^ m + b) = Lib.decDigits a ++ fw m b := by
  induction m with
  | zero => intro a b _ hb
            obtain rfl : b = 0 := by simpa using hb
            simp [fw]
  | succ m ih =>
    intro a b ha hb
    rw [Nat.pow_succ] at hb
    have hp : 1 ≤ a * 10 ^ m := Nat.mul_pos (by omega) (Nat.pow_pos (by decide))
    have e : a * 10 ^ (m + 1) + b = (a * 10 ^ m) * 10 + b := by rw [Nat.pow_succ, Nat.mul_assoc]
    rw [e, dec_big (by omega), show ((a * 10 ^ m) * 10 + b) / 10 = a * 10 ^ m + b / 10 by omega, show ((a * 10 ^ m) * 10 + b) % 10 = b % 10 by omega, ih a (b / 10) ha (by omega), fw, List.append_assoc]
theorem fw_zero (m : Nat) : fw m 0 = List.replicate m 48 := by
  induction m with
  | zero => rfl
  | succ m ih => rw [fw, Nat.zero_div, ih, List.replicate_succ']; rfl
theorem nd_le (m : Nat) : ∀ u, 1 ≤ m → u < 10 ^ m → Lib.nDigits u ≤ m := by
  induction m with
  | zero => intro u h; omega
  | succ m ih =>
    intro u _ hu
    by_cases h : u < 10
    · rw [Lib.nDigits_small h]; omega
    · rw [Lib.nDigits_big h]
      rw [Nat.pow_succ] at hu
      have hm : 1 ≤ m := by
        rcases Nat.eq_zero_or_pos m with e | e
        · subst e; simp at hu; omega
        · exact e
      have := ih (u / 10) hm (by omega)
      omega
theorem fw_pad (m : Nat) : ∀ b, 1 ≤ m → b < 10 ^ m → fw m b = List.replicate (m - Lib.nDigits b) 48 ++ Lib.decDigits b := by
  induction m with
  | zero => intro b h; omega
  | succ m ih =>
    intro b _ hb
    by_cases h : b < 10
    · rw [fw, show b / 10 = 0 by omega, fw_zero, Lib.nDigits_small h, Lib.decDigits_one h, Nat.add_sub_cancel, Nat.mod_eq_of_lt h]
    · rw [Nat.pow_succ] at hb
      have hm : 1 ≤ m := by
        rcases Nat.eq_zero_or_pos m with e | e
        · subst e; simp at hb; omega
        · exact e
      rw [fw, ih (b / 10) hm (by omega), dec_big h, Lib.nDigits_big h, List.append_assoc, Nat.add_sub_add_right]
theorem dec_next {V t u : Nat} (h : V / D19 ^ (t + 1) ≠ 0) (hu : u = V / D19 ^ t % D19) : Lib.decDigits (V / D19 ^ (t + 1)) ++ (List.replicate (19 - Lib.nDigits u) 48 ++ Lib.decDigits u) = Lib.decDigits (V / D19 ^ t) := by
  have hu19 : u < 10 ^ 19 := by rw [hu]; exact Nat.mod_lt _ (by decide)
  rw [← fw_pad 19 u (by decide) hu19, ← dec_join 19 _ _ h hu19, div_pow]
  congr 1
  rw [hu, show (10 : Nat) ^ 19 = D19 from rfl, Nat.mul_comm]
  exact Nat.div_add_mod _ _
theorem dec_first {V t u : Nat} (h : V / D19 ^ (t + 1) = 0) (hu : u = V / D19 ^ t % D19) : Lib.decDigits u = Lib.decDigits (V / D19 ^ t) := by
  rw [div_pow] at h
  have h2 : V / D19 ^ t < D19 := by
    rcases Nat.lt_or_ge (V / D19 ^ t) D19 with h1 | h1
    · exact h1
    · have := Nat.div_pos h1 d19_pos; omega
  rw [hu, Nat.mod_eq_of_lt h2]
theorem div_mono {V D a b : Nat} (h : V / D ^ b ≠ 0) (hab : a ≤ b) (hD : 0 < D) : V / D ^ a ≠ 0 := by
  intro e
  apply h
  have h1 : D ^ a ≤ D ^ b := Nat.pow_le_pow_right hD hab
  have h2 := Nat.div_le_div_left h1 (Nat.pow_pos hD) (a := V)
  rw [e] at h2
  exact Nat.le_zero.1 h2

/-- read back -/
def lf_ (l : List UInt8) (i : Nat) : Nat := (l.getD i 0).toNat
theorem lf_lo {l m : List UInt8} {i : Nat} (h : i < l.length) : lf_ (l ++ m) i = lf_ l i := by
  unfold lf_
  rw [List.getD_eq_getElem?_getD, List.getD_eq_getElem?_getD, List.getElem?_append_left h]
theorem lf_hi (l : List UInt8) (c : UInt8) : lf_ (l ++ [c]) l.length = c.toNat := by
  unfold lf_
  rw [List.getD_eq_getElem?_getD, List.getElem?_append_right (Nat.le_refl _), Nat.sub_self]
  rfl
theorem digit_nat {d : Nat} (h : d < 10) : (UInt8.ofNat (48 + d)).toNat = 48 + d := by
  rw [UInt8.toNat_ofNat']
  omega
theorem dec_read (u : Nat) : dgs (lf_ (Lib.decDigits u)) (Lib.decDigits u).length = true ∧ dv (lf_ (Lib.decDigits u)) (Lib.decDigits u).length = u := by
  induction u using Nat.strongRecOn with
  | _ u ih =>
    by_cases h : u < 10
    · rw [Lib.decDigits_one h]
      have e : lf_ [UInt8.ofNat (48 + u)] 0 = 48 + u := digit_nat h
      refine ⟨?_, ?_⟩
      · show (dgs _ 0 && dg _) = true
        rw [e]
        exact decide_eq_true (by omega)
      · show dv _ 0 * 10 + (lf_ _ 0 - 48) = u
        rw [e]
        show 0 * 10 + (48 + u - 48) = u
        omega
    · obtain ⟨h1, h2⟩ := ih (u / 10) (by omega)
      rw [dec_big h, List.length_append, List.length_singleton]
      have el : ∀ i, i < (Lib.decDigits (u / 10)).length → lf_ (Lib.decDigits (u / 10) ++ [UInt8.ofNat (48 + u % 10)]) i = lf_ (Lib.decDigits (u / 10)) i := fun i hi => lf_lo hi
      have eh := lf_hi (Lib.decDigits (u / 10)) (UInt8.ofNat (48 + u % 10))
      rw [digit_nat (Nat.mod_lt _ (by decide))] at eh
      refine ⟨?_, ?_⟩
      · rw [dgs, dgs_congr el, h1, eh, Bool.true_and]
        exact decide_eq_true (by omega)
      · rw [dv, dv_congr el, h2, eh]
        omega
end Go.Proofs.YtcndkhgbgjnclaaGreatDoor.nn
/- The walks of the Builder's copyCheck and WriteString: for programs whose text of copyCheck is not the library's. -/
namespace Go.Proofs.YtcndkhgbgjnclaaGreatDoor.nn
open Go.RowKit

/-- the builder in block b, of the call's own, holds the bytes l -/
def Bld (B b : Nat) (l : List UInt8) (w : World) : Prop := Lib.IsBuilder 142 5 B b (Lib.byteCells l) w

theorem infoB : (Tryz.prog.info? 142).map (·.size) = some 2 := by kernel_rfl
theorem liesB : liesAt Tryz.prog Tryz.prog.depth 142 (2 / Tryz.prog.cellsOf 142) 0 142 1 = true := by kernel_rfl
theorem infoByte : (Tryz.prog.info? 5).map (fun i => (i.zero, i.size, i.bytes)) = some (some (.int .u8 0), 1, 1) := by kernel_rfl

set_option maxRecDepth 100000 in
set_option maxHeartbeats 1000000 in
theorem copyCheck_any (B b : Nat) (bs : List Value) (w : World) (h : Lib.IsBuilder 142 5 B b bs w) :
    Calls Tryz.prog 132 #[.pointer (some ⟨b, 0, none⟩)] w fun e w' => e = .returned (.tuple #[]) ∧ Lib.BuilderAt 142 5 B b (.pointer (some ⟨b, 0, none⟩)) bs w' ∧ Below B w w' := by
  rcases h with h | h
  · obtain ⟨j, hj, hjs⟩ := Option.map_eq_some_iff.1 infoB
    have c0 := h.cell0
    have hsh := h.shape
    have hfz := h.frozen0
    have HU := Lib.hid (h.used (.pointer (some ⟨b, 0, none⟩)))
    have HB := Lib.hid ((Below.refl B w).setCell (p := ⟨b, 0, none⟩) h.1 (.pointer (some ⟨b, 0, none⟩)))
    have HS := Lib.hid hsh
    clear h hsh
    go_enter Tryz.func132, Tryz.ntmps132
    go_wp2
    rw [Lib.run_to_unsafe w ⟨b, 0, none⟩ Tryz.underlying140 Tryz.underlying186 hj (by rw [hjs]; decide) HS.out (Nat.zero_lt_succ 1)]
    simp only [Result.andThen]
    rw [Oper.upon_value]
    go_wp2
    rw [run_callFunc_extern Tryz.func160 (by kernel_rfl) (by kernel_rfl) (by kernel_rfl) (e := Extern.AbiNoEscape.same) (by kernel_rfl), Lib.run_noEscape]
    simp only [Result.andThen]
    rw [Oper.upon_value]
    go_wp2
    rw [Lib.run_from_unsafe w ⟨b, 0, none⟩ Tryz.underlying186 Tryz.underlying140 hj HS.out liesB]
    simp only [Result.andThen]
    rw [Oper.upon_value]
    go_wp2
    go_end0
    exact ⟨rfl, HU.out, HB.out⟩
  · obtain ⟨j, hj, _⟩ := Option.map_eq_some_iff.1 infoB
    have c0 := h.cell0
    have HB := Lib.hid (Below.refl B w)
    have HU := Lib.hid h
    clear h
    go_enter Tryz.func132, Tryz.ntmps132
    go_wp2
    rw [Lib.run_neq_ptr_same w _ Tryz.underlying140 hj]
    go_wp2
    go_end0
    exact ⟨rfl, HU.out, HB.out⟩

theorem bytes_append (l : List UInt8) (s : ByteArray) : Lib.byteCells l ++ Lib.strCells s = Lib.byteCells (l ++ s.data.toList) := by simp [Lib.byteCells, Lib.strCells]

set_option maxRecDepth 100000 in
set_option maxHeartbeats 1000000 in
theorem writeString_any (B b : Nat) (l : List UInt8) (s : ByteArray) (w : World) (h : Bld B b l w) (hlen : l.length + s.size ≤ 140737488355328) (hBw : B ≤ w.heap.size) :
    Calls Tryz.prog 105 #[.pointer (some ⟨b, 0, none⟩), .string s] w fun e w' => e = .returned (.tuple #[.int .i64 s.size, .nilIface]) ∧ Bld B b (l ++ s.data.toList) w' ∧ Below B w w' := by
  obtain ⟨i0, hi, hz0, hz1, hz2⟩ := info_parts infoByte
  have HC := Lib.hid (copyCheck_any B b _ w h)
  have hs63 : s.size ≤ 140737488355328 := by omega
  clear h
  go_enter Tryz.func105, Tryz.ntmps105
  go_wp2_with fail
  refine HC.out.mono ?_
  rintro e w1 ⟨rfl, h1, hb1⟩
  have c0 := h1.cell0
  obtain ⟨hB, v, hbk, hown, hne⟩ := h1
  have c1 : w1.cell? ⟨b, 1, none⟩ = some v := cell_of_row _ _ 1 _ _ _ hbk
  rw [Lib.byteCells_length] at hown
  have HNE := Lib.hid hne
  have HBK := Lib.hid hbk
  have hb1s : B ≤ w1.heap.size := Nat.le_trans hBw hb1.size
  clear hne hbk
  go_wp2_with (at_builtin; refine Lib.wpList_append_own_string _ rfl _ _ 77 9 rfl B 5 i0 Tryz.underlying77 Tryz.underlying9 hi hz0 hz1 hz2 _ _ _ rfl hown s rfl (by unfold maxLen; omega) hlen hb1s ?_)
  intro v' w2 hown' hgrow _
  have hlt : b < w1.heap.size := (Array.getElem?_eq_some_iff.1 HBK.out).1
  have hb2 : w2.heap[b]? = some (.cells #[.pointer (some ⟨b, 0, none⟩), v] 142 (0, 0)) := (hgrow.block b hlt (fun e => HNE.out e.symm)).trans HBK.out
  have d0 : w2.cell? ⟨b, 0, none⟩ = some (.pointer (some ⟨b, 0, none⟩)) := cell_of_row _ _ 0 _ _ _ hb2
  have d1 : w2.cell? ⟨b, 1, none⟩ = some v := cell_of_row _ _ 1 _ _ _ hb2
  have f1 : w2.frozen? ⟨b, 1, none⟩ = false := by simp [World.frozen?, hb2]
  rw [bytes_append] at hown'
  have hl2 : (Lib.byteCells (l ++ s.data.toList)).length = l.length + s.size := by rw [Lib.byteCells_length, List.length_append]; rfl
  have hown2 : w2.ownsRow B 5 1 v' (Lib.byteCells (l ++ s.data.toList)).length (Lib.byteCells (l ++ s.data.toList)) := by rw [hl2]; exact hown'
  have HP := Lib.hid (Lib.BuilderAt.put hB hb2 hown2 (by decide))
  have hbg := Lib.hid ((hb1.trans ((Below.refl B w1).grown hgrow hb1s (fun k hk => (hown.lt k hk).1))).setCell (p := ⟨b, 1, none⟩) hB v')
  obtain ⟨ao, n', cap, rfl⟩ : ∃ ao n' cap, v' = .slice ao n' cap := by
    rcases hown'.2 with ⟨hv, _⟩ | ⟨g, cap, cur, hv, _⟩
    · exact ⟨_, _, _, hv⟩
    · exact ⟨_, _, _, hv⟩
  clear hb2 hl2 hown2 hown' hown hgrow
  go_wp2
  go_ret2
  exact ⟨rfl, .inr HP.out, hbg.out⟩
end Go.Proofs.YtcndkhgbgjnclaaGreatDoor.nn
/- The walk of strconv.FormatUint at base 10: the decimal digits of a number of 64 bits. The table of the powers of ten is asked for. -/
namespace Go.Proofs.YtcndkhgbgjnclaaGreatDoor.nn
open Go.RowKit Go.Sort

/-- the table of the powers of ten stands in w -/
def Pow10 (w : World) : Prop := Lib.TabIs Tryz.prog w "internal/strconv.uint64pow10" .u64 Lib.pow10Tab

theorem below_put {α : Type} [Inhabited α] (enc : α → Value) (w : World) (o : Obj) (off : Nat) (d : Array α) (k : Nat) : Below w.heap.size w ((putRow enc (w.alloc o) w.heap.size off d).drewN k) :=
  ⟨rfl, rfl, rfl, by show w.heap.size ≤ (putRow enc (w.alloc o) w.heap.size off d).heap.size; rw [size_putRow]; simp, fun i hi => by
    show (putRow enc (w.alloc o) w.heap.size off d).heap[i]? = _
    unfold putRow mapBlock
    rw [Array.getElem?_modify, if_neg (by omega)]
    exact Below.heap_alloc _ _ _ hi⟩

set_option maxRecDepth 100000 in
set_option maxHeartbeats 2000000 in
theorem fmt_any (u : Nat) (w : World) (hu : u < 18446744073709551616) (ht : Pow10 w) :
    Calls Tryz.prog 52 #[.int .u64 (u : Int), .int .i64 10] w fun e w' => e = .returned (.string ⟨(Lib.decDigits u).toArray⟩) ∧ Below w.heap.size w w' := by
  have HB := Lib.hid (Below.refl w.heap.size w)
  by_cases h100 : u < 100
  · have HS := Lib.hid (fun W => (Tryz.internal_strconv_small u h100 W))
    have e1 : wrap64 (u : Int) = (u : Int) := by unfold wrap64; omega
    clear ht
    go_enter Tryz.func52, Tryz.ntmps52
    go_wp2_with fail
    refine (HS.out _).mono ?_
    rintro e w' ⟨rfl, rfl⟩
    go_wp2_with fail
    go_ret
    exact ⟨rfl, HB.out⟩
  · have hu1 : 1 ≤ u := by omega
    have hnd20 : Lib.nDigits u ≤ 20 := by have := Lib.numDigits_eq u hu1 hu; split at this <;> omega
    have hH := Lib.holds_zero0 w 127 (Lib.nDigits u) (by omega)
    have hfmt := Tryz.internal_strconv_formatBase10 w.heap.size 0 24 u (Array.replicate (Lib.nDigits u) 0) (w.alloc (.cells Lib.zeros24 127)) hH (by rw [Array.size_replicate]; exact Lib.lt_pow_nDigits u) hu (by rw [Array.size_replicate]; omega)
    rw [Array.size_replicate] at hfmt
    have hnum := Tryz.internal_strconv_numDigits u hu1 hu (w.alloc (.cells Lib.zeros24 127)) (Lib.tabIs_alloc ht _)
    have HNUM := Lib.hid hnum
    have HF := Lib.hid hfmt
    have HH := Lib.hid hH
    obtain ⟨nd, hnd⟩ : ∃ nd, Lib.nDigits u = nd := ⟨_, rfl⟩
    have HND := Lib.hid hnd
    rw [hnd] at HNUM HF hnd20
    have hal : Tryz.prog.arrayLen 127 = 24 := by kernel_rfl
    have hel : Tryz.prog.elem 127 = 5 := by kernel_rfl
    have hsl : ∀ W, (Instr.sliceAt 127 (.pointer (some ⟨w.heap.size, 0, none⟩)) none (some (.int .i64 (nd : Int))) none).run Tryz.prog W = .ok (.slice (some ⟨w.heap.size, 0, none⟩) nd 24) W := fun W => by
      rw [run_sliceAt_array_h W 127 ⟨w.heap.size, 0, none⟩ (by rw [hal, hel]; exact Tryz.underlying127) .i64 (nd : Int) (by omega) (by rw [hal]; omega), hal, hel]
      have z5 := Tryz.sizeOf5 W
      rw [z5]
      simp [Result.andThen, slicedAt]
      rfl
    clear hH hfmt hnum hnd ht hal hel
    go_enter Tryz.func52, Tryz.ntmps52
    go_wp2_with fail
    refine HNUM.out.mono ?_
    rintro e w' ⟨rfl, rfl⟩
    go_wp2_with fail
    refine HF.out.mono ?_
    rintro e w' ⟨rfl, k, v', dk, rfl, hF⟩
    have hcv : (convert 77 9 (.slice (some ⟨w.heap.size, 0, none⟩) nd 24)).run Tryz.prog ((putRow (fun (b : UInt8) => Value.int .u8 (b.toNat : Int)) (w.alloc (.cells Lib.zeros24 127)) w.heap.size 0 dk).drewN k) =
        .ok (.string ⟨(Lib.decDigits u).toArray⟩) ((putRow (fun (b : UInt8) => Value.int .u8 (b.toNat : Int)) (w.alloc (.cells Lib.zeros24 127)) w.heap.size 0 dk).drewN k) := by
      have hF' : Lib.FmtInv (Lib.nDigits u) u 0 v' dk := by rw [HND.out]; exact hF
      have h := run_convert_bytes_back (P := Tryz.prog) ((putRow (fun (b : UInt8) => Value.int .u8 (b.toNat : Int)) (w.alloc (.cells Lib.zeros24 127)) w.heap.size 0 dk).drewN k) 77 9 5 ⟨w.heap.size, 0, none⟩ 24 (Lib.decDigits u) Tryz.underlying77 Tryz.underlying5 Tryz.underlying9 (fun j hj => by
        rw [Lib.add_plain, Lib.row_is_numeral hF' j hj, World.cell?_drewN]
        exact cell?_putRow (fun (b : UInt8) => Value.int .u8 (b.toNat : Int)) _ w.heap.size 0 _ dk HH.out (by rw [hF'.size, Array.size_replicate]) j (by rw [hF'.size]; rw [Lib.decDigits_length] at hj; exact hj))
      rw [Lib.decDigits_length, HND.out] at h
      exact h
    have hb := Lib.hid (below_put (fun (b : UInt8) => Value.int .u8 (b.toNat : Int)) w (.cells Lib.zeros24 127) 0 dk k)
    go_wp2_with fail
    go_ret
    exact ⟨rfl, hb.out⟩
end Go.Proofs.YtcndkhgbgjnclaaGreatDoor.nn
/- The walk of strings.Repeat of "0", up to 18 times. -/
namespace Go.Proofs.YtcndkhgbgjnclaaGreatDoor.nn
open Go.RowKit

/-- so many letters 0 -/
def zs (k : Nat) : ByteArray := ⟨(List.replicate k 48).toArray⟩

def z64 : ByteArray := ⟨#[48, 48, 48, 48, 48, 48, 48, 48, 48, 48, 48, 48, 48, 48, 48, 48, 48, 48, 48, 48, 48, 48, 48, 48, 48, 48, 48, 48, 48, 48, 48, 48, 48, 48, 48, 48, 48, 48, 48, 48, 48, 48, 48, 48, 48, 48, 48, 48, 48, 48, 48, 48, 48, 48, 48, 48, 48, 48, 48, 48, 48, 48, 48, 48]⟩
theorem z64_take {k : Nat} (h : k ≤ 18) : z64.extract 0 k = zs k := by
  have : ∀ k, k < 19 → z64.extract 0 k = zs k := by decide
  exact this k (by omega)
theorem ret_str {a b : ByteArray} (h : a = b) : Ending.returned (.string a) = .returned (.string b) := by rw [h]

set_option maxRecDepth 100000 in
set_option maxHeartbeats 1000000 in
theorem hasPrefix_any (Z s : ByteArray) (w : World) (h : s.size ≤ Z.size) (he : Z.extract 0 s.size = s) (hZ : Z.size ≤ 1000000) :
    Calls Tryz.prog 135 #[.string Z, .string s] w fun e w' => e = .returned (.bool true) ∧ w = w' := by
  have key : Hid (Calls Tryz.prog 138 #[.string Z, .string s] w fun e w' => e = .returned (.bool true) ∧ w = w') := by
    refine Lib.hid ?_
    go_enter Tryz.func138, Tryz.ntmps138
    go_wp2
    go_ret
    exact ⟨rfl, rfl⟩
  clear he
  go_enter Tryz.func135, Tryz.ntmps135
  go_wp2_with fail
  refine key.out.mono ?_
  rintro e w' ⟨rfl, rfl⟩
  go_wp2_with fail
  go_ret
  exact ⟨rfl, rfl⟩

set_option maxRecDepth 100000 in
set_option maxHeartbeats 1000000 in
theorem hasPrefix_no (Z s Y : ByteArray) (w : World) (h : s.size ≤ Z.size) (he : Z.extract 0 s.size = Y) (hne' : (Y.data.toList == s.data.toList) = false) (hZ : Z.size ≤ 1000000) :
    Calls Tryz.prog 135 #[.string Z, .string s] w fun e w' => e = .returned (.bool false) ∧ w = w' := by
  have hne : (Y.toList == s.toList) = false := by rw [ByteArray.toList_eq, ByteArray.toList_eq]; exact hne'
  clear hne'
  have key : Hid (Calls Tryz.prog 138 #[.string Z, .string s] w fun e w' => e = .returned (.bool false) ∧ w = w') := by
    refine Lib.hid ?_
    go_enter Tryz.func138, Tryz.ntmps138
    go_wp2
    go_ret
    exact ⟨rfl, rfl⟩
  clear he
  go_enter Tryz.func135, Tryz.ntmps135
  go_wp2_with fail
  refine key.out.mono ?_
  rintro e w' ⟨rfl, rfl⟩
  go_wp2_with fail
  go_ret
  exact ⟨rfl, rfl⟩

set_option maxRecDepth 100000 in
set_option maxHeartbeats 2000000 in
theorem repeat_zero (k : Nat) (w : World) (hk : k ≤ 18) :
    Calls Tryz.prog 108 #[.string ⟨#[48]⟩, .int .i64 (k : Int)] w fun e w' => e = .returned (.string (zs k)) ∧ w = w' := by
  by_cases h0 : k = 0
  · subst h0
    go_enter Tryz.func108, Tryz.ntmps108
    go_wp2
    go_ret
    exact ⟨rfl, rfl⟩
  · by_cases h1 : k = 1
    · subst h1
      go_enter Tryz.func108, Tryz.ntmps108
      go_wp2
      go_ret
      exact ⟨rfl, rfl⟩
    · have h2 : 2 ≤ k := by omega
      have HM := fun W => Tryz.bits_Mul 1 k (by omega) (by omega) W
      have e1 : 1 * k / 18446744073709551616 = 0 := by omega
      have e2 : 1 * k % 18446744073709551616 = k := by omega
      rw [e1, e2] at HM
      have HMM := Lib.hid HM
      clear e1 e2 HM h0 h1
      go_enter Tryz.func108, Tryz.ntmps108
      go_wp2_with fail
      refine (HMM.out _).mono ?_
      rintro e w' ⟨rfl, rfl⟩
      go_wp2_with fail
      refine (hasPrefix_no _ _ _ _ (by decide) rfl (by decide) (by decide)).mono ?_
      rintro e w' ⟨rfl, rfl⟩
      go_wp2_with fail
      refine (hasPrefix_no _ _ _ _ (by decide) rfl (by decide) (by decide)).mono ?_
      rintro e w' ⟨rfl, rfl⟩
      go_wp2_with fail
      refine (hasPrefix_any _ _ _ (by decide) (by decide) (by decide)).mono ?_
      rintro e w' ⟨rfl, rfl⟩
      go_wp2_with fail
      go_ret
      exact ⟨ret_str (z64_take hk), rfl⟩
end Go.Proofs.YtcndkhgbgjnclaaGreatDoor.nn
/- The walk of Digits: the decimal digits of a number. The table of the powers of ten is asked for. -/
namespace Go.Proofs.YtcndkhgbgjnclaaGreatDoor.nn
open Go.RowKit

theorem fmtUint_any (u : Nat) (w : World) (hu : u < 18446744073709551616) (ht : Pow10 w) :
    Calls Tryz.prog 19 #[.int .u64 (u : Int), .int .i64 10] w fun e w' => e = .returned (.string ⟨(Lib.decDigits u).toArray⟩) ∧ Below w.heap.size w w' := by
  have H := Lib.hid (fmt_any u w hu ht)
  clear ht
  go_enter Tryz.func19, Tryz.ntmps19
  go_wp2_with fail
  refine H.out.mono ?_
  rintro e w' ⟨rfl, hb⟩
  go_wp2_with fail
  go_ret
  exact ⟨rfl, hb⟩

theorem Pow10.at_ {w : World} (h : Pow10 w) : 0 < w.heap.size := by
  unfold Pow10 Lib.TabIs World.var? at h
  rw [show Tryz.prog.globalNamed "internal/strconv.uint64pow10" = some 0 by kernel_rfl] at h
  rcases Nat.lt_or_ge 0 w.heap.size with h1 | h1
  · exact h1
  · exfalso
    have : w.heap[0]? = none := Array.getElem?_eq_none h1
    simp [this] at h
theorem Pow10.below {B : Nat} {w w' : World} (h : Pow10 w) (hb : Below B w w') (hB : 0 < B) : Pow10 w' := by
  unfold Pow10 Lib.TabIs World.var? at h ⊢
  rw [show Tryz.prog.globalNamed "internal/strconv.uint64pow10" = some 0 by kernel_rfl] at h ⊢
  simp only [Option.bind_some] at h ⊢
  rw [hb.block _ hB]
  exact h

theorem Bld.below {B b C : Nat} {l : List UInt8} {w w' : World} (h : Bld B b l w) (hb : Below C w w') (hC : w.heap.size ≤ C) : Bld B b l w' := by
  have key : ∀ p, Lib.BuilderAt 142 5 B b p (Lib.byteCells l) w → Lib.BuilderAt 142 5 B b p (Lib.byteCells l) w' := by
    rintro p ⟨h1, v, h2, ⟨h3, h4⟩, h5⟩
    have hlt : b < w.heap.size := (Array.getElem?_eq_some_iff.1 h2).1
    refine ⟨h1, v, (hb.block b (by omega)).trans h2, ⟨h3, h4.imp id ?_⟩, h5⟩
    rintro ⟨g, cap, cur, e1, e2, e3, e4⟩
    have hg : g < w.heap.size := (Array.getElem?_eq_some_iff.1 e3).1
    exact ⟨g, cap, cur, e1, e2, (hb.block g (by omega)).trans e3, e4⟩
  exact h.imp (key _) (key _)
theorem Bld.new (w : World) : Bld w.heap.size w.heap.size [] (w.alloc (.cells #[.pointer none, .slice none 0 0] 142)) :=
  .inl ⟨Nat.le_refl _, .slice none 0 0, heap_alloc_last _ _, ⟨rfl, .inl ⟨rfl, rfl⟩⟩, by simp [Value.ownBlock]⟩

/-- the digits, or nothing beside the error -/
def dgT (n : Nat) (f : Nat → Nat) : List UInt8 := if 4096 < tr f n then [] else Lib.decDigits (sm (2 ^ 32) f n)
def dgE (n : Nat) (f : Nat → Nat) : Nat := if 4096 < tr f n then 2 else 0

end Go.Proofs.YtcndkhgbgjnclaaGreatDoor.nn
