/- The walk of FbitsOrder. -/
import Derived.Test.YtkgejncolchobaaFbitsLaws
import Derived.Test.YtkgejncolchobaaFbNum2
import Derived.Lib.MinMax
namespace Go.Proofs.Ytkgejncolchobaa.nn
open Go.RowKit

theorem u64_mask15 (a : Nat) (ha : a < 65536) : bits .and .u64 (a : Int) 32767 = ((a % 32768 : Nat) : Int) :=
  (u64_and_nat a 32767 (by omega) (by decide)).trans (by rw [show (32767 : Nat) = 2 ^ 15 - 1 by decide, and_mask a 15])
/-- three ways of two numbers, in order as two others are -/
theorem three {x y c d : Nat} (h1 : x < y → c < d) (h2 : y < x → d < c) (h3 : x = y → c = d) :
    ((x : Int) < (y : Int) ∧ (c : Int) < (d : Int) ∧ ((x : Int) == (y : Int)) = false ∧ ((c : Int) == (d : Int)) = false) ∨ (x = y ∧ c = d) ∨ (¬ (x : Int) < (y : Int) ∧ ¬ (c : Int) < (d : Int) ∧ ((x : Int) == (y : Int)) = false ∧ ((c : Int) == (d : Int)) = false) := by
  rcases Nat.lt_trichotomy x y with h | h | h
  · have := h1 h
    exact .inl ⟨by omega, by omega, by simp; omega, by simp; omega⟩
  · exact .inr (.inl ⟨h, h3 h⟩)
  · have := h2 h
    exact .inr (.inr ⟨by omega, by omega, by simp; omega, by simp; omega⟩)
set_option maxRecDepth 100000 in
set_option maxHeartbeats 1000000 in
theorem order_any (u : Nat) (hu : u < 256) (a : Nat) (ha : a < 65536) (b : Nat) (hb : b < 65536) (w : World) :
    Calls Try.prog 8 #[.int .u8 (u : Int), .int .u16 (a : Int), .int .u16 (b : Int)] w fun r w' => r = .returned (.bool true) ∧ Below w.heap.size w w' := by
  have ta := u64_mask15 a ha
  have tb := u64_mask15 b hb
  obtain ⟨p, hp⟩ : ∃ p, a % 32768 = p := ⟨_, rfl⟩
  obtain ⟨q, hq⟩ : ∃ q, b % 32768 = q := ⟨_, rfl⟩
  rw [hp] at ta
  rw [hq] at tb
  have hp2 : p < 32768 := by omega
  have hq2 : q < 32768 := by omega
  obtain ⟨X, hX⟩ : ∃ X, min p 31744 = X := ⟨_, rfl⟩
  obtain ⟨Y, hY⟩ : ∃ Y, min q 31744 = Y := ⟨_, rfl⟩
  have mp : min (p : Int) 31744 = (X : Int) := by omega
  have mq : min (q : Int) 31744 = (Y : Int) := by omega
  have hX2 : X ≤ 31744 := by omega
  have hY2 : Y ≤ 31744 := by omega
  clear hp hq hX hY
  have hu2 : u % 2 = 0 ∨ u % 2 = 1 := by omega
  rcases hu2 with hu2 | hu2
  · have q0 : (u : Int) % 2 = 0 := by omega
    have h1 := fun w => fwiden_any 16 X w (by omega)
    have h2 := fun w => fwiden_any 16 Y w (by omega)
    unfold WiAns at h1 h2
    rw [show paE 16 X = 0 from if_pos (fits16.2 (by omega))] at h1
    rw [show paE 16 Y = 0 from if_pos (fits16.2 (by omega))] at h2
    have h3 := three (x := X) (y := Y) (c := wiV 16 X) (d := wiV 16 Y) (fun h => wi_mono16 h hY2) (fun h => wi_mono16 h hX2) (fun h => by rw [h])
    obtain ⟨c, hc⟩ : ∃ c, wiV 16 X = c := ⟨_, rfl⟩
    obtain ⟨d, hd⟩ : ∃ d, wiV 16 Y = d := ⟨_, rfl⟩
    rw [hc] at h1 h3
    rw [hd] at h2 h3
    have H1 := Lib.hid h1
    have H2 := Lib.hid h2
    clear hc hd h1 h2 hX2 hY2 hu2
    rcases h3 with ⟨g1, g2, g3, g4⟩ | ⟨rfl, rfl⟩ | ⟨g1, g2, g3, g4⟩
    all_goals
      go_enter Try.func8, Try.ntmps8
      go_wp2_with fail
      refine (H1.out _).mono ?_
      rintro r w1 ⟨rfl, b1⟩
      go_wp2_with fail
      refine (H2.out _).mono ?_
      rintro r w2 ⟨rfl, b2⟩
      have c2 := Lib.hid (b1.trans (b2.mono b1.size))
      clear b1 b2
      go_wp2_with fail
      refine (awake5_any _).mono ?_
      rintro r w9 ⟨rfl, b9⟩
      have c9 := Lib.hid (c2.out.trans (b9.mono c2.out.size))
      clear b9 c2
      go_wp2_with fail
      go_ret
      exact ⟨rfl, c9.out⟩
  · have q0 : (u : Int) % 2 = 1 := by omega
    clear hX2 hY2 hu2
    obtain ⟨X2, hX⟩ : ∃ Z, min (a * 32768) 2139095040 = Z := ⟨_, rfl⟩
    obtain ⟨Y2, hY⟩ : ∃ Z, min (b * 32768) 2139095040 = Z := ⟨_, rfl⟩
    have mp2 : min ((a : Int) * 32768) 2139095040 = (X2 : Int) := by omega
    have mq2 : min ((b : Int) * 32768) 2139095040 = (Y2 : Int) := by omega
    have hX2 : X2 ≤ 2139095040 := by omega
    have hY2 : Y2 ≤ 2139095040 := by omega
    have h1 := fun w => fwiden_any 32 X2 w (by omega)
    have h2 := fun w => fwiden_any 32 Y2 w (by omega)
    unfold WiAns at h1 h2
    rw [show paE 32 X2 = 0 from if_pos (fits32.2 (by omega))] at h1
    rw [show paE 32 Y2 = 0 from if_pos (fits32.2 (by omega))] at h2
    have h3 := three (x := X2) (y := Y2) (c := wiV 32 X2) (d := wiV 32 Y2) (fun h => wi_mono32 h hY2) (fun h => wi_mono32 h hX2) (fun h => by rw [h])
    obtain ⟨c, hc⟩ : ∃ c, wiV 32 X2 = c := ⟨_, rfl⟩
    obtain ⟨d, hd⟩ : ∃ d, wiV 32 Y2 = d := ⟨_, rfl⟩
    rw [hc] at h1 h3
    rw [hd] at h2 h3
    have H1 := Lib.hid h1
    have H2 := Lib.hid h2
    clear hc hd h1 h2 hX2 hY2 hX hY
    rcases h3 with ⟨g1, g2, g3, g4⟩ | ⟨rfl, rfl⟩ | ⟨g1, g2, g3, g4⟩
    all_goals
      go_enter Try.func8, Try.ntmps8
      go_wp2_with fail
      refine (H1.out _).mono ?_
      rintro r w1 ⟨rfl, b1⟩
      go_wp2_with fail
      refine (H2.out _).mono ?_
      rintro r w2 ⟨rfl, b2⟩
      have c2 := Lib.hid (b1.trans (b2.mono b1.size))
      clear b1 b2
      go_wp2_with fail
      refine (awake5_any _).mono ?_
      rintro r w9 ⟨rfl, b9⟩
      have c9 := Lib.hid (c2.out.trans (b9.mono c2.out.size))
      clear b9 c2
      go_wp2_with fail
      go_ret
      exact ⟨rfl, c9.out⟩
end Go.Proofs.Ytkgejncolchobaa.nn
