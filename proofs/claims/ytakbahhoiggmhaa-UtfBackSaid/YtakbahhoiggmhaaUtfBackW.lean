/- The walk of UtfBack. -/
import Derived.Test.YtakbahhoiggmhaaRefPoint
import Derived.Test.YtakbahhoiggmhaaEncNum
import Derived.Deep.CutBlock
import Derived.Deep.RegionHeld3
namespace Go.Proofs.Ytakbahhoiggmhaa.nn
open Go.RowKit

def Keep (w W : World) : Prop := Below w.heap.size w W

set_option maxRecDepth 100000 in
set_option maxHeartbeats 1000000 in
theorem back_walk (s E : ByteArray) (c : Int) (w : World) (a : Int) (n b k : Nat) (hs : s.size ≤ 140737488351232) (hE : E.size ≤ 4) (hk : k ≤ s.size)
    (h1 : Hid (∀ w, Calls Try.prog 17 #[.int .i64 c] w fun r w' => r = .returned (.string E) ∧ w = w'))
    (h2 : Hid (∀ w, Calls Try.prog 15 #[.string (E ++ s)] w fun r w' => r = .returned (.tuple #[.int .i64 a, .int .i64 (n : Int)]) ∧ Below w.heap.size w w'))
    (h3 : Hid (∀ w, Calls Try.prog 15 #[.string s] w fun r w' => r = .returned (.tuple #[.int .i64 (b : Int), .int .i64 (k : Int)]) ∧ Below w.heap.size w w'))
    (h4 : Hid (0 < k → ∀ w, Calls Try.prog 17 #[.int .i64 (b : Int)] w fun r w' => r = .returned (.string (s.extract 0 k)) ∧ w = w'))
    (h5 : Hid (0 < E.size → a = c ∧ n = E.size)) (h6 : Hid (k = 0 → b = 0)) :
    Calls Try.prog 6 #[.int .i64 c, .string s] w fun r w' => r = .returned (.bool true) ∧ Below w.heap.size w w' := by
  by_cases he : 0 < E.size
  · obtain ⟨ha, hn⟩ := h5.out he
    obtain rfl : a = c := ha
    have HN := Lib.hid hn
    have hne := nonempty he
    rw [hn] at h2
    clear hn
    go_enter Try.func6, Try.ntmps6
    go_wp2_with fail
    refine (h1.out _).mono ?_
    rintro r w1 ⟨rfl, rfl⟩
    go_wp2_with fail
    refine (h2.out _).mono ?_
    rintro r w2 ⟨rfl, b2⟩
    go_wp2_with fail
    refine (h3.out _).mono ?_
    rintro r w3 ⟨rfl, b3⟩
    have c3 := b2.trans (b3.mono b2.size)
    by_cases h0 : k = 0
    · have hb := h6.out h0
      obtain rfl : k = 0 := h0
      obtain rfl : b = 0 := hb
      go_wp2_with fail
      refine (awake_any _).mono ?_
      rintro r w5 ⟨rfl, b5⟩
      go_wp2_with fail
      go_ret
      exact ⟨rfl, c3.trans (b5.mono c3.size)⟩
    · have h0' : 0 < k := by omega
      have q1 : ((k : Int) == 0) = false := by simp; omega
      have H4 := Lib.hid (h4.out h0')
      go_wp2_with fail
      have C1 : Hid (∀ W, Keep w3 W → Calls Try.prog 17 #[.int .i64 (b : Int)] W fun r w' => r = .returned (.string (s.extract 0 k)) ∧ Keep w3 w') := Lib.hid fun W hW =>
        (H4.out W).mono fun e w' ⟨h1, h2⟩ => ⟨h1, h2 ▸ hW⟩
      have C2 : Hid (∀ W, Keep w3 W → Calls Try.prog 14 #[] W fun r w' => r = .returned (.bool true) ∧ Keep w3 w') := Lib.hid fun W hW =>
        (awake_any W).mono fun e w' ⟨h1, h2⟩ => ⟨h1, hW.trans (h2.mono hW.size)⟩
      have hk0 : Keep w3 w3.drew := Below.drew (Below.refl _ _)
      go_region_held3 (fun w' => Keep w3 w') (assumption)
        (first
          | (go_at_call 17; refine (C1.out _ ?_).mono ?_; assumption; rintro e w' ⟨rfl, hk5⟩)
          | (go_at_call 14; refine (C2.out _ ?_).mono ?_; assumption; rintro e w' ⟨rfl, hk5⟩))
      all_goals
        go_wp2_with fail
        go_ret
        exact ⟨rfl, c3.trans (Below.mono ‹Keep w3 _› c3.size)⟩
  · obtain rfl := empty_of (s := E) (by omega)
    clear he h5
    go_enter Try.func6, Try.ntmps6
    go_wp2_with fail
    refine (h1.out _).mono ?_
    rintro r w1 ⟨rfl, rfl⟩
    go_wp2_with fail
    refine (h2.out _).mono ?_
    rintro r w2 ⟨rfl, b2⟩
    go_wp2_with fail
    refine (h3.out _).mono ?_
    rintro r w3 ⟨rfl, b3⟩
    have c3 := b2.trans (b3.mono b2.size)
    by_cases h0 : k = 0
    · have hb := h6.out h0
      obtain rfl : k = 0 := h0
      obtain rfl : b = 0 := hb
      go_wp2_with fail
      refine (awake_any _).mono ?_
      rintro r w5 ⟨rfl, b5⟩
      go_wp2_with fail
      go_ret
      exact ⟨rfl, c3.trans (b5.mono c3.size)⟩
    · have h0' : 0 < k := by omega
      have q1 : ((k : Int) == 0) = false := by simp; omega
      have H4 := Lib.hid (h4.out h0')
      go_wp2_with fail
      have C1 : Hid (∀ W, Keep w3 W → Calls Try.prog 17 #[.int .i64 (b : Int)] W fun r w' => r = .returned (.string (s.extract 0 k)) ∧ Keep w3 w') := Lib.hid fun W hW =>
        (H4.out W).mono fun e w' ⟨h1, h2⟩ => ⟨h1, h2 ▸ hW⟩
      have C2 : Hid (∀ W, Keep w3 W → Calls Try.prog 14 #[] W fun r w' => r = .returned (.bool true) ∧ Keep w3 w') := Lib.hid fun W hW =>
        (awake_any W).mono fun e w' ⟨h1, h2⟩ => ⟨h1, hW.trans (h2.mono hW.size)⟩
      have hk0 : Keep w3 w3.drew := Below.drew (Below.refl _ _)
      go_region_held3 (fun w' => Keep w3 w') (assumption)
        (first
          | (go_at_call 17; refine (C1.out _ ?_).mono ?_; assumption; rintro e w' ⟨rfl, hk5⟩)
          | (go_at_call 14; refine (C2.out _ ?_).mono ?_; assumption; rintro e w' ⟨rfl, hk5⟩))
      all_goals
        go_wp2_with fail
        go_ret
        exact ⟨rfl, c3.trans (Below.mono ‹Keep w3 _› c3.size)⟩

theorem back_any (c : Int) (hc : -9223372036854775808 ≤ c) (hc' : c ≤ 9223372036854775807) (s : ByteArray) (hs : s.size ≤ 140737488351232) (w : World) :
    Calls Try.prog 6 #[.int .i64 c, .string s] w fun r w' => r = .returned (.bool true) ∧ Below w.heap.size w w' := by
  have hm : s.size ≤ maxLen := by unfold maxLen; omega
  have hE4 : (encF c).size ≤ 4 ∧ (0 < (encF c).size → isPt c) := by
    by_cases h : isPt c
    · obtain ⟨C, rfl⟩ := Int.eq_ofNat_of_zero_le h.1
      have := enc_bytes h
      rw [encF_yes h]
      exact ⟨by unfold EncB at this; omega, fun _ => h⟩
    · have : encF c = ⟨#[]⟩ := by unfold encF; rw [if_neg h]
      rw [this]
      exact ⟨by decide, fun h => absurd h (by decide)⟩
  have hm2 : (encF c ++ s).size ≤ maxLen := by rw [ByteArray.size_append]; unfold maxLen at *; omega
  have hpk : pok (bt s) s.size = true ∨ (ptK (bt s) s.size = 0 ∧ ptV (bt s) s.size = 0) := by
    cases h : pok (bt s) s.size with
    | true => exact .inl rfl
    | false => exact .inr ⟨by unfold ptK; rw [h]; rfl, by unfold ptV; rw [h]; rfl⟩
  have hks : ptK (bt s) s.size ≤ s.size := by
    rcases hpk with h | h
    · exact (point_enc h).2.1
    · omega
  refine back_walk s (encF c) c w _ _ _ _ hs hE4.1 hks (Lib.hid fun w => enc_any c w hc hc') (Lib.hid fun w => point_any _ w hm2) (Lib.hid fun w => point_any s w hm)
    (Lib.hid fun h0 w => ?_) (Lib.hid fun h0 => ?_) (Lib.hid fun h0 => ?_)
  · rcases hpk with h | h
    · rw [← back_str h]
      have := (point_enc h).1
      exact enc_any _ w (by unfold isPt at this; omega) (by unfold isPt at this; omega)
    · omega
  · have := there_str (hE4.2 h0) s
    exact ⟨this.2.1, this.1⟩
  · rcases hpk with h | h
    · have := (point_enc h).2.2.1; omega
    · exact h.2
end Go.Proofs.Ytakbahhoiggmhaa.nn
