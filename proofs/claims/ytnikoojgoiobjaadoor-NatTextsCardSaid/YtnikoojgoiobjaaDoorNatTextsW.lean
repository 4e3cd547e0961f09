/- The walk of NatTexts. The table of the powers of ten is asked for. -/
import Derived.Test.YtnikoojgoiobjaaDoorRefFromBytes
import Derived.Test.YtnikoojgoiobjaaDoorRefBytes
import Derived.Test.YtnikoojgoiobjaaDoorRefFromDigits
import Derived.Test.YtnikoojgoiobjaaDoorRefDigits
import Derived.Deep.RegionHeld
import Derived.Deep.RegionHeldLaw
namespace Go.Proofs.YtnikoojgoiobjaaDoor.nn
open Go.RowKit

theorem lead_ex (b : Nat → Nat) (m : Nat) : ∃ k, Lead b m k := by
  induction m with
  | zero => exact ⟨0, Nat.le_refl _, fun i hi => absurd hi (by omega), .inl rfl⟩
  | succ m ih =>
    obtain ⟨k, h1, h2, h3⟩ := ih
    by_cases hk : k = m
    · subst hk
      by_cases hb : b k = 0
      · exact ⟨k + 1, Nat.le_refl _, fun i hi => by
          by_cases e : i = k
          · subst e; exact hb
          · exact h2 i (by omega), .inl rfl⟩
      · exact ⟨k, by omega, h2, .inr hb⟩
    · exact ⟨k, by omega, h2, .inr (by rcases h3 with h | h; exact absurd h hk; exact h)⟩

set_option maxRecDepth 100000 in
set_option maxHeartbeats 2000000 in
theorem texts_any (A B : Option Addr) (n m c d : Nat) (f b : Nat → Nat) (s : ByteArray) (w : World) (hA : Rd w .u32 A n f) (lf : Lt (2 ^ 32) f n) (hn : n ≤ c) (hc : c * 4 ≤ 140737488351232)
    (hB : Rd w .u8 B m b) (hform : (B = none ∧ m = 0 ∧ d = 0) ∨ ∃ bb off, B = some ⟨bb, off, none⟩) (lb : ∀ i, i < m → b i < 256) (hm : m ≤ d) (hd : d ≤ 140737488351232) (hs : s.size ≤ 140737488351232) (ht : Pow10 w) :
    Calls Tryd.prog 3 #[.slice A n c, .slice B m d, .string s] w fun e w' => e = .returned (.bool true) ∧ Below w.heap.size w w' := by
  obtain ⟨i0, hi, hz0, hz1, hz2⟩ := info_parts info_u8
  obtain ⟨k, hk⟩ := lead_ex b m
  have hcm : c ≤ maxLen := by unfold maxLen; omega
  have HA := Lib.hid hA
  have HB := Lib.hid hB
  have LF := Lib.hid lf
  have LB := Lib.hid lb
  have HT := Lib.hid ht
  have HTA := Lib.hid ht.at_
  have HK := Lib.hid hk
  have HF := Lib.hid hform
  clear hA hB lf lb ht hk hform
  go_enter Tryd.func3, Tryd.ntmps3
  go_wp2_with (at_builtin; refine wpList_app rfl (.tmp 20) (.tmp 21) _ rfl w.heap.size 5 i0 _ 1 Tryd.underlying23 hi hz0 hz1 hz2 rfl .u8 _ 0 b rfl (World.ownsRow_lit w #[] 0 (Nat.le_refl _) (by simp [maxLen]) rfl) _ m d b rfl (HB.out.alloc _) (by unfold maxLen; omega) (by omega) (by rw [hsz]; omega) ?_; intro v1 w1 hown1 hb1)
  rw [jn_zero, Nat.zero_add] at hown1
  obtain ⟨A1, c1, rfl, k1, k2, hr1⟩ := Rd.of_own hown1
  have B1 := Lib.hid (((Below.refl _ _).alloc (Nat.le_refl _) _).trans hb1)
  have hfb := fromBytes_any A1 m c1 b w1 hr1 LB.out k1 k2 k HK.out
  have HFB := Lib.hid hfb
  clear hown1 hb1 hr1 hfb
  go_wp2_with fail
  refine HFB.out.mono ?_
  rintro e w2 ⟨A2, n2, c2, f2, rfl, hn2, hb2⟩
  have N2 := Lib.hid hn2
  have B2 := Lib.hid (B1.out.trans (hb2.mono B1.out.size))
  have HRB := Lib.hid (rfromBytes_any B m d b w2 (HB.out.below B2.out) HF.out LB.out hm (by unfold maxLen; omega) k HK.out)
  clear hn2 hb2 HFB
  go_wp2_with fail
  refine HRB.out.mono ?_
  rintro e w3 ⟨A3, n3, c3, f3, rfl, hn3, hb3⟩
  have N2 := Lib.hid (Num.keep N2.out hb3)
  have N3 := Lib.hid hn3
  have B3 := Lib.hid (B2.out.trans (hb3.mono B2.out.size))
  have HFD := Lib.hid (fromDigits_any s w3 (by unfold maxLen; omega))
  clear hn3 hb3 HRB
  go_wp2_with fail
  refine HFD.out.mono ?_
  rintro e w4 ⟨A4, n4, c4, f4, rfl, hn4, hb4⟩
  have N2 := Lib.hid (Num.keep N2.out hb4)
  have N3 := Lib.hid (Num.keep N3.out hb4)
  have N4 := Lib.hid hn4
  have B4 := Lib.hid (B3.out.trans (hb4.mono B3.out.size))
  have HRD := Lib.hid (rfromDigits_any s w4 (by unfold maxLen; omega))
  clear hn4 hb4 HFD
  go_wp2_with fail
  refine HRD.out.mono ?_
  rintro e w5 ⟨A5, n5, c5, f5, rfl, hn5, hb5⟩
  have N2 := Lib.hid (Num.keep N2.out hb5)
  have N3 := Lib.hid (Num.keep N3.out hb5)
  have N4 := Lib.hid (Num.keep N4.out hb5)
  have N5 := Lib.hid hn5
  have B5 := Lib.hid (B4.out.trans (hb5.mono B4.out.size))
  clear hn5 hb5 HRD
  obtain ⟨N, hN⟩ : ∃ N, sm (2 ^ 32) f n = N := ⟨_, rfl⟩
  obtain ⟨G, hG⟩ : ∃ G : Nat → Nat, (fun i => N / 256 ^ ((bl N + 7) / 8 - 1 - i) % 256) = G := ⟨_, rfl⟩
  obtain ⟨M, hM⟩ : ∃ M, (bl N + 7) / 8 = M := ⟨_, rfl⟩
  obtain ⟨P, hP⟩ : ∃ P, pc G M = P := ⟨_, rfl⟩
  have C1 : Hid (∀ W, Stay w5 W → Calls Tryd.prog 9 #[.slice A2 n2 c2, .slice A3 n3 c3] W fun e w' => e = .returned (.bool true) ∧ Stay w5 w') := Lib.hid fun W hW =>
    (limbs_any A2 A3 n2 n3 c2 c3 f2 f3 _ W (Num.keep N2.out hW) (Num.keep N3.out hW)).mono fun e w' ⟨h1, j, h2⟩ => ⟨h1, by rw [h2]; exact drew_below hW j⟩
  have C2 : Hid (∀ W, Stay w5 W → Calls Tryd.prog 9 #[.slice A4 n4 c4, .slice A5 n5 c5] W fun e w' => e = .returned (.bool true) ∧ Stay w5 w') := Lib.hid fun W hW =>
    (limbs_any A4 A5 n4 n5 c4 c5 f4 f5 _ W (Num.keep N4.out hW) (Num.keep N5.out hW)).mono fun e w' ⟨h1, j, h2⟩ => ⟨h1, by rw [h2]; exact drew_below hW j⟩
  have C3 : Hid (∀ W, Stay w5 W → Calls Tryd.prog 10 #[.slice A n c] W fun e w' => ∃ A6 c6, e = .returned (.slice A6 M c6) ∧ Rd w' .u8 A6 M G ∧ Stay w5 w' ∧ Below W.heap.size W w') := Lib.hid fun W hW => by
    have h := bytes_any A n c f W ((HA.out.below B5.out).below hW) LF.out hn hcm (by omega)
    rw [hN] at h
    unfold OutB at h
    rw [hM] at h hG
    refine h.mono ?_
    rintro e w' ⟨g, O, h1, _, h3, h4, h5⟩
    exact ⟨_, _, h1, h3.congr (fun i hi => by rw [← hG]; exact h4 i hi), Below.trans hW (h5.mono hW.size), h5⟩
  have C4 : Hid (∀ W, Stay w5 W → Calls Tryd.prog 11 #[.slice A n c] W fun e w' => ∃ A6 c6, e = .returned (.slice A6 M c6) ∧ Rd w' .u8 A6 M G ∧ Stay w5 w' ∧ Below W.heap.size W w') := Lib.hid fun W hW => by
    have h := rbytes_any A n c f W ((HA.out.below B5.out).below hW) LF.out hn (by omega)
    rw [hN] at h
    unfold OutR at h
    rw [hM] at h hG
    refine h.mono ?_
    rintro e w' ⟨A6, c6, O, h1, h3, h4, h5⟩
    exact ⟨_, _, h1, h3.congr (fun i hi => by rw [← hG]; exact h4 i hi), Below.trans hW (h5.mono hW.size), h5⟩
  have CV : Hid (∀ W A6 c6, Rd W .u8 A6 M G → (convert 23 9 (.slice A6 M c6)).run Tryd.prog W = .ok (.string P) W) := Lib.hid fun W A6 c6 h => by
    rw [← hP]; exact conv_row A6 M c6 G W h
  obtain ⟨T, hTT⟩ : ∃ T : ByteArray, (⟨(dgT n f).toArray⟩ : ByteArray) = T := ⟨_, rfl⟩
  obtain ⟨E, hEE⟩ : ∃ E, dgE n f = E := ⟨_, rfl⟩
  have C5 : Hid (∀ W, Stay w5 W → Calls Tryd.prog 12 #[.slice A n c] W fun e w' => e = .returned (.tuple #[.string T, .int .i64 (E : Int)]) ∧ Stay w5 w') := Lib.hid fun W hW => by
    have h := digits_any A n c f W ((HA.out.below B5.out).below hW) LF.out hn hcm ((HT.out.below B5.out HTA.out).below hW (Nat.lt_of_lt_of_le HTA.out B5.out.size))
    rw [hTT, hEE] at h
    exact h.mono fun e w' ⟨h1, h2⟩ => ⟨h1, Below.trans hW (h2.mono hW.size)⟩
  have C6 : Hid (∀ W, Stay w5 W → Calls Tryd.prog 13 #[.slice A n c] W fun e w' => e = .returned (.tuple #[.string T, .int .i64 (E : Int)]) ∧ Stay w5 w') := Lib.hid fun W hW => by
    have h := rdigits_any A n c f W ((HA.out.below B5.out).below hW) LF.out hn hc
    rw [hTT, hEE] at h
    exact h.mono fun e w' ⟨h1, h2⟩ => ⟨h1, Below.trans hW (h2.mono hW.size)⟩
  have C7 : Hid (∀ W, Stay w5 W → Calls Tryd.prog 14 #[] W fun e w' => e = .returned (.bool true) ∧ Stay w5 w') := Lib.hid fun W hW =>
    (awake_any W).mono fun e w' ⟨h1, h2⟩ => ⟨h1, Below.trans hW (h2.mono hW.size)⟩
  clear hTT hEE
  have hk0 : Stay w5 w5.drew := Below.drew (Below.refl _ _)
  have hk00 : Stay w5 w5 := Below.refl _ _
  clear hN hG hM hP N2 N3 N4 N5
  go_wp2_with fail
  go_region_held (fun w' => Stay w5 w') (assumption) (first
    | (go_at_call_of 9 (Value.slice A2 n2 c2); refine (C1.out _ (by first | assumption | exact Below.drew ‹Stay w5 _›)).mono ?_; rintro e w6 ⟨rfl, hk6⟩)
    | (go_at_call_of 9 (Value.slice A4 n4 c4); refine (C2.out _ (by first | assumption | exact Below.drew ‹Stay w5 _›)).mono ?_; rintro e w7 ⟨rfl, hk7⟩)
    | (go_at_call 10; refine (C3.out _ (by first | assumption | exact Below.drew ‹Stay w5 _›)).mono ?_; rintro e w8 ⟨A8, c8, rfl, hr8, hk8, hb8⟩; have kc8 := CV.out w8 A8 c8 hr8; try (have hr98 := Rd.below hr9 hb8; have kc98 := CV.out w8 A9 c9 hr98))
    | (go_at_call 11; refine (C4.out _ (by first | assumption | exact Below.drew ‹Stay w5 _›)).mono ?_; rintro e w9 ⟨A9, c9, rfl, hr9, hk9, hb9⟩; have kc9 := CV.out w9 A9 c9 hr9; try (have hr89 := Rd.below hr8 hb9; have kc89 := CV.out w9 A8 c8 hr89)))
  all_goals
    clear C1 C2 C3 C4 CV
    go_wp2_with fail
    refine (C5.out _ (by assumption)).mono ?_
    rintro e wa ⟨rfl, hka⟩
    go_wp2_with fail
    refine (C6.out _ hka).mono ?_
    rintro e wb ⟨rfl, hkb⟩
    go_wp2_with fail
    refine (C7.out _ hkb).mono ?_
    rintro e wc ⟨rfl, hkc⟩
    go_wp2_with fail
    go_ret
    exact ⟨rfl, B5.out.trans (Below.mono hkc B5.out.size)⟩
end Go.Proofs.YtnikoojgoiobjaaDoor.nn
