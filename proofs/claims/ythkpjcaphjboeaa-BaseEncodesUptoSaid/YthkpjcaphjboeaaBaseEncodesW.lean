/- The walk of BaseEncodes. -/
import Derived.Test.YthkpjcaphjboeaaBaseLaws
namespace Go.Proofs.Ythkpjcaphjboeaa.nn
open Go.RowKit

set_option maxRecDepth 100000 in
set_option maxHeartbeats 1000000 in
theorem encodes_any (kind : Int) (_ : -9223372036854775808 ≤ kind) (_ : kind ≤ 9223372036854775807) (B : Option Addr) (m d : Nat) (b : Nat → Nat) (hb256 : ∀ i, i < m → b i < 256) (hm : m ≤ 1048576) (_ : m ≤ d) (_ : (B = none ∧ m = 0 ∧ d = 0) ∨ ∃ bb off, B = some ⟨bb, off, none⟩) (n : Int) (_ : -9223372036854775808 ≤ n) (_ : n ≤ 9223372036854775807) (w : World) (hB : Rd w .u8 B m b) :
    Calls Try.prog 3 #[.int .i64 kind, .slice B m d, .int .i64 n] w fun r w' => r = .returned (.bool true) ∧ Below w.heap.size w w' := by
  obtain ⟨i0, hi, hz0, hz1, hz2⟩ := info_out4 info_byte4
  have HB := Lib.hid hB
  have HF := Lib.hid hb256
  obtain ⟨T, hT⟩ : ∃ T : ByteArray, (⟨(enK kind b m).toArray⟩ : ByteArray) = T := ⟨_, rfl⟩
  have hTs : (0 ≤ kind ∧ kind < 4) → lnK kind (m : Int) = (T.size : Int) := fun h => by rw [enK_len (f := b) h hm, ← hT]; rfl
  obtain ⟨ln, hln⟩ : ∃ ln, lnK kind n = ln := ⟨_, rfl⟩
  have H3 := Lib.hid (fun w => blen_any kind n w)
  have H4 := Lib.hid (fun w => rlen_any kind n w)
  have H5 := Lib.hid (fun w => blen_any kind (m : Int) w)
  obtain ⟨lm, hlm⟩ : ∃ lm, lnK kind (m : Int) = lm := ⟨_, rfl⟩
  rw [hln] at H3 H4
  rw [hlm] at H5 hTs
  obtain ⟨er, her⟩ : ∃ er, erK kind = er := ⟨_, rfl⟩
  have her2 : (0 ≤ kind ∧ kind < 4 ∧ er = 0) ∨ er = 1 := by
    rw [← her]; unfold erK
    by_cases h : 0 ≤ kind ∧ kind < 4
    · rw [if_pos h]; exact .inl ⟨h.1, h.2, rfl⟩
    · rw [if_neg h]; exact .inr rfl
  have H1 : Hid (∀ (W : World) A c, Rd W .u8 A m b → Calls Try.prog 6 #[.int .i64 kind, .slice A m c] W fun e w' => e = .returned (.tuple #[.string T, .int .i64 er]) ∧ Below W.heap.size W w') := Lib.hid fun W A c h => by
    have := bencode_any kind A m c b W h HF.out (by omega)
    unfold EncAns at this
    rw [hT, her] at this
    exact this
  have H2 : Hid (∀ (W : World) A c, Rd W .u8 A m b → Calls Try.prog 7 #[.int .i64 kind, .slice A m c] W fun e w' => e = .returned (.tuple #[.string T, .int .i64 er]) ∧ Below W.heap.size W w') := Lib.hid fun W A c h => by
    have := rencode_any kind A m c b W h HF.out (by omega)
    unfold EncAns at this
    rw [hT, her] at this
    exact this
  clear hB hb256 hT hln hlm her
  rcases her2 with ⟨g1, g2, rfl⟩ | rfl
  · obtain rfl := hTs ⟨g1, g2⟩
    clear hTs
    go_enter Try.func3, Try.ntmps3
    go_wp2_with (at_builtin; refine wpList_app rfl (.tmp 13) (.tmp 14) _ rfl w.heap.size 5 i0 _ 1 Try.underlying22 hi hz0 hz1 hz2 rfl .u8 _ 0 b rfl (World.ownsRow_lit w #[] 0 (Nat.le_refl _) (by simp [maxLen]) rfl) _ m d b rfl (HB.out.alloc _) (by unfold maxLen; omega) (by omega) (by simp) ?_; intro v1 w1 hown1 hb1)
    rw [jn_zero, Nat.zero_add] at hown1
    obtain ⟨A1, c1, rfl, k1, k2, hr1⟩ := Rd.of_own hown1
    have B1 := Lib.hid (((Below.refl _ _).alloc (Nat.le_refl _) _).trans hb1)
    have H1' := Lib.hid (H1.out w1 A1 c1 hr1)
    clear hown1 hb1 hr1 k1 k2
    go_wp2_with fail
    refine H1'.out.mono ?_
    rintro e w2 ⟨rfl, hb2⟩
    have B2 := Lib.hid (B1.out.trans (hb2.mono B1.out.size))
    have H2' := Lib.hid (H2.out w2 B d (HB.out.below B2.out))
    clear hb2
    go_wp2_with fail
    refine H2'.out.mono ?_
    rintro e w3 ⟨rfl, hb3⟩
    have B3 := Lib.hid (B2.out.trans (hb3.mono B2.out.size))
    clear hb3
    go_wp2_with fail
    refine (H3.out _).mono ?_
    rintro e w4 ⟨rfl, hb4⟩
    have B4 := Lib.hid (B3.out.trans (hb4.mono B3.out.size))
    clear hb4
    go_wp2_with fail
    refine (H4.out _).mono ?_
    rintro e w7 ⟨rfl, rfl⟩
    go_wp2_with fail
    refine (H5.out _).mono ?_
    rintro e w6 ⟨rfl, hb4⟩
    have B6 := Lib.hid (B4.out.trans (hb4.mono B4.out.size))
    clear hb4
    go_wp2_with fail
    refine (awake4_any _).mono ?_
    rintro e w5 ⟨rfl, hb5⟩
    have B5 := Lib.hid (B6.out.trans (hb5.mono B6.out.size))
    clear hb5
    go_wp2_with fail
    go_ret
    exact ⟨rfl, B5.out⟩
  · clear hTs H5
    go_enter Try.func3, Try.ntmps3
    go_wp2_with (at_builtin; refine wpList_app rfl (.tmp 13) (.tmp 14) _ rfl w.heap.size 5 i0 _ 1 Try.underlying22 hi hz0 hz1 hz2 rfl .u8 _ 0 b rfl (World.ownsRow_lit w #[] 0 (Nat.le_refl _) (by simp [maxLen]) rfl) _ m d b rfl (HB.out.alloc _) (by unfold maxLen; omega) (by omega) (by simp) ?_; intro v1 w1 hown1 hb1)
    rw [jn_zero, Nat.zero_add] at hown1
    obtain ⟨A1, c1, rfl, k1, k2, hr1⟩ := Rd.of_own hown1
    have B1 := Lib.hid (((Below.refl _ _).alloc (Nat.le_refl _) _).trans hb1)
    have H1' := Lib.hid (H1.out w1 A1 c1 hr1)
    clear hown1 hb1 hr1 k1 k2
    go_wp2_with fail
    refine H1'.out.mono ?_
    rintro e w2 ⟨rfl, hb2⟩
    have B2 := Lib.hid (B1.out.trans (hb2.mono B1.out.size))
    have H2' := Lib.hid (H2.out w2 B d (HB.out.below B2.out))
    clear hb2
    go_wp2_with fail
    refine H2'.out.mono ?_
    rintro e w3 ⟨rfl, hb3⟩
    have B3 := Lib.hid (B2.out.trans (hb3.mono B2.out.size))
    clear hb3
    go_wp2_with fail
    refine (H3.out _).mono ?_
    rintro e w4 ⟨rfl, hb4⟩
    have B4 := Lib.hid (B3.out.trans (hb4.mono B3.out.size))
    clear hb4
    go_wp2_with fail
    refine (H4.out _).mono ?_
    rintro e w7 ⟨rfl, rfl⟩
    go_wp2_with fail
    refine (awake4_any _).mono ?_
    rintro e w5 ⟨rfl, hb5⟩
    have B5 := Lib.hid (B4.out.trans (hb5.mono B4.out.size))
    clear hb5
    go_wp2_with fail
    go_ret
    exact ⟨rfl, B5.out⟩
end Go.Proofs.Ythkpjcaphjboeaa.nn
