/- The walk of BaseJoins. -/
import Derived.Test.YthkpjcaphjboeaaBaseLaws
namespace Go.Proofs.Ythkpjcaphjboeaa.nn
open Go.RowKit

theorem encB_join {L : ByteArray} {w m n p : Nat} {f g h : Nat → Nat} (hw : w = 4 ∧ m = 1 ∨ w = 6 ∧ m = 4 ∨ w = 6 ∧ m = 1 ∨ w = 5 ∧ m = 8) (h15 : n % 15 = 0) (hf : ∀ j, j < n → h j = f j) (hg : ∀ j, j < p → h (n + j) = g j) :
    encB L w m h (n + p) ((8 * (n + p) + w - 1) / w) = encB L w m f n ((8 * n + w - 1) / w) ++ encB L w m g p ((8 * p + w - 1) / w) := by
  have e1 : (8 * (n + p) + w - 1) / w = (8 * n + w - 1) / w + (8 * p + w - 1) / w := by
    rcases hw with ⟨rfl, rfl⟩ | ⟨rfl, rfl⟩ | ⟨rfl, rfl⟩ | ⟨rfl, rfl⟩ <;> omega
  have e2 : (8 * n + w - 1) / w * w = 8 * n := by
    rcases hw with ⟨rfl, rfl⟩ | ⟨rfl, rfl⟩ | ⟨rfl, rfl⟩ | ⟨rfl, rfl⟩ <;> omega
  have e3 : up m ((8 * n + w - 1) / w) - (8 * n + w - 1) / w = 0 := by
    unfold up
    rcases hw with ⟨rfl, rfl⟩ | ⟨rfl, rfl⟩ | ⟨rfl, rfl⟩ | ⟨rfl, rfl⟩ <;> omega
  have e4 : up m ((8 * n + w - 1) / w + (8 * p + w - 1) / w) - ((8 * n + w - 1) / w + (8 * p + w - 1) / w) = up m ((8 * p + w - 1) / w) - (8 * p + w - 1) / w := by
    unfold up
    rcases hw with ⟨rfl, rfl⟩ | ⟨rfl, rfl⟩ | ⟨rfl, rfl⟩ | ⟨rfl, rfl⟩ <;> omega
  unfold encB
  rw [e1, e4, e3, List.replicate_zero, List.append_nil, ltrs_join e2 hf hg, List.append_assoc]
theorem enK_join {K n p : Nat} {f g h : Nat → Nat} (hK : K < 4) (h15 : n % 15 = 0) (hf : ∀ j, j < n → h j = f j) (hg : ∀ j, j < p → h (n + j) = g j) : enK (K : Int) h (n + p) = enK (K : Int) f n ++ enK (K : Int) g p := by
  unfold enK
  rw [if_pos (by omega), if_pos (by omega), if_pos (by omega), Int.toNat_natCast]
  exact encB_join (wid_cases hK) h15 hf hg
theorem enK_small {K n : Nat} {f : Nat → Nat} (hK : K < 4) : (enK (K : Int) f n).length ≤ 2 * n + 16 := by
  unfold enK
  rw [if_pos (by omega), Int.toNat_natCast, encB_len mlt_pos]
  unfold up nl
  rcases wid_cases hK with ⟨h1, h2⟩ | ⟨h1, h2⟩ | ⟨h1, h2⟩ | ⟨h1, h2⟩ <;> rw [h1, h2] <;> omega
theorem erK_ok {K : Nat} (h : K < 4) : erK (K : Int) = 0 := by unfold erK; rw [if_pos (by omega)]
theorem txt_app (X Y : List UInt8) : (⟨(X ++ Y).toArray⟩ : ByteArray) = (⟨X.toArray⟩ : ByteArray) ++ (⟨Y.toArray⟩ : ByteArray) := by
  apply ByteArray.ext
  simp [ByteArray.data_append]

set_option maxRecDepth 100000 in
set_option maxHeartbeats 1000000 in
theorem joins_any (kind : Nat) (_ : kind < 256) (A : Option Addr) (la c : Nat) (f : Nat → Nat) (hf256 : ∀ i, i < la → f i < 256) (hla : la ≤ 1048576) (hlc : la ≤ c) (hform : (A = none ∧ la = 0 ∧ c = 0) ∨ ∃ bb off, A = some ⟨bb, off, none⟩)
    (B : Option Addr) (lb d : Nat) (g : Nat → Nat) (hg256 : ∀ i, i < lb → g i < 256) (hlb : lb ≤ 1048576) (_ : lb ≤ d) (_ : (B = none ∧ lb = 0 ∧ d = 0) ∨ ∃ bb off, B = some ⟨bb, off, none⟩) (w : World) (hA : Rd w .u8 A la f) (hB : Rd w .u8 B lb g) :
    Calls Try.prog 5 #[.int .u8 (kind : Int), .slice A la c, .slice B lb d] w fun r w' => r = .returned (.bool true) ∧ Below w.heap.size w w' := by
  obtain ⟨i0, hi, hz0, hz1, hz2⟩ := info_out4 info_byte4
  have HA := Lib.hid hA
  have HB := Lib.hid hB
  have HFA := Lib.hid hf256
  have HFB := Lib.hid hg256
  obtain ⟨K, hK⟩ : ∃ K, kind % 4 = K := ⟨_, rfl⟩
  have hK4 : K < 4 := by omega
  have kq : (kind : Int) % 4 = (K : Int) := by omega
  obtain ⟨q, hq⟩ : ∃ q, la / 15 = q := ⟨_, rfl⟩
  have e15 : (la : Int) / 15 = (q : Int) := by omega
  obtain ⟨n, hn⟩ : ∃ n, q * 15 = n := ⟨_, rfl⟩
  have e16 : (q : Int) * 15 = (n : Int) := by omega
  have hnl : n ≤ la := by omega
  have hn15 : n % 15 = 0 := by omega
  obtain ⟨X, hX⟩ : ∃ X, enK (K : Int) f n = X := ⟨_, rfl⟩
  obtain ⟨Y, hY⟩ : ∃ Y, enK (K : Int) g lb = Y := ⟨_, rfl⟩
  have sX : X.length ≤ 2 * n + 16 := by rw [← hX]; exact enK_small hK4
  have sY : Y.length ≤ 2 * lb + 16 := by rw [← hY]; exact enK_small hK4
  obtain ⟨S, hS⟩ : ∃ S : ByteArray, (⟨X.toArray⟩ : ByteArray) = S := ⟨_, rfl⟩
  obtain ⟨T, hT⟩ : ∃ T : ByteArray, (⟨Y.toArray⟩ : ByteArray) = T := ⟨_, rfl⟩
  have zS : S.size = X.length := by rw [← hS]; rfl
  have zT : T.size = Y.length := by rw [← hT]; rfl
  have H1 : Hid (∀ (W : World) A c, Rd W .u8 A n f → Calls Try.prog 6 #[.int .i64 (K : Int), .slice A n c] W fun e w' => e = .returned (.tuple #[.string S, .int .i64 0]) ∧ Below W.heap.size W w') := Lib.hid fun W A c h => by
    have := bencode_any (K : Int) A n c f W h (fun j hj => HFA.out j (by omega)) (by omega)
    unfold EncAns at this
    rw [hX, hS, erK_ok hK4] at this
    exact this
  have H2 : Hid (∀ (W : World) A c, Rd W .u8 A lb g → Calls Try.prog 6 #[.int .i64 (K : Int), .slice A lb c] W fun e w' => e = .returned (.tuple #[.string T, .int .i64 0]) ∧ Below W.heap.size W w') := Lib.hid fun W A c h => by
    have := bencode_any (K : Int) A lb c g W h HFB.out (by omega)
    unfold EncAns at this
    rw [hY, hT, erK_ok hK4] at this
    exact this
  have H3 : Hid (∀ (W : World) A c, Rd W .u8 A (n + lb) (jn f n g) → Calls Try.prog 6 #[.int .i64 (K : Int), .slice A (n + lb) c] W fun e w' => e = .returned (.tuple #[.string (S ++ T), .int .i64 0]) ∧ Below W.heap.size W w') := Lib.hid fun W A c h => by
    have := bencode_any (K : Int) A (n + lb) c (jn f n g) W h (fun j hj => by
      by_cases e : j < n
      · rw [jn_lo f g e]; exact HFA.out j (by omega)
      · obtain ⟨t, rfl⟩ : ∃ t, j = n + t := ⟨j - n, by omega⟩
        rw [jn_hi]; exact HFB.out t (by omega)) (by omega)
    unfold EncAns at this
    rw [enK_join (f := f) (g := g) hK4 hn15 (fun j hj => jn_lo f g hj) (fun j _ => jn_hi f g n j), hX, hY, txt_app, hS, hT, erK_ok hK4] at this
    exact this
  have hlen : ¬ 9223372036854775807 < S.size + T.size := by omega
  have HN := Lib.hid hnl
  clear hA hB hf256 hg256 hK hq hn hX hY hS hT sX sY zS zT hn15
  rcases hform with ⟨rfl, rfl, rfl⟩ | ⟨bb, off, rfl⟩
  · obtain rfl : n = 0 := by omega
    clear e15 e16 hnl hlc
    go_enter Try.func5, Try.ntmps5
    go_wp2_with fail
    refine (H1.out _ _ _ (HA.out.mono HN.out)).mono ?_
    rintro e w1 ⟨rfl, b1⟩
    have B1 := Lib.hid b1
    have H2' := Lib.hid (H2.out w1 B d (HB.out.below b1))
    clear b1
    go_wp2_with fail
    refine H2'.out.mono ?_
    rintro e w2 ⟨rfl, b2⟩
    have B2 := Lib.hid (B1.out.trans (b2.mono B1.out.size))
    clear b2
    have hn2 : 0 ≤ 1048576 := by have := HN.out; omega
    have RA := Lib.hid ((HA.out.mono HN.out).below B2.out)
    have RB := Lib.hid (HB.out.below B2.out)
    go_wp2_with (first
      | (at_builtin; refine wpList_app rfl (.tmp 38) (.tmp 41) _ rfl w2.heap.size 5 i0 _ 1 Try.underlying22 hi hz0 hz1 hz2 rfl .u8 _ 0 f rfl (World.ownsRow_lit w2 #[] 0 (Nat.le_refl _) (by simp [maxLen]) rfl) none 0 0 f rfl (RA.out.alloc _) (by unfold maxLen; omega) (by omega) (by simp) ?_; intro v3 w3 hown3 hb3)
      | (at_builtin; refine wpList_app rfl (.tmp 42) (.tmp 43) _ rfl w2.heap.size 5 i0 _ 1 Try.underlying22 hi hz0 hz1 hz2 rfl .u8 _ (0 + 0) (jn f 0 f) rfl hown3 B lb d g rfl (RB.out.below (((Below.refl w2.heap.size w2).alloc (Nat.le_refl _) _).trans hb3)) (by unfold maxLen; omega) (by omega) (((Below.refl w2.heap.size w2).alloc (Nat.le_refl _) _).trans hb3).size ?_; intro v4 w4 hown4 hb4))
    rw [show jn f 0 f = f from jn_zero f f, show 0 + 0 = 0 from rfl] at hown4
    obtain ⟨A4, c4, rfl, k1, k2, hr4⟩ := Rd.of_own hown4
    have B4 := Lib.hid (B2.out.trans (((((Below.refl w2.heap.size w2).alloc (Nat.le_refl _) _).trans hb3).trans hb4).mono B2.out.size))
    clear hown3 hb3
    have H3' := Lib.hid (H3.out w4 A4 c4 hr4)
    clear hown4 hb4 hr4 k1 k2
    go_wp2_with fail
    refine H3'.out.mono ?_
    rintro e w5 ⟨rfl, b5⟩
    have B5 := Lib.hid (B4.out.trans (b5.mono B4.out.size))
    clear b5
    go_wp2_with fail
    refine (awake4_any _).mono ?_
    rintro e w6 ⟨rfl, b6⟩
    have B6 := Lib.hid (B5.out.trans (b6.mono B5.out.size))
    clear b6
    go_wp2_with fail
    go_ret
    exact ⟨rfl, B6.out⟩
  · skip
    go_enter Try.func5, Try.ntmps5
    go_wp2_with fail
    refine (H1.out _ _ _ (HA.out.mono HN.out)).mono ?_
    rintro e w1 ⟨rfl, b1⟩
    have B1 := Lib.hid b1
    have H2' := Lib.hid (H2.out w1 B d (HB.out.below b1))
    clear b1
    go_wp2_with fail
    refine H2'.out.mono ?_
    rintro e w2 ⟨rfl, b2⟩
    have B2 := Lib.hid (B1.out.trans (b2.mono B1.out.size))
    clear b2
    have hn2 : n ≤ 1048576 := by have := HN.out; omega
    have RA := Lib.hid ((HA.out.mono HN.out).below B2.out)
    have RB := Lib.hid (HB.out.below B2.out)
    go_wp2_with (first
      | (at_builtin; refine wpList_app rfl (.tmp 38) (.tmp 41) _ rfl w2.heap.size 5 i0 _ 1 Try.underlying22 hi hz0 hz1 hz2 rfl .u8 _ 0 f rfl (World.ownsRow_lit w2 #[] 0 (Nat.le_refl _) (by simp [maxLen]) rfl) (some ⟨bb, off, none⟩) n c f rfl (RA.out.alloc _) (by unfold maxLen; omega) (by omega) (by simp) ?_; intro v3 w3 hown3 hb3)
      | (at_builtin; refine wpList_app rfl (.tmp 42) (.tmp 43) _ rfl w2.heap.size 5 i0 _ 1 Try.underlying22 hi hz0 hz1 hz2 rfl .u8 _ (0 + n) (jn f 0 f) rfl hown3 B lb d g rfl (RB.out.below (((Below.refl w2.heap.size w2).alloc (Nat.le_refl _) _).trans hb3)) (by unfold maxLen; omega) (by omega) (((Below.refl w2.heap.size w2).alloc (Nat.le_refl _) _).trans hb3).size ?_; intro v4 w4 hown4 hb4))
    rw [show jn f 0 f = f from jn_zero f f, show 0 + n = n from Nat.zero_add n] at hown4
    obtain ⟨A4, c4, rfl, k1, k2, hr4⟩ := Rd.of_own hown4
    have B4 := Lib.hid (B2.out.trans (((((Below.refl w2.heap.size w2).alloc (Nat.le_refl _) _).trans hb3).trans hb4).mono B2.out.size))
    clear hown3 hb3
    have H3' := Lib.hid (H3.out w4 A4 c4 hr4)
    clear hown4 hb4 hr4 k1 k2
    go_wp2_with fail
    refine H3'.out.mono ?_
    rintro e w5 ⟨rfl, b5⟩
    have B5 := Lib.hid (B4.out.trans (b5.mono B4.out.size))
    clear b5
    go_wp2_with fail
    refine (awake4_any _).mono ?_
    rintro e w6 ⟨rfl, b6⟩
    have B6 := Lib.hid (B5.out.trans (b6.mono B5.out.size))
    clear b6
    go_wp2_with fail
    go_ret
    exact ⟨rfl, B6.out⟩
end Go.Proofs.Ythkpjcaphjboeaa.nn
