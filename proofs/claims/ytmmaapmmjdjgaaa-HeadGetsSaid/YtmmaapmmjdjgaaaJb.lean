/- Joined texts, what is wanted of them: HeadBackW, HeadFirstW. -/
import Derived.Below
import Derived.Laws.OwnMore
import Derived.Deep.AppendLies
import Derived.Deep.Draws
import Derived.Laws.Rows
import Derived.Test.YtmmaapmmjdjgaaaProg
import Derived.WalkKit
import Derived.Lib.Hide
import Derived.Maps.AppendAt
import Derived.RegionTactic
import Derived.OwnWalk
import Derived.Deep.RegionLaw
import Derived.WalkSpells
import Derived.Deep.RegionHeld3
import Derived.Deep.QuietTactic
import Derived.BigQuiet
import Derived.Laws.BitsAllLaws
import Derived.Test.YtmmaapmmjdjgaaaShelf
import Derived.Deep.RegionWith
import Derived.IntWalk
import Derived.Lib.BitFns
import Derived.RowKit
import Derived.Deep.DeepCutAuto
import Derived.Laws.BytesArg
import Derived.Test.YtmmaapmmjdjgaaaRows
import Derived.ProofKit
import Derived.SizedLaws
import Derived.ChangeMaps5
import Derived.StillTailTactics
import Derived.Test.YtmmaapmmjdjgaaaJa
namespace Go.Proofs.Ytmmaapmmjdjgaaa.nn
open Go.RowKit

theorem pc_congr10 {f g : Nat → Nat} {n : Nat} (h : ∀ i, i < n → f i = g i) : pc f n = pc g n := by
  unfold pc
  congr 1
  exact List.map_congr_left fun i hi => by rw [h i (List.mem_range.1 hi)]
theorem hdB_lt {M n k i : Nat} (hM : M ≤ 7) (hn : k = 0 → n < 24) : hdB M n k i < 256 := by
  unfold hdB
  have := hdI_cases (k : Int)
  split
  · split
    · have := hn ‹_›; omega
    · omega
  · exact Nat.mod_lt _ (by decide)
set_option maxRecDepth 100000 in
set_option maxHeartbeats 8000000 in
theorem hback_any (M : Int) (hM1 : -9223372036854775808 ≤ M) (hM2 : M ≤ 9223372036854775807) (n : Nat) (hn : n < 18446744073709551616) (k : Int) (hk1 : -9223372036854775808 ≤ k) (hk2 : k ≤ 9223372036854775807)
    (A : Option Addr) (m c : Nat) (f : Nat → Nat) (hf : ∀ i, i < m → f i < 256) (hm : m ≤ 140737488351232) (hmc : m ≤ c) (hform : (A = none ∧ m = 0 ∧ c = 0) ∨ ∃ bb off, A = some ⟨bb, off, none⟩) (w : World) (hA : Rd w .u8 A m f) :
    Calls Try.prog 5 #[.int .i64 M, .int .u64 (n : Int), .int .i64 k, .slice A m c] w fun e w' => e = .returned (.bool true) ∧ Below w.heap.size w w' := by
  obtain ⟨i0, hi, hz0, hz1, hz2⟩ := info_parts info_byte10
  have HR := Lib.hid hA
  have H1 := Lib.hid (fun W => wide_any M n k W hn hM1 hM2 hk1 hk2)
  have HG := Lib.hid (fun W A c (h : Rd W .u8 A m f) (hc : m ≤ c) => get_any A m c f W h hf (by omega) hc)
  have HA := Lib.hid (fun W => awake10 W)
  have HF := Lib.hid hf
  have HN := Lib.hid hn
  obtain ⟨⟨r1, r2, r3, r4, r5⟩, hr⟩ : ∃ r, gtR f m = r := ⟨_, rfl⟩
  have HT : Hid (r5 = 0 → r2 ≠ 31 → ¬ (r1 = 7 ∧ 24 < r2) → ∃ K, r4 = K + 1 ∧ K ≤ 8 ∧ r1 ≤ 7 ∧ r3 < 18446744073709551616 ∧ K + 1 ≤ m ∧ hdOk (r1 : Int) r3 (K : Int) = true ∧ ∀ i, i < K + 1 → hdB r1 r3 K i = f i) := Lib.hid fun h5 h2 h7 => gt_forth (by rw [hr, h5]) HF.out h2 h7
  unfold GtAns gtV at HG
  rw [hr] at HG
  unfold HdAns at H1
  clear hr hA hf hn hM1 hM2 hk1 hk2
  go_enter Try.func5, Try.ntmps5
  go_wp2_with fail
  refine (H1.out _).mono ?_
  rintro e w1 ⟨⟨h1, A1, c1, rfl, q1, hq1, hq2⟩ | ⟨h1, rfl⟩, b1⟩
  · obtain ⟨hM, hk⟩ : (0 ≤ M ∧ M ≤ 7) ∧ (0 ≤ k ∧ k ≤ 8) := by have := hdOk_parts h1; omega
    have HH := Lib.hid (And.intro h1 (And.intro q1 b1))
    obtain ⟨q, rfl⟩ : ∃ q : Nat, k = (q : Int) := ⟨k.toNat, by omega⟩
    obtain ⟨p, rfl⟩ : ∃ p : Nat, M = (p : Int) := ⟨M.toNat, by omega⟩
    rw [Int.toNat_natCast] at HH hq1 ⊢
    rw [Int.toNat_natCast] at HH
    have hb : ∀ i, hdB p n q i < 256 := fun i => hdB_lt (by omega) (by
      rintro rfl
      have := hdOk_parts h1
      have := hdS_cases n
      omega)
    have HX : Hid (∃ x, gtR (jn (hdB p n q) (q + 1) f) (q + 1 + m) = (p, x, n, q + 1, 0)) := Lib.hid (by
      have := gt_back (f := jn (hdB p n q) (q + 1) f) (m := q + 1 + m) h1 HN.out (fun i hi => by rw [Int.toNat_natCast, Int.toNat_natCast] at *; exact jn_lo _ _ hi) (by omega)
      rw [Int.toNat_natCast, Int.toNat_natCast] at this
      exact this)
    have HV := Lib.hid (fun W A c (h : Rd W .u8 A (q + 1 + m) (jn (hdB p n q) (q + 1) f)) (hc : q + 1 + m ≤ c) => get_any A (q + 1 + m) c _ W h (fun j hj => by
      by_cases e : j < q + 1
      · rw [jn_lo _ f e]; exact hb j
      · obtain ⟨t, rfl⟩ : ∃ t, j = q + 1 + t := ⟨j - (q + 1), by omega⟩
        rw [jn_hi]; exact HF.out t (by omega)) (by omega) hc)
    unfold GtAns gtV at HV
    obtain ⟨x, hx⟩ := HX.out
    rw [hx] at HV
    clear hx HX h1 q1 b1 hb
    go_wp2_with (first
      | (at_builtin; refine wpList_app rfl (.tmp 33) (.tmp 34) _ rfl w1.heap.size 5 i0 _ 1 Try.underlying23 hi hz0 hz1 hz2 rfl .u8 _ 0 f rfl (World.ownsRow_lit w1 #[] 0 (Nat.le_refl _) (by simp [maxLen]) rfl) A1 (q + 1) c1 (hdB p n q) rfl (HH.out.2.1.alloc _) (by unfold maxLen; omega) (by omega) (by simp) ?_; intro v3 w3 hown3 hb3)
      | (at_builtin; refine wpList_app rfl (.tmp 35) (.tmp 36) _ rfl w1.heap.size 5 i0 _ 1 Try.underlying23 hi hz0 hz1 hz2 rfl .u8 _ (0 + (q + 1)) (jn f 0 (hdB p n q)) rfl hown3 A m c f rfl ((HR.out.below HH.out.2.2).below (((Below.refl w1.heap.size w1).alloc (Nat.le_refl _) _).trans hb3)) (by unfold maxLen; omega) (by omega) (((Below.refl w1.heap.size w1).alloc (Nat.le_refl _) _).trans hb3).size ?_; intro v4 w4 hown4 hb4))
    rw [show jn f 0 (hdB p n q) = hdB p n q from jn_zero _ _, show 0 + (q + 1) = q + 1 from Nat.zero_add _] at hown4
    obtain ⟨A4, c4, rfl, k1, k2, hr4⟩ := Rd.of_own hown4
    have B4 := Lib.hid (HH.out.2.2.trans (((((Below.refl w1.heap.size w1).alloc (Nat.le_refl _) _).trans hb3).trans hb4).mono HH.out.2.2.size))
    have HV' := Lib.hid (HV.out w4 A4 c4 hr4 (by omega))
    clear hown3 hb3 hown4 hb4 hr4 k1 k2 HV
    go_wp2_with fail
    refine HV'.out.mono ?_
    rintro e w4' ⟨rfl, b4'⟩
    have B4' := Lib.hid (B4.out.trans (b4'.mono B4.out.size))
    clear b4' HV'
    have H2' := Lib.hid (HG.out w4' A c (HR.out.below B4'.out) hmc)
    go_wp2_with fail
    refine H2'.out.mono ?_
    rintro e w5 ⟨rfl, b5⟩
    have B5 := Lib.hid (B4'.out.trans (b5.mono B4'.out.size))
    clear b5 H2'
    obtain ⟨Y, hY⟩ : ∃ Y, decide (r5 ≠ 0 ∨ r2 = 31 ∨ (r1 = 7 ∧ 24 < r2)) = Y := ⟨_, rfl⟩
    have HY := Lib.hid hY
    clear hY
    go_upto_region 7 with fail
    go_cut [90] (fun s90 wx => s90 = .bool Y ∧ wx = w5)
    case first =>
      by_cases t5 : r5 = 0
      · subst t5
        by_cases tx : r2 = 31
        · subst tx
          have HTY : Hid (Y = true) := Lib.hid (by rw [← HY.out]; exact decide_eq_true (by omega))
          go_wp2_with fail
          go_meet
          exact ⟨by first | (rw [HTY.out]; done) | (rw [HTY.out]; rfl) | (rw [HTY.out]; simp; omega), rfl⟩
        · have kx : ((r2 : Int) == 31) = false := neI (by omega)
          by_cases t7 : r1 = 7
          · subst t7
            by_cases t24 : 24 < r2
            · have HTY : Hid (Y = true) := Lib.hid (by rw [← HY.out]; exact decide_eq_true (by omega))
              go_wp2_with fail
              go_meet
              exact ⟨by first | (rw [HTY.out]; done) | (rw [HTY.out]; rfl) | (rw [HTY.out]; simp; omega), rfl⟩
            · have HTY : Hid (Y = false) := Lib.hid (by rw [← HY.out]; exact decide_eq_false (by omega))
              go_wp2_with fail
              go_meet
              exact ⟨by first | (rw [HTY.out]; done) | (rw [HTY.out]; rfl) | (rw [HTY.out]; simp; omega), rfl⟩
          · have k7 : ((r1 : Int) == 7) = false := neI (by omega)
            have HTY : Hid (Y = false) := Lib.hid (by rw [← HY.out]; exact decide_eq_false (by omega))
            go_wp2_with fail
            go_meet
            exact ⟨by first | (rw [HTY.out]; done) | (rw [HTY.out]; rfl) | (rw [HTY.out]; simp; omega), rfl⟩
      · have k5 : ((r5 : Int) == 0) = false := neI (by omega)
        have HTY : Hid (Y = true) := Lib.hid (by rw [← HY.out]; exact decide_eq_true (by omega))
        go_wp2_with fail
        go_meet
        exact ⟨by first | (rw [HTY.out]; done) | (rw [HTY.out]; rfl) | (rw [HTY.out]; simp; omega), rfl⟩
    case rest =>
      obtain ⟨rfl, hww⟩ := hcut
      obtain rfl : w5 = wc := hww.symm
      cases Y with
      | true =>
        clear HT
        go_wp2_with fail
        refine (HA.out _).mono ?_
        rintro e w6 ⟨rfl, b6⟩
        have B6 := Lib.hid (B5.out.trans (b6.mono B5.out.size))
        clear b6
        go_wp2_with fail
        exact bodyPost_ret (by simp [results, Try.results5, go_sem]) rfl ⟨rfl, B6.out⟩
      | false =>
        have hY := of_decide_eq_false HY.out
        have tx : r2 ≠ 31 := by omega
        have t5 : r5 = 0 := by omega
        have t7 : ¬ (r1 = 7 ∧ 24 < r2) := by omega
        obtain ⟨K, hk, hK8, hM7, hn64, hKm, hok, hB⟩ := HT.out t5 tx t7
        obtain ⟨l, hl⟩ : ∃ l, K + 1 = l := ⟨_, rfl⟩
        rw [hl] at hk hKm hB
        subst hk
        clear tx t5 t7 hY HY
        have HB := Lib.hid (And.intro hok hB)
        have HW := Lib.hid (fun W => wide_any (r1 : Int) r3 (K : Int) W hn64 (by omega) (by omega) (by omega) (by omega))
        unfold HdAns at HW
        rw [Int.toNat_natCast, Int.toNat_natCast, hl] at HW
        have e2 : (r4 : Int) - 1 = (K : Int) := by omega
        rcases hform with ⟨_, h0, _⟩ | ⟨bb, off, rfl⟩
        · omega
        · have hKc : r4 ≤ c := by omega
          have hKi : (r4 : Int) ≤ (c : Int) := by omega
          have hK0 : (0 : Int) ≤ (r4 : Int) := by omega
          have HR5 := Lib.hid ((HR.out.mono hKm).below B5.out)
          have h0r : ¬ r4 = 0 := by omega
          clear hok hB hn64 HT HG hl
          go_wp2_with fail
          refine (HW.out _).mono ?_
          rintro e w7 ⟨⟨_, A2, c2, rfl, r2', _, _⟩ | ⟨h1, _⟩, b7⟩
          · have k1 := conv_row A2 _ c2 _ w7 r2'
            have k2 := conv_row (some ⟨bb, off, none⟩) r4 c _ w7 (HR5.out.below b7)
            have k3 := conv_row A2 _ c2 _ w7.drew r2'.drew
            have k4 := conv_row (some ⟨bb, off, none⟩) r4 c _ w7.drew (HR5.out.below b7).drew
            have B7 := Lib.hid (B5.out.trans (b7.mono B5.out.size)).drew
            rw [pc_congr10 HB.out.2] at k1 k3
            obtain ⟨T, hT⟩ : ∃ T, pc f r4 = T := ⟨_, rfl⟩
            rw [hT] at k1 k2 k3 k4
            clear hT b7 r2' HR5 HW
            go_wp2_with fail
            go_still_tail 12, (by kernel_rfl)
            change wpList _ _ _ _ _ w7.drew
            go_wp2_with fail
            refine (HA.out _).mono ?_
            rintro e w6 ⟨rfl, b6⟩
            have B6 := Lib.hid (B7.out.trans (b6.mono B7.out.size))
            clear b6
            go_wp2_with fail
            exact bodyPost_ret (by simp [results, Try.results5, go_sem]) rfl ⟨rfl, B6.out⟩
          · rw [HB.out.1] at h1
            cases h1
  · have B1 := Lib.hid b1
    clear b1 h1
    have H2' := Lib.hid (HG.out w1 A c (HR.out.below B1.out) hmc)
    go_wp2_with fail
    refine H2'.out.mono ?_
    rintro e w5 ⟨rfl, b5⟩
    have B5 := Lib.hid (B1.out.trans (b5.mono B1.out.size))
    clear b5 H2'
    obtain ⟨Y, hY⟩ : ∃ Y, decide (r5 ≠ 0 ∨ r2 = 31 ∨ (r1 = 7 ∧ 24 < r2)) = Y := ⟨_, rfl⟩
    have HY := Lib.hid hY
    clear hY
    go_upto_region 7 with fail
    go_cut [90] (fun s90 wx => s90 = .bool Y ∧ wx = w5)
    case first =>
      by_cases t5 : r5 = 0
      · subst t5
        by_cases tx : r2 = 31
        · subst tx
          have HTY : Hid (Y = true) := Lib.hid (by rw [← HY.out]; exact decide_eq_true (by omega))
          go_wp2_with fail
          go_meet
          exact ⟨by first | (rw [HTY.out]; done) | (rw [HTY.out]; rfl) | (rw [HTY.out]; simp; omega), rfl⟩
        · have kx : ((r2 : Int) == 31) = false := neI (by omega)
          by_cases t7 : r1 = 7
          · subst t7
            by_cases t24 : 24 < r2
            · have HTY : Hid (Y = true) := Lib.hid (by rw [← HY.out]; exact decide_eq_true (by omega))
              go_wp2_with fail
              go_meet
              exact ⟨by first | (rw [HTY.out]; done) | (rw [HTY.out]; rfl) | (rw [HTY.out]; simp; omega), rfl⟩
            · have HTY : Hid (Y = false) := Lib.hid (by rw [← HY.out]; exact decide_eq_false (by omega))
              go_wp2_with fail
              go_meet
              exact ⟨by first | (rw [HTY.out]; done) | (rw [HTY.out]; rfl) | (rw [HTY.out]; simp; omega), rfl⟩
          · have k7 : ((r1 : Int) == 7) = false := neI (by omega)
            have HTY : Hid (Y = false) := Lib.hid (by rw [← HY.out]; exact decide_eq_false (by omega))
            go_wp2_with fail
            go_meet
            exact ⟨by first | (rw [HTY.out]; done) | (rw [HTY.out]; rfl) | (rw [HTY.out]; simp; omega), rfl⟩
      · have k5 : ((r5 : Int) == 0) = false := neI (by omega)
        have HTY : Hid (Y = true) := Lib.hid (by rw [← HY.out]; exact decide_eq_true (by omega))
        go_wp2_with fail
        go_meet
        exact ⟨by first | (rw [HTY.out]; done) | (rw [HTY.out]; rfl) | (rw [HTY.out]; simp; omega), rfl⟩
    case rest =>
      obtain ⟨rfl, hww⟩ := hcut
      obtain rfl : w5 = wc := hww.symm
      cases Y with
      | true =>
        clear HT
        go_wp2_with fail
        refine (HA.out _).mono ?_
        rintro e w6 ⟨rfl, b6⟩
        have B6 := Lib.hid (B5.out.trans (b6.mono B5.out.size))
        clear b6
        go_wp2_with fail
        exact bodyPost_ret (by simp [results, Try.results5, go_sem]) rfl ⟨rfl, B6.out⟩
      | false =>
        have hY := of_decide_eq_false HY.out
        have tx : r2 ≠ 31 := by omega
        have t5 : r5 = 0 := by omega
        have t7 : ¬ (r1 = 7 ∧ 24 < r2) := by omega
        obtain ⟨K, hk, hK8, hM7, hn64, hKm, hok, hB⟩ := HT.out t5 tx t7
        obtain ⟨l, hl⟩ : ∃ l, K + 1 = l := ⟨_, rfl⟩
        rw [hl] at hk hKm hB
        subst hk
        clear tx t5 t7 hY HY
        have HB := Lib.hid (And.intro hok hB)
        have HW := Lib.hid (fun W => wide_any (r1 : Int) r3 (K : Int) W hn64 (by omega) (by omega) (by omega) (by omega))
        unfold HdAns at HW
        rw [Int.toNat_natCast, Int.toNat_natCast, hl] at HW
        have e2 : (r4 : Int) - 1 = (K : Int) := by omega
        rcases hform with ⟨_, h0, _⟩ | ⟨bb, off, rfl⟩
        · omega
        · have hKc : r4 ≤ c := by omega
          have hKi : (r4 : Int) ≤ (c : Int) := by omega
          have hK0 : (0 : Int) ≤ (r4 : Int) := by omega
          have HR5 := Lib.hid ((HR.out.mono hKm).below B5.out)
          have h0r : ¬ r4 = 0 := by omega
          clear hok hB hn64 HT HG hl
          go_wp2_with fail
          refine (HW.out _).mono ?_
          rintro e w7 ⟨⟨_, A2, c2, rfl, r2', _, _⟩ | ⟨h1, _⟩, b7⟩
          · have k1 := conv_row A2 _ c2 _ w7 r2'
            have k2 := conv_row (some ⟨bb, off, none⟩) r4 c _ w7 (HR5.out.below b7)
            have k3 := conv_row A2 _ c2 _ w7.drew r2'.drew
            have k4 := conv_row (some ⟨bb, off, none⟩) r4 c _ w7.drew (HR5.out.below b7).drew
            have B7 := Lib.hid (B5.out.trans (b7.mono B5.out.size)).drew
            rw [pc_congr10 HB.out.2] at k1 k3
            obtain ⟨T, hT⟩ : ∃ T, pc f r4 = T := ⟨_, rfl⟩
            rw [hT] at k1 k2 k3 k4
            clear hT b7 r2' HR5 HW
            go_wp2_with fail
            go_still_tail 12, (by kernel_rfl)
            change wpList _ _ _ _ _ w7.drew
            go_wp2_with fail
            refine (HA.out _).mono ?_
            rintro e w6 ⟨rfl, b6⟩
            have B6 := Lib.hid (B7.out.trans (b6.mono B7.out.size))
            clear b6
            go_wp2_with fail
            exact bodyPost_ret (by simp [results, Try.results5, go_sem]) rfl ⟨rfl, B6.out⟩
          · rw [HB.out.1] at h1
            cases h1
end Go.Proofs.Ytmmaapmmjdjgaaa.nn
namespace Go.Proofs.Ytmmaapmmjdjgaaa.nn
open Go.RowKit

set_option maxRecDepth 100000 in
set_option maxHeartbeats 4000000 in
theorem hfirst_any (A : Option Addr) (m c : Nat) (f : Nat → Nat) (hf : ∀ i, i < m → f i < 256) (hm : m ≤ 140737488351232) (hmc : m ≤ c) (hform : (A = none ∧ m = 0 ∧ c = 0) ∨ ∃ bb off, A = some ⟨bb, off, none⟩)
    (B : Option Addr) (lb d : Nat) (g : Nat → Nat) (hg : ∀ i, i < lb → g i < 256) (hlb : lb ≤ 140737488351232) (_ : lb ≤ d) (_ : (B = none ∧ lb = 0 ∧ d = 0) ∨ ∃ bb off, B = some ⟨bb, off, none⟩) (w : World) (hA : Rd w .u8 A m f) (hB : Rd w .u8 B lb g) :
    Calls Try.prog 7 #[.slice A m c, .slice B lb d] w fun e w' => e = .returned (.bool true) ∧ Below w.heap.size w w' := by
  obtain ⟨i0, hi, hz0, hz1, hz2⟩ := info_parts info_byte10
  have HR := Lib.hid hA
  have HRB := Lib.hid hB
  have HG := Lib.hid (fun W A c (h : Rd W .u8 A m f) (hc : m ≤ c) => get_any A m c f W h hf (by omega) hc)
  have HA := Lib.hid (fun W => awake10 W)
  have HF := Lib.hid hf
  have HFB := Lib.hid hg
  have HT3 := Lib.hid (fun h => gt_short (f := f) (m := m) h)
  have HT4 := Lib.hid (fun k h hk => gt_form (f := f) (m := m) (k := k) h hk)
  have HT0 := Lib.hid (fun k h hk => gt_cut (f := f) (m := m) (k := k) h hk)
  have he := gt_errs (f := f) (m := m)
  obtain ⟨⟨r1, r2, r3, r4, r5⟩, hr⟩ : ∃ r, gtR f m = r := ⟨_, rfl⟩
  unfold GtAns gtV at HG
  rw [hr] at HG HT3 HT4 HT0 he
  clear hr hA hB hf hg
  go_enter Try.func7, Try.ntmps7
  have H1' := Lib.hid (HG.out w A c HR.out hmc)
  go_wp2_with fail
  refine H1'.out.mono ?_
  rintro e w1 ⟨rfl, b1⟩
  have B1 := Lib.hid b1
  clear b1 H1' HG
  rcases he with h5 | h5 | h5
  · obtain rfl : r5 = 0 := h5
    obtain ⟨h1, h2, h3⟩ := HT0.out r4 rfl rfl
    have HX := Lib.hid h3
    obtain ⟨j, hj⟩ : ∃ j, r4 - 1 = j := ⟨_, rfl⟩
    rw [hj] at HX
    have e2 : (r4 : Int) - 1 = (j : Int) := by omega
    have i1 : decide ((r4 : Int) < 1) = false := decide_eq_false (by omega)
    have i2 : decide ((m : Int) < (r4 : Int)) = false := decide_eq_false (by omega)
    have i3 : ¬ (r4 : Int) < 1 := by omega
    have i4 : ¬ (m : Int) < (r4 : Int) := by omega
    have i5 : (j : Int) ≤ (c : Int) := by omega
    have i6 : (0 : Int) ≤ (j : Int) := by omega
    have i7 : j ≤ c := by omega
    rcases hform with ⟨_, h0, _⟩ | ⟨bb, off, rfl⟩
    · omega
    · have HV := Lib.hid (fun W (h : Rd W .u8 (some ⟨bb, off, none⟩) j f) => get_any (some ⟨bb, off, none⟩) j c f W h (fun t ht => HF.out t (by omega)) (by omega) i7)
      have HRj : Hid (Rd w .u8 (some ⟨bb, off, none⟩) j f) := Lib.hid (HR.out.mono (by omega))
      unfold GtAns gtV at HV
      rw [HX.out] at HV
      clear h1 h2 h3 hj HT0 HT3 HT4 HX
      go_wp2_with fail
      refine (HV.out _ (HRj.out.below B1.out)).mono ?_
      rintro e w2 ⟨rfl, b2⟩
      have B2 := Lib.hid (B1.out.trans (b2.mono B1.out.size))
      clear b2
      go_wp2_with fail
      refine (HA.out _).mono ?_
      rintro e w6 ⟨rfl, b6⟩
      have B6 := Lib.hid (B2.out.trans (b6.mono B2.out.size))
      clear b6
      go_wp2_with fail
      exact bodyPost_ret (by simp [results, Try.results7, go_sem]) rfl ⟨rfl, B6.out⟩
  · obtain rfl : r5 = 3 := h5
    obtain ⟨h1, h2⟩ := HT3.out rfl
    obtain rfl : r4 = m := h1
    have i1 : (r4 : Int) < 9 := by omega
    clear HT0 HT3 HT4 h2
    go_wp2_with fail
    refine (HA.out _).mono ?_
    rintro e w6 ⟨rfl, b6⟩
    have B6 := Lib.hid (B1.out.trans (b6.mono B1.out.size))
    clear b6
    go_wp2_with fail
    exact bodyPost_ret (by simp [results, Try.results7, go_sem]) rfl ⟨rfl, B6.out⟩
  · obtain rfl : r5 = 4 := h5
    obtain ⟨h1, h2, h3⟩ := HT4.out r4 rfl rfl
    have HX := Lib.hid (h3 (jn f (r4 + 1) g) (r4 + 1 + lb) (fun i hi => jn_lo _ _ (by omega)) (by omega))
    obtain ⟨l, hl⟩ : ∃ l, r4 + 1 = l := ⟨_, rfl⟩
    rw [hl] at HX
    have e2 : (r4 : Int) + 1 = (l : Int) := by omega
    have i1 : ¬ (r4 : Int) < 0 := by omega
    have i2 : ¬ (1 : Int) < (r4 : Int) := by omega
    have i3 : ¬ (m : Int) ≤ (r4 : Int) := by omega
    have i5 : (l : Int) ≤ (c : Int) := by omega
    have i6 : (0 : Int) ≤ (l : Int) := by omega
    have i7 : l ≤ c := by omega
    rcases hform with ⟨_, h0, _⟩ | ⟨bb, off, rfl⟩
    · omega
    · have HV := Lib.hid (fun W A c (h : Rd W .u8 A (l + lb) (jn f l g)) (hc : l + lb ≤ c) => get_any A (l + lb) c _ W h (fun j hj => by
        by_cases e : j < l
        · rw [jn_lo _ g e]; exact HF.out j (by omega)
        · obtain ⟨t, rfl⟩ : ∃ t, j = l + t := ⟨j - l, by omega⟩
          rw [jn_hi]; exact HFB.out t (by omega)) (by omega) hc)
      have HRl := Lib.hid ((HR.out.mono (show l ≤ m by omega)).below B1.out)
      have HRb := Lib.hid (HRB.out.below B1.out)
      have hlm : l ≤ 140737488351232 := by omega
      unfold GtAns gtV at HV
      rw [HX.out] at HV
      clear h1 h2 h3 hl HT0 HT3 HT4 HX
      go_wp2_with (first
        | (at_builtin; refine wpList_app rfl (.tmp 57) (.tmp 61) _ rfl w1.heap.size 5 i0 _ 1 Try.underlying23 hi hz0 hz1 hz2 rfl .u8 _ 0 f rfl (World.ownsRow_lit w1 #[] 0 (Nat.le_refl _) (by simp [maxLen]) rfl) (some ⟨bb, off, none⟩) l c f rfl (HRl.out.alloc _) (by unfold maxLen; omega) (by omega) (by simp) ?_; intro v3 w3 hown3 hb3)
        | (at_builtin; refine wpList_app rfl (.tmp 62) (.tmp 63) _ rfl w1.heap.size 5 i0 _ 1 Try.underlying23 hi hz0 hz1 hz2 rfl .u8 _ (0 + l) (jn f 0 f) rfl hown3 B lb d g rfl (HRb.out.below (((Below.refl w1.heap.size w1).alloc (Nat.le_refl _) _).trans hb3)) (by unfold maxLen; omega) (by omega) (((Below.refl w1.heap.size w1).alloc (Nat.le_refl _) _).trans hb3).size ?_; intro v4 w4 hown4 hb4))
      rw [show jn f 0 f = f from jn_zero _ _, show 0 + l = l from Nat.zero_add _] at hown4
      obtain ⟨A4, c4, rfl, k1, k2, hr4⟩ := Rd.of_own hown4
      have B4 := Lib.hid (B1.out.trans (((((Below.refl w1.heap.size w1).alloc (Nat.le_refl _) _).trans hb3).trans hb4).mono B1.out.size))
      have HV' := Lib.hid (HV.out w4 A4 c4 hr4 (by omega))
      clear hown3 hb3 hown4 hb4 hr4 k1 k2 HV
      go_wp2_with fail
      refine HV'.out.mono ?_
      rintro e w6 ⟨rfl, b6⟩
      have B6 := Lib.hid (B4.out.trans (b6.mono B4.out.size))
      clear b6 HV'
      go_wp2_with fail
      exact bodyPost_ret (by simp [results, Try.results7, go_sem]) rfl ⟨rfl, B6.out⟩
end Go.Proofs.Ytmmaapmmjdjgaaa.nn
