/- Joined texts, what is wanted of them: CborGoesOnW. -/
import Derived.Test.YtpcladdipgchbaaGreatDoorProg
import Derived.WalkKit
import Derived.Lib.Hide
import Derived.WalkSpells
import Derived.Deep.QuietTactic
import Derived.BigQuiet
import Derived.Deep.RegionHeld3
import Derived.Laws.BitsAllLaws
import Derived.Test.YtpcladdipgchbaaGreatDoorShelf
import Derived.Deep.RegionWith
import Derived.IntWalk
import Derived.Deep.CutBlock
import Derived.StillTailTactics
import Derived.Test.YtpcladdipgchbaaGreatDoorSx
import Derived.Test.YtpcladdipgchbaaGreatDoorSi
import Derived.Test.YtpcladdipgchbaaGreatDoorSe
import Derived.Test.YtpcladdipgchbaaGreatDoorSb
import Derived.Test.YtpcladdipgchbaaGreatDoorTb
import Derived.Test.YtpcladdipgchbaaGreatDoorSd
import Derived.Test.YtpcladdipgchbaaGreatDoorSv
import Derived.Test.YtpcladdipgchbaaGreatDoorSg
import Derived.Test.YtpcladdipgchbaaGreatDoorSy
import Derived.Test.YtpcladdipgchbaaGreatDoorTc
import Derived.Test.YtpcladdipgchbaaGreatDoorSa
import Derived.Test.YtpcladdipgchbaaGreatDoorSo
import Derived.Test.YtpcladdipgchbaaGreatDoorTl
import Derived.Test.YtpcladdipgchbaaGreatDoorSn
import Derived.Test.YtpcladdipgchbaaGreatDoorTa
import Derived.Test.YtpcladdipgchbaaGreatDoorSj
import Derived.Test.YtpcladdipgchbaaGreatDoorSz
import Derived.Test.YtpcladdipgchbaaGreatDoorSf
import Derived.Test.YtpcladdipgchbaaGreatDoorSw
import Derived.Test.YtpcladdipgchbaaGreatDoorSc
import Derived.Test.YtpcladdipgchbaaGreatDoorSm
import Derived.Test.YtpcladdipgchbaaGreatDoorSt
import Derived.Test.YtpcladdipgchbaaGreatDoorSh
import Derived.Test.YtpcladdipgchbaaGreatDoorSs
import Derived.Test.YtpcladdipgchbaaGreatDoorSp
import Derived.Test.YtpcladdipgchbaaGreatDoorSr
import Derived.Test.YtpcladdipgchbaaGreatDoorSq
import Derived.Test.YtpcladdipgchbaaGreatDoorTh
import Derived.Test.YtpcladdipgchbaaGreatDoorSu
import Derived.Test.YtpcladdipgchbaaGreatDoorSl
import Derived.Test.YtpcladdipgchbaaGreatDoorTk
namespace Go.Proofs.YtpcladdipgchbaaGreatDoor.nn
open Go.RowKit

/-- the bytes that are tried, by their place -/
def m6 (j : Nat) : Nat := more6.getD j 0
theorem m6_lt (j : Nat) : m6 j < 256 := by
  have h : j = 0 ∨ j = 1 ∨ j = 2 ∨ j = 3 ∨ j = 4 ∨ j = 5 ∨ 6 ≤ j := by omega
  rcases h with rfl | rfl | rfl | rfl | rfl | rfl | h
  · decide
  · decide
  · decide
  · decide
  · decide
  · decide
  · unfold m6
    rw [List.getD_eq_getElem?_getD, List.getElem?_eq_none (by show 6 ≤ j; exact h)]
    decide
theorem m6_in {c : Nat} (h : c ∈ more6) : ∃ j, j < 6 ∧ m6 j = c := by
  simp only [more6, List.mem_cons, List.not_mem_nil, or_false] at h
  rcases h with rfl | rfl | rfl | rfl | rfl | rfl
  · exact ⟨0, by decide, rfl⟩
  · exact ⟨1, by decide, rfl⟩
  · exact ⟨2, by decide, rfl⟩
  · exact ⟨3, by decide, rfl⟩
  · exact ⟨4, by decide, rfl⟩
  · exact ⟨5, by decide, rfl⟩
/-- with one of them behind -/
def gX (X : List UInt8) (j : Nat) : List UInt8 := X ++ [UInt8.ofNat (m6 j)]
/-- which error it is then -/
def gE (X : List UInt8) (j : Nat) : Nat := (dcR 16 600 (gL (gX X j)) (X.length + 1)).2.2
theorem gE_ways (X : List UInt8) (j : Nat) : gE X j = 0 ∨ gE X j = 3 ∨ gE X j = 4 ∨ gE X j = 8 := by
  unfold gE
  rcases dcR_ways (f := gL (gX X j)) (n := X.length + 1) (fun _ _ => gL_lt) 16 600 with ⟨t, h, _⟩ | ⟨q, e, h, _, h2, _⟩
  · rw [h]; exact .inl rfl
  · rw [h]
    rcases h2 with rfl | rfl | rfl
    · exact .inr (.inl rfl)
    · exact .inr (.inr (.inl rfl))
    · exact .inr (.inr (.inr rfl))
theorem gE_more {X : List UInt8} (h : (dcR 16 600 (gL X) X.length).2.2 = 3) (hn : X.length < 600) : ∃ j, j < 6 ∧ gE X j ≠ 4 := by
  obtain ⟨c, hc, hx⟩ := dcR_more h hn
  obtain ⟨j, hj, rfl⟩ := m6_in hc
  refine ⟨j, hj, hx _ (fun i hi => gL_left hi) ?_⟩
  have := gL_right (L := X) (M := [UInt8.ofNat (m6 j)]) (i := 0)
  rw [Nat.add_zero] at this
  show gL (X ++ [UInt8.ofNat (m6 j)]) X.length = m6 j
  rw [this]
  exact u8_of (m6_lt j)
set_option maxRecDepth 100000 in
set_option maxHeartbeats 16000000 in
theorem cgoes_any (A : Option Addr) (m c : Nat) (f : Nat → Nat) (hf : ∀ i, i < m → f i < 256) (hc : c ≤ 140737488351232) (hmc : m ≤ c) (_ : (A = none ∧ m = 0 ∧ c = 0) ∨ ∃ bb off, A = some ⟨bb, off, none⟩) (w : World) (hA : Rd w .u8 A m f) (hg : Laid w) :
    Calls Tryz.prog 6 #[.slice A m c] w fun e w' => e = .returned (.bool true) ∧ Below w.heap.size w w' := by
  obtain ⟨i0, hi, hz0, hz1, hz2⟩ := info_parts infoW8
  have HAW : Hid (∀ W, Below w.heap.size w W → Calls Tryz.prog 16 #[] W fun e w' => e = .returned (.bool true) ∧ Below w.heap.size w w') := Lib.hid fun W hW => (awake11 W (hg.below hW)).mono fun e w' ⟨he, h4⟩ => ⟨he, hW.trans (h4.mono hW.size)⟩
  have HDP : Hid (∀ (W : World) (A : Option Addr) (n c : Nat) (f : Nat → Nat) (T : VT) (q e : Nat), Below w.heap.size w W → Rd W .u8 A n f → (∀ j, j < n → f j < 256) → n ≤ c → c ≤ maxLen → dcR 16 600 f n = (T, q, e) → Calls Tryz.prog 17 #[.slice A n c, .agg #[.int .i64 16, .int .i64 600, .bool false]] W fun x w' => ∃ A2 c2, x = .returned (.tuple #[vv T (.slice A2 T.l.length c2), .int .i64 (q : Int), .int .i64 (e : Int)]) ∧ Below W.heap.size W w') := Lib.hid fun W A n c f T q e hW h1 h2 h3 h4 h5 => (decode_parts 16 600 (by decide) (by decide) h1 h2 ⟨h3, h4⟩ (hg.below hW) h5).mono fun x w' ⟨A2, c2, e1, _, e3⟩ => ⟨A2, c2, e1, e3⟩
  obtain ⟨⟨T, q, e⟩, hR⟩ : ∃ R, dcR 16 600 f m = R := ⟨_, rfl⟩
  have H1 := Lib.hid (HDP.out w A m c f T q e (Below.refl _ _) hA hf hmc (by unfold maxLen; omega) hR)
  have HRR := Lib.hid hR
  have HF := Lib.hid hf
  have HR := Lib.hid hA
  unfold vv at H1
  clear hA hg hf hR
  go_enter Tryz.func6, Tryz.ntmps6
  go_wp2_with fail
  refine H1.out.mono ?_
  rintro x w1 ⟨A2, c2, rfl, b1⟩
  have B1 := Lib.hid (b1.alloc b1.size (.cells #[.int .i64 T.k, .bool T.g, .int .u64 (T.n : Int), .string T.s, .slice A2 T.l.length c2] 25))
  clear b1 H1
  obtain ⟨W2, hW2⟩ : ∃ W2, w1.alloc (.cells #[.int .i64 T.k, .bool T.g, .int .u64 (T.n : Int), .string T.s, .slice A2 T.l.length c2] 25) = W2 := ⟨_, rfl⟩
  rw [hW2] at B1
  have HW2 := Lib.hid hW2
  clear hW2
  go_upto_region 2 with fail
  rw [HW2.out]
  clear HW2
  by_cases he : e = 3 ∧ m ≤ 300
  · obtain ⟨rfl, hm3⟩ := he
    have i1 : decide ((300 : Int) < (m : Int)) = false := decide_eq_false (by omega)
    have i2 : ¬ (300 : Int) < (m : Int) := by omega
    obtain ⟨X0, hX0⟩ : ∃ X0, lsF f m = X0 := ⟨_, rfl⟩
    have hl0 : X0.length = m := by rw [← hX0, lsF_len]
    have hg0 : ∀ j, j < m → gL X0 j = f j := fun j hj => by rw [← hX0]; exact gL_lsF hj (HF.out j hj)
    have HX0 : Hid (X0.length = m + 0 ∧ (dcR 16 600 (gL X0) X0.length).2.2 = 3) := Lib.hid ⟨hl0, by rw [hl0, dcR_congr (f := f) hg0, HRR.out]⟩
    have HRx : Hid (Rd W2 .u8 A m (gL X0)) := Lib.hid ((HR.out.below B1.out).congr fun j hj => (hg0 j hj).symm)
    have HLX := Lib.hid hl0
    have hmx : m = X0.length := hl0.symm
    clear hX0 hl0 hg0 HRR HF HR
    go_wp2_with (at_builtin; refine wpList_appB rfl _ _ _ rfl w.heap.size 5 i0 _ Tryz.underlying28 hi hz0 hz1 hz2 rfl _ 0 [] rfl rfl (World.ownsRow_lit W2 #[] 0 B1.out.size (by simp [maxLen]) rfl) A m c X0 hmx rfl (HRx.out.alloc _) (by omega) (by have := B1.out.size; simp; omega) ?_; intro v3 w3 hown3 hb3)
    rw [Nat.zero_add, List.nil_append, hmx] at hown3
    have HO3 : Hid (w3.ownsRow w.heap.size 5 1 v3 X0.length (Lib.byteCells X0) ∧ Below w.heap.size w w3) := Lib.hid ⟨hown3, (B1.out.alloc B1.out.size _).trans hb3⟩
    clear hown3 hb3 hmx HRx
    go_loopw [6, 7] (fun s6 s7 wr => ∃ (i : Nat) (X : List UInt8), i ≤ 299 ∧ s7 = .int .i64 (i : Int) ∧ Hid ((X.length = m + i ∧ (dcR 16 600 (gL X) X.length).2.2 = 3) ∧ wr.ownsRow w.heap.size 5 1 s6 X.length (Lib.byteCells X) ∧ Below w.heap.size w wr)) (fun _ s7 _ => 299 - (intOf s7).toNat)
    case atStart => exact ⟨0, X0, by omega, rfl, Lib.hid ⟨HX0.out, HO3.out⟩⟩
    case round =>
      obtain ⟨i, X, hi9, rfl, HO⟩ := hrel
      clear HO3 HX0
      by_cases hlt : i < 299
      · have j1 : decide ((i : Int) < 299) = true := decide_eq_true (by omega)
        obtain ⟨Ax, cx, hs6, hx1, hx2, hrx⟩ := rd_list rfl HO.out.2.1
        subst hs6
        have hmore := gE_more HO.out.1.2 (by have := HO.out.1.1; omega)
        obtain ⟨n, hn⟩ : ∃ n, X.length = n := ⟨_, rfl⟩
        have HN : Hid (X.length = n ∧ n ≤ 600) := Lib.hid ⟨hn, by have := HO.out.1.1; omega⟩
        rw [hn] at hrx
        have HRx := Lib.hid hrx
        have HMO := Lib.hid hmore
        have HOB : Hid (Below w.heap.size w wr) := Lib.hid HO.out.2.2
        have HOW : Hid (wr.ownsRow w.heap.size 5 1 (.slice Ax n cx) n (Lib.byteCells X)) := Lib.hid (by have := HO.out.2.1; rw [hn] at this; exact this)
        have HXL : Hid (n = m + i) := Lib.hid (by have := HO.out.1.1; omega)
        rw [hn]
        clear hmore hrx hn HO hx1 hx2
        obtain ⟨W3, hW3⟩ : ∃ W3, wr.alloc (.cells #[.int .u8 255, .int .u8 0, .int .u8 128, .int .u8 144, .int .u8 160, .int .u8 96] 5) = W3 := ⟨_, rfl⟩
        have HB3 : Below wr.heap.size wr W3 := by rw [← hW3]; exact (Below.refl _ _).alloc (Nat.le_refl _) _
        have HK3 : Bk W3 wr.heap.size 5 #[.int .u8 255, .int .u8 0, .int .u8 128, .int .u8 144, .int .u8 160, .int .u8 96] := by rw [← hW3]; exact Bk.new _ _ _
        obtain ⟨gm, hgm⟩ : ∃ g, wr.heap.size = g := ⟨_, rfl⟩
        rw [hgm] at HK3
        have HM : Hid (∀ W j, Below W3.heap.size W3 W → j < 6 → W.cell? ⟨gm, j, none⟩ = some (.int .u8 (m6 j : Int))) := Lib.hid fun W j hW hj => by
          have hk := HK3.below hW HK3.lt
          have h : j = 0 ∨ j = 1 ∨ j = 2 ∨ j = 3 ∨ j = 4 ∨ j = 5 := by omega
          rcases h with rfl | rfl | rfl | rfl | rfl | rfl
          · exact hk.cell 0
          · exact hk.cell 1
          · exact hk.cell 2
          · exact hk.cell 3
          · exact hk.cell 4
          · exact hk.cell 5
        have HO3 : Hid (W3.ownsRow w.heap.size 5 1 (.slice Ax n cx) n (Lib.byteCells X) ∧ Below w.heap.size w W3) := Lib.hid ⟨own_below HOW.out HB3, HOB.out.trans (HB3.mono HOB.out.size)⟩
        have HR3 : Hid (Rd W3 .u8 Ax n (gL X)) := Lib.hid (HRx.out.below HB3)
        have HW3 := Lib.hid hW3
        have HGM := Lib.hid hgm
        clear hW3 HK3 HB3 hgm HOW HOB HRx
        go_upto_region 9 with fail
        rw [HW3.out, HGM.out]
        clear HW3 HGM
        go_wp2_with fail
        go_loopw [9, 10, 11] (fun s9 s10 s11 wz => ∃ k : Nat, k ≤ 6 ∧ s11 = .int .i64 ((k : Int) - 1) ∧ Hid ((s9 = .int .i64 (-1) ∧ s10 = .int .i64 4 ∧ ∀ j, k ≤ j → j < 6 → gE X j = 4) ∨ (∃ j : Nat, s9 = .int .i64 (j : Int) ∧ s10 = .int .i64 (gE X j : Int) ∧ j < 6 ∧ gE X j ≠ 4)) ∧ Hid (Below W3.heap.size W3 wz)) (fun _ _ s11 _ => (intOf s11 + 1).toNat)
        case atStart => exact ⟨6, by omega, rfl, Lib.hid (.inl ⟨rfl, rfl, fun j h1 h2 => absurd h2 (by omega)⟩), Lib.hid (Below.refl _ _)⟩
        case round =>
          obtain ⟨k, hk6, rfl, hst, HZ⟩ := hrel
          by_cases hk0 : k = 0
          · subst hk0
            obtain ⟨j, e9, e10, hj6, hj4⟩ := (show ∃ j : Nat, _ ∧ _ ∧ j < 6 ∧ gE X j ≠ 4 from by
              rcases hst.out with ⟨_, _, h⟩ | h
              · obtain ⟨j, h1, h2⟩ := HMO.out
                exact absurd (h j (Nat.zero_le _) h1) h2
              · exact h)
            subst e9 e10
            have hcell := HM.out wr j HZ.out hj6
            have HWN : Hid (wr.ownsRow w.heap.size 5 1 (.slice Ax n cx) n (Lib.byteCells X) ∧ Below w.heap.size w wr) := Lib.hid ⟨own_below HO3.out.1 HZ.out, HO3.out.2.trans (HZ.out.mono HO3.out.2.size)⟩
            have hst' := gE_ways X j
            have HJ : Hid ((dcR 16 600 (gL (X ++ [UInt8.ofNat (m6 j)])) (X ++ [UInt8.ofNat (m6 j)]).length).2.2 = gE X j) := Lib.hid (by
              have : (X ++ [UInt8.ofNat (m6 j)]).length = X.length + 1 := by simp
              rw [this]; rfl)
            have hc256 := m6_lt j
            obtain ⟨ck, hck⟩ : ∃ c, m6 j = c := ⟨_, rfl⟩
            obtain ⟨ej, hej⟩ : ∃ e, gE X j = e := ⟨_, rfl⟩
            rw [hck] at hcell HJ hc256
            rw [hej] at HJ hst' hj4 ⊢
            have j0 : ((0 : Nat) : Int) - 1 = -1 := rfl
            rw [j0]
            have j2 : decide ((j : Int) < 0) = false := decide_eq_false (by omega)
            have j3 : (j : Int) < 6 := by omega
            have j4 : (0 : Int) ≤ (j : Int) := by omega
            have j5 : ¬ (6 : Int) ≤ (j : Int) := by omega
            have hsz := HWN.out.2.size
            have hle : n + 1 ≤ 140737488355328 := by have := HN.out.2; omega
            clear hst HM HMO HR3 HO3 HZ hck hej HDP
            go_upto_region 21 with (at_builtin; refine wpList_appB rfl _ _ _ rfl w.heap.size 5 i0 _ Tryz.underlying28 hi hz0 hz1 hz2 rfl _ n X HN.out.1.symm rfl (own_below HWN.out.1 ((Below.refl _ _).alloc (Nat.le_refl _) _)) (some ⟨_, 0, none⟩) 1 1 [UInt8.ofNat ck] rfl rfl (rd_b1 wr hc256 _) hle (by simp; omega) ?_; intro v3 w3 hown3 hb3)
            have HN3 : Hid (w3.ownsRow w.heap.size 5 1 v3 (X ++ [UInt8.ofNat ck]).length (Lib.byteCells (X ++ [UInt8.ofNat ck])) ∧ Below w.heap.size w w3) := Lib.hid ⟨by rw [List.length_append, HN.out.1]; exact hown3, (HWN.out.2.alloc hsz _).trans hb3⟩
            have HLL : Hid ((X ++ [UInt8.ofNat ck]).length = m + (i + 1)) := Lib.hid (by rw [List.length_append, HN.out.1, HXL.out]; simp; omega)
            clear hown3 hb3 HWN hcell
            by_cases h3 : ej = 3
            · subst h3
              clear hst' hj4
              go_wp2_with fail
              go_roundw
              case rel => exact ⟨i + 1, X ++ [UInt8.ofNat ck], by omega, by go_num, Lib.hid ⟨⟨HLL.out, HJ.out⟩, HN3.out⟩⟩
              case measure => simp [intOf]; omega
            · have hne : ((ej : Int) != 3) = true := by simp; omega
              have h08 : ej = 0 ∨ ej = 8 := by omega
              have HAA := Lib.hid (HAW.out w3 HN3.out.2)
              clear h3 hst' hj4 HJ
              rcases h08 with rfl | rfl
              all_goals
                go_wp2_with fail
                refine HAA.out.mono ?_
                rintro x w6 ⟨rfl, q6⟩
                have HR6 := Lib.hid q6
                clear q6
                go_wp2_with fail
                go_ret
                exact ⟨rfl, HR6.out⟩
          · obtain ⟨kk, rfl⟩ : ∃ kk, k = kk + 1 := ⟨k - 1, by omega⟩
            have e0 : ((kk + 1 : Nat) : Int) - 1 = (kk : Int) := by omega
            rw [e0]
            have hkk : kk < 6 := by omega
            have hk1 : (kk : Int) < 6 := by omega
            have hk2 : ¬ (6 : Int) ≤ (kk : Int) := by omega
            have hk3 : decide ((kk : Int) < 6) = true := decide_eq_true hk1
            have hk4 : (0 : Int) ≤ (kk : Int) := by omega
            have hcell := HM.out wr kk HZ.out hkk
            have HRz := Lib.hid (HR3.out.below HZ.out)
            obtain ⟨⟨T4, q4, e4⟩, hR4⟩ : ∃ R, dcR 16 600 (gL (gX X kk)) (n + 1) = R := ⟨_, rfl⟩
            have HE4 : Hid (gE X kk = e4) := Lib.hid (by unfold gE; rw [HN.out.1, hR4])
            have hc256 := m6_lt kk
            have hcell2 := hcell
            have HBW := Lib.hid (HO3.out.2.trans (HZ.out.mono HO3.out.2.size))
            unfold gX at hR4
            obtain ⟨ck, hck⟩ : ∃ c, m6 kk = c := ⟨_, rfl⟩
            rw [hck] at hcell hR4 hc256
            have C3 : Hid (∀ W A c, Below wr.heap.size wr W → n + 1 ≤ c → c ≤ maxLen → Rd W .u8 A (n + 1) (gL (X ++ [UInt8.ofNat ck])) → Calls Tryz.prog 17 #[.slice A (n + 1) c, .agg #[.int .i64 16, .int .i64 600, .bool false]] W fun x w' => ∃ A4 c4, x = .returned (.tuple #[vv T4 (.slice A4 T4.l.length c4), .int .i64 (q4 : Int), .int .i64 (e4 : Int)]) ∧ Below W.heap.size W w') := Lib.hid fun W A c hW h1 h2 hr => HDP.out W A (n + 1) c _ T4 q4 e4 (HBW.out.trans (hW.mono HBW.out.size)) hr (fun _ _ => gL_lt) h1 h2 hR4
            unfold vv at C3
            have HS : Hid (∀ W', Below wr.heap.size wr W' → W'.cell? ⟨gm, kk, none⟩ = some (.int .u8 (ck : Int)) ∧ Below wr.heap.size wr W') := Lib.hid fun W' hb => ⟨by rw [← hck]; exact HM.out W' kk (HZ.out.trans (hb.mono HZ.out.size)) hkk, hb⟩
            have hstart := HS.out wr (Below.refl _ _)
            have HCK := Lib.hid hck
            clear hcell2 hck hR4 HMO HR3 HO3 HDP HM
            go_upto_region 14 with fail
            go_cut [14] (fun s14 wx => s14 = .int .i64 (e4 : Int) ∧ Hid (Below wr.heap.size wr wx))
            case first =>
              go_region_held3 (fun W' => W'.cell? ⟨gm, kk, none⟩ = some (.int .u8 (ck : Int)) ∧ Below wr.heap.size wr W')
                (first
                  | with_reducible exact HS.out _ (hb6.alloc hb6.size _)
                  | with_reducible exact HS.out _ (heldy_st hb6 (by first | exact Nat.le_refl _ | omega) _ _ _ _ _)
                  | with_reducible exact HS.out _ (Below.drew (Below.refl _ _))
                  | with_reducible exact HS.out _ (Below.drew (Below.alloc (Below.refl _ _) (Nat.le_refl _) _))
                  | with_reducible exact HS.out _ (heldy_al ‹_› _)
                  | with_reducible exact HS.out _ (heldy_tr ‹_› ‹_›))
                (first
                  | (refine step_byt rfl (.tmp 46) (.tmp 47) rfl wr.heap.size (.slice (some ⟨_, 0, none⟩) 0 0) [] X Ax n cx rfl rfl HN.out.1.symm ?_ (HRz.out.below (heldy_b ‹_›)) (heldy_sz ‹_›) ?_ ?_
                     (first | with_reducible exact Vy.drew (Vy.a3 (Nat.le_refl _)) | with_reducible exact Vy.drew (Vy.a2 (Nat.le_refl _)) | with_reducible exact Vy.drew ((Vy.a2 (Nat.le_refl _)).al _) | with_reducible exact Vy.drew (Vy.a1 (Nat.le_refl _)) | with_reducible exact Vy.drew ((Vy.a1 (Nat.le_refl _)).al _) | with_reducible exact Vy.drew (((Vy.a1 (Nat.le_refl _)).al _).al _))
                     (have := HN.out; simp; omega)
                     intro v1 w1 ho1 hg1 hk1 hb1
                     replace ho1 : Vy wr.heap.size w1 v1 X := ho1
                     have hsz1 : wr.heap.size ≤ w1.heap.size := Nat.le_trans (heldy_sz ‹_›) hb1.size
                     (first
                       | with_reducible have hzz1 := Zy.grown (T := 25) (bx := #[.int .i64 0, .bool false, .int .u64 0, .string ⟨#[]⟩, .slice none 0 0]) hg1 hk1 (.drew (.a3 (lity_ne (by omega))))
                       | with_reducible have hzz1 := Zy.grown (T := 25) (bx := #[.int .i64 0, .bool false, .int .u64 0, .string ⟨#[]⟩, .slice none 0 0]) hg1 hk1 (.drew (.a2 (lity_ne (by omega))))
                       | with_reducible have hzz1 := Zy.grown (T := 25) (bx := #[.int .i64 0, .bool false, .int .u64 0, .string ⟨#[]⟩, .slice none 0 0]) hg1 hk1 (.drew (.al (.a2 (lity_ne (by omega))) _))
                       | with_reducible have hzz1 := Zy.grown (T := 25) (bx := #[.int .i64 0, .bool false, .int .u64 0, .string ⟨#[]⟩, .slice none 0 0]) hg1 hk1 (.drew (.new (lity_ne (by omega))))
                       | with_reducible have hzz1 := Zy.grown (T := 25) (bx := #[.int .i64 0, .bool false, .int .u64 0, .string ⟨#[]⟩, .slice none 0 0]) hg1 hk1 (.drew (.al (.new (lity_ne (by omega))) _))
                       | with_reducible have hzz1 := Zy.grown (T := 25) (bx := #[.int .i64 0, .bool false, .int .u64 0, .string ⟨#[]⟩, .slice none 0 0]) hg1 hk1 (.drew (.al (.al (.new (lity_ne (by omega))) _) _))
                       | skip)
                     (first
                       | with_reducible have hmm1 := Zy.grown (T := 5) (bx := #[.int .u8 (ck : Int)]) hg1 hk1 (.drew (.a3 (lity_ne (by omega))))
                       | with_reducible have hmm1 := Zy.grown (T := 5) (bx := #[.int .u8 (ck : Int)]) hg1 hk1 (.drew (.a2 (lity_ne (by omega))))
                       | with_reducible have hmm1 := Zy.grown (T := 5) (bx := #[.int .u8 (ck : Int)]) hg1 hk1 (.drew (.al (.a2 (lity_ne (by omega))) _))
                       | with_reducible have hmm1 := Zy.grown (T := 5) (bx := #[.int .u8 (ck : Int)]) hg1 hk1 (.drew (.new (lity_ne (by omega))))
                       | with_reducible have hmm1 := Zy.grown (T := 5) (bx := #[.int .u8 (ck : Int)]) hg1 hk1 (.drew (.al (.new (lity_ne (by omega))) _))
                       | with_reducible have hmm1 := Zy.grown (T := 5) (bx := #[.int .u8 (ck : Int)]) hg1 hk1 (.drew (.al (.al (.new (lity_ne (by omega))) _) _))
                       | skip)
                     skip)
                  | (refine step_byt rfl (.tmp 48) (.tmp 53) rfl wr.heap.size v1 X [UInt8.ofNat ck] (some ⟨_, 0, none⟩) 1 1 rfl rfl rfl ?_ ?_ (heldy_sz ‹_›) ?_ ?_
                     (first | with_reducible exact ho1 | with_reducible exact ho1.al _ | with_reducible exact (ho1.al _).al _)
                     (first | with_reducible exact rdy_one hc256 hmm1.b | with_reducible exact rdy_one hc256 (hmm1.b.al _) | with_reducible exact rdy_one hc256 Bky.a2 | with_reducible exact rdy_one hc256 (Bk.new _ _ _) | with_reducible exact rdy_one hc256 ((Bk.new _ _ _).al _))
                     (have := HN.out; simp; omega)
                     intro v2 w2' ho2 hg2 hk2 hb2
                     have hsz2 : wr.heap.size ≤ w2'.heap.size := Nat.le_trans (heldy_sz ‹_›) hb2.size
                     (first
                       | with_reducible have hzz2 := Zy.grown (T := 25) (bx := #[.int .i64 0, .bool false, .int .u64 0, .string ⟨#[]⟩, .slice none 0 0]) hg2 hk2 hzz1
                       | with_reducible have hzz2 := Zy.grown (T := 25) (bx := #[.int .i64 0, .bool false, .int .u64 0, .string ⟨#[]⟩, .slice none 0 0]) hg2 hk2 (hzz1.al _)
                       | with_reducible have hzz2 := Zy.grown (T := 25) (bx := #[.int .i64 0, .bool false, .int .u64 0, .string ⟨#[]⟩, .slice none 0 0]) hg2 hk2 (.a2 (ho1.ne2 (by omega)))
                       | with_reducible have hzz2 := Zy.grown (T := 25) (bx := #[.int .i64 0, .bool false, .int .u64 0, .string ⟨#[]⟩, .slice none 0 0]) hg2 hk2 (.new (ho1.ne2 (by omega)))
                       | with_reducible have hzz2 := Zy.grown (T := 25) (bx := #[.int .i64 0, .bool false, .int .u64 0, .string ⟨#[]⟩, .slice none 0 0]) hg2 hk2 (.al (.new (ho1.ne2 (by omega))) _)
                       | skip)
                     obtain ⟨A3, c3, rfl, hc31, hc32, hr3⟩ := rd_list (n := n + 1) (L := X ++ [UInt8.ofNat ck]) (by rw [List.length_append, HN.out.1]; rfl) (show w2'.ownsRow wr.heap.size 5 1 v2 (n + 1) (Lib.byteCells (X ++ [UInt8.ofNat ck])) from (by have := ho2; unfold Vy at this; rw [show (X ++ [UInt8.ofNat ck]).length = n + 1 by rw [List.length_append, HN.out.1]; rfl] at this; exact this)))
                  | (go_at_call 17
                     refine (C3.out _ _ _ (by first | with_reducible exact heldy_b ‹_› | with_reducible exact heldy_al ‹_› _) hc31 hc32 (by first | with_reducible exact hr3 | with_reducible exact hr3.below ((Below.refl _ _).alloc (Nat.le_refl _) _))).mono ?_
                     rintro x w4 ⟨A4, c4, rfl, hb4⟩
                     have hb5 := hb4.mono (heldy_sz ‹_›)
                     have hb6 := heldy_tr ‹_› hb5
                     (first
                       | (with_reducible have hq4 := hzz2.b.below hb4 hzz2.b.lt
                          obtain ⟨q0, q1, q2, q3, q4⟩ := hq4.c5
                          obtain ⟨f0, f1, f2, f3, f4⟩ := hq4.f5)
                       | (with_reducible have hq4 := bky_al (T := 25) (bx := #[.int .i64 0, .bool false, .int .u64 0, .string ⟨#[]⟩, .slice none 0 0]) hb4
                          obtain ⟨q0, q1, q2, q3, q4⟩ := hq4.c5
                          obtain ⟨f0, f1, f2, f3, f4⟩ := hq4.f5)
                       | skip)))
              all_goals
                go_wp2_with fail
                go_meet
                first
                  | with_reducible exact ⟨rfl, Lib.hid (heldy_b ‹_›)⟩
                  | exact ⟨rfl, Lib.hid (heldy_b ‹_›)⟩
            case rest =>
              obtain ⟨rfl, HB⟩ := hcut
              have HB2 := Lib.hid (HZ.out.trans (HB.out.mono HZ.out.size))
              clear HS hstart hcell HRz C3 HB HBW
              by_cases he4 : e4 = 4
              · have HT : Hid (gE X kk = 4) := Lib.hid (HE4.out.trans he4)
                subst he4
                go_wp2_with fail
                go_roundw
                case rel => exact ⟨kk, by omega, rfl, Lib.hid (by
                  rcases hst.out with ⟨h1, h2, h3⟩ | h
                  · refine .inl ⟨h1, h2, fun j a b => ?_⟩
                    by_cases hj : j = kk
                    · rw [hj]; exact HT.out
                    · exact h3 j (by omega) b
                  · exact .inr h), HB2⟩
                case measure => simp [intOf]
              · have hne : ((e4 : Int) != 4) = true := by simp; omega
                have HT : Hid (gE X kk = e4 ∧ e4 ≠ 4) := Lib.hid ⟨HE4.out, he4⟩
                clear he4
                go_wp2_with fail
                go_roundw
                case rel => exact ⟨kk, by omega, rfl, Lib.hid (.inr ⟨kk, rfl, by rw [HT.out.1], hkk, by rw [HT.out.1]; exact HT.out.2⟩), HB2⟩
                case measure => simp [intOf]
      · obtain rfl : i = 299 := by omega
        go_wp2_with fail
        refine (HAW.out _ HO.out.2.2).mono ?_
        rintro x w6 ⟨rfl, q6⟩
        have HR6 := Lib.hid q6
        clear q6
        go_wp2_with fail
        go_ret
        exact ⟨rfl, HR6.out⟩
  · have i1 : ((e : Int) != 3) = true ∨ (((e : Int) != 3) = false ∧ decide ((300 : Int) < (m : Int)) = true ∧ (300 : Int) < (m : Int)) := by
      by_cases h3 : e = 3
      · refine .inr ⟨by simp [h3], decide_eq_true (by omega), by omega⟩
      · refine .inl (by simp; omega)
    have HAA := Lib.hid (HAW.out W2 B1.out)
    clear he HRR HF HR HDP HAW
    rcases i1 with i1 | ⟨i1, i2, i3⟩
    all_goals
      go_wp2_with fail
      refine HAA.out.mono ?_
      rintro x w6 ⟨rfl, q6⟩
      have HR6 := Lib.hid q6
      clear q6
      go_wp2_with fail
      go_ret
      exact ⟨rfl, HR6.out⟩
end Go.Proofs.YtpcladdipgchbaaGreatDoor.nn
