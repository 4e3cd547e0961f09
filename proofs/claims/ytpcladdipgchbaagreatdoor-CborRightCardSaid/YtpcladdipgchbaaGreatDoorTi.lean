/- Joined texts, what is wanted of them: CborRightW. -/
import Derived.Deep.RegionHeld3
import Derived.Test.YtpcladdipgchbaaGreatDoorProg
import Derived.WalkKit
import Derived.Lib.Hide
import Derived.WalkSpells
import Derived.Deep.QuietTactic
import Derived.BigQuiet
import Derived.Laws.BitsAllLaws
import Derived.Test.YtpcladdipgchbaaGreatDoorShelf
import Derived.Deep.RegionWith
import Derived.IntWalk
import Derived.Deep.CutBlock
import Derived.StillTailTactics
import Derived.Test.YtpcladdipgchbaaGreatDoorSe
import Derived.Test.YtpcladdipgchbaaGreatDoorSb
import Derived.Test.YtpcladdipgchbaaGreatDoorTc
import Derived.Test.YtpcladdipgchbaaGreatDoorSy
import Derived.Test.YtpcladdipgchbaaGreatDoorTd
import Derived.Test.YtpcladdipgchbaaGreatDoorSg
import Derived.Test.YtpcladdipgchbaaGreatDoorSl
import Derived.Test.YtpcladdipgchbaaGreatDoorSr
import Derived.Test.YtpcladdipgchbaaGreatDoorSv
import Derived.Test.YtpcladdipgchbaaGreatDoorSa
import Derived.Test.YtpcladdipgchbaaGreatDoorSi
import Derived.Test.YtpcladdipgchbaaGreatDoorSm
import Derived.Test.YtpcladdipgchbaaGreatDoorSo
import Derived.Test.YtpcladdipgchbaaGreatDoorSx
import Derived.Test.YtpcladdipgchbaaGreatDoorSw
import Derived.Test.YtpcladdipgchbaaGreatDoorSc
import Derived.Test.YtpcladdipgchbaaGreatDoorSd
import Derived.Test.YtpcladdipgchbaaGreatDoorTl
import Derived.Test.YtpcladdipgchbaaGreatDoorTk
import Derived.Test.YtpcladdipgchbaaGreatDoorSj
import Derived.Test.YtpcladdipgchbaaGreatDoorSn
import Derived.Test.YtpcladdipgchbaaGreatDoorTa
import Derived.Test.YtpcladdipgchbaaGreatDoorSf
import Derived.Test.YtpcladdipgchbaaGreatDoorSh
import Derived.Test.YtpcladdipgchbaaGreatDoorTb
import Derived.Test.YtpcladdipgchbaaGreatDoorSz
import Derived.Test.YtpcladdipgchbaaGreatDoorSp
import Derived.Test.YtpcladdipgchbaaGreatDoorTe
import Derived.Test.YtpcladdipgchbaaGreatDoorSq
import Derived.Test.YtpcladdipgchbaaGreatDoorSu
import Derived.Test.YtpcladdipgchbaaGreatDoorSt
import Derived.Test.YtpcladdipgchbaaGreatDoorSs
import Derived.Test.YtpcladdipgchbaaGreatDoorTf
namespace Go.Proofs.YtpcladdipgchbaaGreatDoor.nn
open Go.RowKit

set_option maxRecDepth 100000 in
set_option maxHeartbeats 8000000 in
theorem cright_any (A : Option Addr) (m c : Nat) (f : Nat → Nat) (hf : ∀ i, i < m → f i < 256) (hc : c ≤ 140737488351232) (hmc : m ≤ c) (_ : (A = none ∧ m = 0 ∧ c = 0) ∨ ∃ bb off, A = some ⟨bb, off, none⟩)
    (D Z : Int) (Y : Bool) (_ : -9223372036854775808 ≤ D ∧ D ≤ 9223372036854775807) (_ : -9223372036854775808 ≤ Z ∧ Z ≤ 9223372036854775807) (w : World) (hA : Rd w .u8 A m f) (hg : Laid w) :
    Calls Tryz.prog 4 #[.slice A m c, .agg #[.int .i64 D, .int .i64 Z, .bool Y]] w fun e w' => e = .returned (.bool true) ∧ Below w.heap.size w w' := by
  obtain ⟨P, hP⟩ : ∃ P : World → Prop, P = fun W => Below w.heap.size w W ∧ W.heap[w.heap.size]? = some (.cells #[.int .i64 D, .int .i64 Z, .bool Y] 38 (0, 0)) := ⟨_, rfl⟩
  have HON : Hid (∀ W W', P W → Below W.heap.size W W' → P W') := Lib.hid fun W W' h hb => by
    rw [hP] at h ⊢
    exact ⟨h.1.trans (hb.mono h.1.size), (hb.block _ (lt_of_block h.2)).trans h.2⟩
  have HPB : Hid (∀ W, P W → Below w.heap.size w W) := Lib.hid fun W h => by rw [hP] at h; exact h.1
  have HPC : Hid (∀ W, P W → W.cell? ⟨w.heap.size, 0, none⟩ = some (.int .i64 D) ∧ W.cell? ⟨w.heap.size, 1, none⟩ = some (.int .i64 Z) ∧ W.cell? ⟨w.heap.size, 2, none⟩ = some (.bool Y)) := Lib.hid fun W h => by
    rw [hP] at h
    exact ⟨cell_of_row _ _ 0 _ _ _ h.2, cell_of_row _ _ 1 _ _ _ h.2, cell_of_row _ _ 2 _ _ _ h.2⟩
  obtain ⟨W1, hW1⟩ : ∃ W1, w.alloc (.cells #[.int .i64 D, .int .i64 Z, .bool Y] 38) = W1 := ⟨_, rfl⟩
  have HP1 : Hid (P W1) := Lib.hid (by
    rw [hP, ← hW1]
    exact ⟨(Below.refl _ _).alloc (Nat.le_refl _) _, heap_alloc_last _ _⟩)
  have hways := dcA_ways hf D Z
  obtain ⟨⟨T, q, e⟩, hR⟩ : ∃ R, dcA D Z f m = R := ⟨_, rfl⟩
  rw [hR] at hways
  have H1 : Hid (∀ W, P W → Calls Tryz.prog 17 #[.slice A m c, .agg #[.int .i64 D, .int .i64 Z, .bool Y]] W fun x w' => ∃ A2 c2, x = .returned (.tuple #[vv T (.slice A2 T.l.length c2), .int .i64 (q : Int), .int .i64 (e : Int)]) ∧ Lst w' (.slice A2 T.l.length c2) T.l ∧ P w') := Lib.hid fun W hW => by
    have h := decode_any (Y := Y) D Z (hA.below (HPB.out _ hW)) hf ⟨hmc, by unfold maxLen; omega⟩ (hg.below (HPB.out _ hW))
    refine h.mono fun x w' ⟨C, e1, e2, e3⟩ => ?_
    rw [hR] at e1 e2
    obtain ⟨A2, c2, rfl, _⟩ := e2.lst.out
    exact ⟨A2, c2, e1, e2.lst, HON.out _ _ hW e3⟩
  have HA : Hid (∀ W, P W → Calls Tryz.prog 16 #[] W fun e w' => e = .returned (.bool true) ∧ P w') := Lib.hid fun W hW => (awake11 W (hg.below (HPB.out _ hW))).mono fun e w' ⟨he, h4⟩ => ⟨he, HON.out _ _ hW h4⟩
  have HALL : Hid (∀ W, Calls Tryz.prog 20 #[] W fun e w' => e = .returned (.agg #[.int .i64 64, .int .i64 1048576, .bool false]) ∧ Below W.heap.size W w') := Lib.hid fun W => all11 W
  have HG := Lib.hid hg
  clear hA hg hf hc hmc hR
  obtain ⟨tl, htl⟩ : ∃ n, T.l.length = n := ⟨_, rfl⟩
  have HTL := Lib.hid htl
  rw [htl] at H1
  unfold vv at H1
  have HW1 := Lib.hid hW1
  clear hW1 htl
  go_enter Tryz.func4, Tryz.ntmps4
  go_upto_region 1 with fail
  rw [HW1.out]
  clear HW1
  obtain ⟨p0, p1, p2⟩ := HPC.out _ HP1.out
  have HWY := Lib.hid hways
  have HPP := Lib.hid hP
  clear hways hP
  go_wp2_with fail
  refine (H1.out _ HP1.out).mono ?_
  rintro r w1 ⟨A2, c2, rfl, hl1, q1⟩
  obtain ⟨W2, hW2⟩ : ∃ W2, w1.alloc (.cells #[.int .i64 T.k, .bool T.g, .int .u64 (T.n : Int), .string T.s, .slice A2 tl c2] 25) = W2 := ⟨_, rfl⟩
  have HB2 : Below w1.heap.size w1 W2 := by rw [← hW2]; exact (Below.refl _ _).alloc (Nat.le_refl _) _
  have HK2 : W2.heap[w1.heap.size]? = some (.cells #[.int .i64 T.k, .bool T.g, .int .u64 (T.n : Int), .string T.s, .slice A2 tl c2] 25 (0, 0)) := by rw [← hW2]; exact heap_alloc_last _ _
  obtain ⟨g, hgg⟩ : ∃ g, w1.heap.size = g := ⟨_, rfl⟩
  rw [hgg] at HK2
  obtain ⟨P2, hP2⟩ : ∃ P2 : World → Prop, P2 = fun W => P W ∧ W.heap[g]? = some (.cells #[.int .i64 T.k, .bool T.g, .int .u64 (T.n : Int), .string T.s, .slice A2 tl c2] 25 (0, 0)) ∧ Lst W (.slice A2 tl c2) T.l := ⟨_, rfl⟩
  have HON2 : Hid (∀ W W', P2 W → Below W.heap.size W W' → P2 W') := Lib.hid fun W W' h hb => by
    rw [hP2] at h ⊢
    exact ⟨HON.out _ _ h.1 hb, (hb.block _ (lt_of_block h.2.1)).trans h.2.1, h.2.2.keep hb (Nat.le_refl _)⟩
  have HPB2 : Hid (∀ W, P2 W → Below w.heap.size w W ∧ Lst W (.slice A2 tl c2) T.l ∧ P W) := Lib.hid fun W h => by rw [hP2] at h; exact ⟨HPB.out _ h.1, h.2.2, h.1⟩
  have HPC2 : Hid (∀ W, P2 W → (W.cell? ⟨w.heap.size, 0, none⟩ = some (.int .i64 D) ∧ W.cell? ⟨w.heap.size, 1, none⟩ = some (.int .i64 Z)) ∧ W.cell? ⟨g, 0, none⟩ = some (.int .i64 T.k) ∧ W.cell? ⟨g, 1, none⟩ = some (.bool T.g) ∧ W.cell? ⟨g, 2, none⟩ = some (.int .u64 (T.n : Int)) ∧ W.cell? ⟨g, 3, none⟩ = some (.string T.s) ∧ W.cell? ⟨g, 4, none⟩ = some (.slice A2 tl c2)) := Lib.hid fun W h => by
    rw [hP2] at h
    obtain ⟨a, b, _⟩ := HPC.out _ h.1
    exact ⟨⟨a, b⟩, cell_of_row _ _ 0 _ _ _ h.2.1, cell_of_row _ _ 1 _ _ _ h.2.1, cell_of_row _ _ 2 _ _ _ h.2.1, cell_of_row _ _ 3 _ _ _ h.2.1, cell_of_row _ _ 4 _ _ _ h.2.1⟩
  have HP2 : Hid (P2 W2) := Lib.hid (by rw [hP2]; exact ⟨HON.out _ _ q1 HB2, HK2, hl1.keep HB2 (Nat.le_refl _)⟩)
  have HW2 := Lib.hid hW2
  have HGG := Lib.hid hgg
  clear hl1 q1 HB2 HK2 hP2 hW2 hgg p0 p1 p2 H1 HP1
  go_upto_region 2 with fail
  rw [HW2.out, HGG.out]
  clear HW2
  obtain ⟨⟨p0, p1⟩, c0, c1, c2', c3, c4⟩ := HPC2.out _ HP2.out
  rcases HWY.out with ⟨t, hh, hrg, hdD, hd64, hcn, hex, hwf, hmZ, hm1, hsm⟩ | ⟨q', e', hh, hqm, hee, -⟩
  · injection hh with h1 h2
    injection h2 with h2 h3
    subst h1 h2 h3
    have hmx : (1048576 : Nat) ≤ maxLen := by simp [maxLen]
    have hck := read_chk hrg hd64 hcn
    have hln := read_len (t := T) false hcn (by omega)
    have h0 : enE T = 0 := enE_zero.2 ⟨hck, hex⟩
    have e0 := enL_zero (o := false) h0
    have hbw := back_ways (t := T) (o := false) (D := 64) (Z := 1048576) (ats_gL (itB false T)) (fun _ _ => gL_lt) hd64 hck hex hwf (by omega)
    have HE : Hid (∀ W, P2 W → Calls Tryz.prog 14 #[vv T (.slice A2 tl c2), .agg #[.bool false, .int .i64 0, .bool false]] W fun e w' => ∃ A c, e = .returned (.tuple #[.slice A (itB false T).length c, .int .i64 0]) ∧ ((itB false T).length ≤ c ∧ c ≤ maxLen) ∧ Rd w' .u8 A (itB false T).length (gL (itB false T)) ∧ P2 w') := Lib.hid fun W hW => by
      have h := encode_row false 0 false T (.slice A2 tl c2) W (by omega) (by omega) (by omega) (HPB2.out _ hW).2.1 hwf (HG.out.below (HPB2.out _ hW).1)
      rw [e0, h0] at h
      exact h.mono fun e w' ⟨A, c, he, h2, h3, h4⟩ => ⟨A, c, he, h2, h3, HON2.out _ _ hW h4⟩
    obtain ⟨L, hL⟩ : ∃ L, itB false T = L := ⟨_, rfl⟩
    rw [hL] at HE hbw hln
    obtain ⟨n1, hn1⟩ : ∃ n, L.length = n := ⟨_, rfl⟩
    rw [hn1] at HE hbw hln
    obtain ⟨⟨T2, q2, e2⟩, hR2⟩ : ∃ R, dcR 64 1048576 (gL L) n1 = R := ⟨_, rfl⟩
    rw [hR2] at hbw
    have HD : Hid (∀ W A c, P2 W → (n1 ≤ c ∧ c ≤ maxLen) → Rd W .u8 A n1 (gL L) → Calls Tryz.prog 17 #[.slice A n1 c, .agg #[.int .i64 64, .int .i64 1048576, .bool false]] W fun x w' => ∃ A3 c3, x = .returned (.tuple #[vv T2 (.slice A3 T2.l.length c3), .int .i64 (q2 : Int), .int .i64 (e2 : Int)]) ∧ Lst w' (.slice A3 T2.l.length c3) T2.l ∧ P2 w') := Lib.hid fun W A c hW hc hr =>
      (decode_parts 64 1048576 (by decide) (by decide) hr (fun _ _ => gL_lt) hc (HG.out.below (HPB2.out _ hW).1) hR2).mono fun e w' ⟨A3, c3, he, h2, h3⟩ => ⟨A3, c3, he, h2, HON2.out _ _ hW h3⟩
    have HCK : Hid (∀ W, P2 W → Calls Tryz.prog 15 #[vv T (.slice A2 tl c2)] W fun e w' => e = .returned (.int .i64 0) ∧ Below W.heap.size W w') := Lib.hid fun W hW => by
      have h := vcheck_any T (.slice A2 tl c2) W (by omega) (by omega) (HPB2.out _ hW).2.1 hwf
      rw [hck] at h
      exact h
    have HDE : Hid (∀ W, P2 W → Calls Tryz.prog 18 #[vv T (.slice A2 tl c2)] W fun e w' => e = .returned (.int .i64 (dep T : Int)) ∧ Below W.heap.size W w') := Lib.hid fun W hW =>
      vdepth_any T _ W (by omega) (HPB2.out _ hW).2.1
    have HS : Hid (T2 = T → ∀ W A3 c3, P2 W → Lst W (.slice A3 T2.l.length c3) T2.l → Calls Tryz.prog 19 #[vv T (.slice A2 tl c2), vv T2 (.slice A3 T2.l.length c3)] W fun e w' => e = .returned (.bool true) ∧ Below W.heap.size W w') := Lib.hid fun hT W A3 c3 hW hl => by
      have := same11_any (cnt T) T T2 (.slice A2 tl c2) (.slice A3 T2.l.length c3) W (Nat.le_refl _) (by omega) (by rw [hT]; omega) (HPB2.out _ hW).2.1 hl
      rw [(eqv_iff T T2).2 hT.symm] at this
      exact this
    obtain ⟨d1, hd1⟩ : ∃ n, dep T = n := ⟨_, rfl⟩
    rw [hd1] at HDE hdD
    obtain ⟨tl2, htl2⟩ : ∃ n, T2.l.length = n := ⟨_, rfl⟩
    rw [htl2] at HD HS
    have HBW : Hid ((T2 = T ∧ e2 = 0 ∧ n1 ≤ 1048576) ∨ (e2 ≠ 0 ∧ 1048576 < n1)) := Lib.hid (by
      rcases hbw with ⟨h, hz⟩ | ⟨⟨q, e, h, he⟩, hz⟩
      · injection h with h1 h2
        injection h2 with _ h2
        exact .inl ⟨h1, h2, hz⟩
      · injection h with h1 h2
        injection h2 with _ h2
        subst h2
        exact .inr ⟨he, hz⟩)
    have i1 : (d1 : Int) ≤ D := hdD
    have i2 : (q : Int) ≤ Z := hmZ
    have j1 : decide ((d1 : Int) ≤ D) = true := decide_eq_true i1
    have j2 : decide ((q : Int) ≤ Z) = true := decide_eq_true i2
    have j3 : decide (D < (d1 : Int)) = false := decide_eq_false (by omega)
    have j4 : decide (Z < (q : Int)) = false := decide_eq_false (by omega)
    have k3 : ¬ D < (d1 : Int) := by omega
    have k4 : ¬ Z < (q : Int) := by omega
    unfold vv at HE HD HCK HDE HS
    clear hmx hck hln h0 e0 hbw hR2 hd1 htl2 hL hn1 hrg hdD hd64 hcn hex hwf hmZ hm1 hsm HWY HG HA HPC HPP
    go_wp2_with fail
    refine (HE.out _ HP2.out).mono ?_
    rintro r w3 ⟨A1, m1, rfl, hc1, hr1, q1⟩
    have HR1 := Lib.hid (And.intro hc1 (And.intro hr1 q1))
    clear hc1 hr1 q1 HE HP2 p0 p1 c0 c1 c2' c3 c4
    go_wp2_with fail
    refine (HALL.out _).mono ?_
    rintro r w4 ⟨rfl, b4⟩
    have HR4 := Lib.hid (And.intro (HR1.out.2.1.below b4) (HON2.out _ _ HR1.out.2.2 b4))
    clear b4
    go_wp2_with fail
    refine (HD.out _ _ _ HR4.out.2 HR1.out.1 HR4.out.1).mono ?_
    rintro r w5 ⟨A3, c5, rfl, hl5, q5⟩
    have HR5 := Lib.hid (And.intro hl5 q5)
    clear hl5 q5 HR4 HR1 HD HALL
    obtain ⟨W6, hW6⟩ : ∃ W6, w5.alloc (.cells #[.int .i64 T2.k, .bool T2.g, .int .u64 (T2.n : Int), .string T2.s, .slice A3 tl2 c5] 25) = W6 := ⟨_, rfl⟩
    have HB6 : Hid (Below w5.heap.size w5 W6) := Lib.hid (by rw [← hW6]; exact (Below.refl _ _).alloc (Nat.le_refl _) _)
    have HK6 : Hid (W6.heap[w5.heap.size]? = some (.cells #[.int .i64 T2.k, .bool T2.g, .int .u64 (T2.n : Int), .string T2.s, .slice A3 tl2 c5] 25 (0, 0))) := Lib.hid (by rw [← hW6]; exact heap_alloc_last _ _)
    obtain ⟨g2, hg2⟩ : ∃ g, w5.heap.size = g := ⟨_, rfl⟩
    rw [hg2] at HK6
    have HG2 := Lib.hid hg2
    obtain ⟨P3, hP3⟩ : ∃ P3 : World → Prop, P3 = fun W => P2 W ∧ W.heap[g2]? = some (.cells #[.int .i64 T2.k, .bool T2.g, .int .u64 (T2.n : Int), .string T2.s, .slice A3 tl2 c5] 25 (0, 0)) ∧ Lst W (.slice A3 tl2 c5) T2.l := ⟨_, rfl⟩
    have HON3 : Hid (∀ W W', P3 W → Below W.heap.size W W' → P3 W') := Lib.hid fun W W' h hb => by
      rw [hP3] at h ⊢
      exact ⟨HON2.out _ _ h.1 hb, (hb.block _ (lt_of_block h.2.1)).trans h.2.1, h.2.2.keep hb (Nat.le_refl _)⟩
    have HPB3 : Hid (∀ W, P3 W → Below w.heap.size w W ∧ Lst W (.slice A3 tl2 c5) T2.l ∧ P2 W) := Lib.hid fun W h => by rw [hP3] at h; exact ⟨(HPB2.out _ h.1).1, h.2.2, h.1⟩
    have HPC3 : Hid (∀ W, P3 W → W.cell? ⟨g2, 0, none⟩ = some (.int .i64 T2.k) ∧ W.cell? ⟨g2, 1, none⟩ = some (.bool T2.g) ∧ W.cell? ⟨g2, 2, none⟩ = some (.int .u64 (T2.n : Int)) ∧ W.cell? ⟨g2, 3, none⟩ = some (.string T2.s) ∧ W.cell? ⟨g2, 4, none⟩ = some (.slice A3 tl2 c5)) := Lib.hid fun W h => by
      rw [hP3] at h
      exact ⟨cell_of_row _ _ 0 _ _ _ h.2.1, cell_of_row _ _ 1 _ _ _ h.2.1, cell_of_row _ _ 2 _ _ _ h.2.1, cell_of_row _ _ 3 _ _ _ h.2.1, cell_of_row _ _ 4 _ _ _ h.2.1⟩
    have HP3 : Hid (P3 W6) := Lib.hid (by rw [hP3]; exact ⟨HON2.out _ _ HR5.out.2 HB6.out, HK6.out, HR5.out.1.keep HB6.out (Nat.le_refl _)⟩)
    have H3C : Hid (∀ W, P3 W → Calls Tryz.prog 15 #[.agg #[.int .i64 T.k, .bool T.g, .int .u64 (T.n : Int), .string T.s, .slice A2 tl c2]] W fun e w' => e = .returned (.int .i64 0) ∧ P3 w') := Lib.hid fun W hW => (HCK.out W (HPB3.out _ hW).2.2).mono fun e w' ⟨he, h4⟩ => ⟨he, HON3.out _ _ hW h4⟩
    have H3D : Hid (∀ W, P3 W → Calls Tryz.prog 18 #[.agg #[.int .i64 T.k, .bool T.g, .int .u64 (T.n : Int), .string T.s, .slice A2 tl c2]] W fun e w' => e = .returned (.int .i64 (d1 : Int)) ∧ P3 w') := Lib.hid fun W hW => (HDE.out W (HPB3.out _ hW).2.2).mono fun e w' ⟨he, h4⟩ => ⟨he, HON3.out _ _ hW h4⟩
    have H3S : Hid (T2 = T → ∀ W, P3 W → Calls Tryz.prog 19 #[.agg #[.int .i64 T.k, .bool T.g, .int .u64 (T.n : Int), .string T.s, .slice A2 tl c2], .agg #[.int .i64 T2.k, .bool T2.g, .int .u64 (T2.n : Int), .string T2.s, .slice A3 tl2 c5]] W fun e w' => e = .returned (.bool true) ∧ Below W.heap.size W w' ∧ P3 w') := Lib.hid fun hT W hW => (HS.out hT W A3 c5 (HPB3.out _ hW).2.2 (HPB3.out _ hW).2.1).mono fun e w' ⟨he, h4⟩ => ⟨he, h4, HON3.out _ _ hW h4⟩
    have HW6 := Lib.hid hW6
    clear hW6 hP3 HK6 HB6 HR5 HCK HDE HS hg2
    go_upto_region 6 with fail
    rw [HW6.out, HG2.out]
    clear HW6
    have HS3 : Hid (∀ W, P3 W → (W.cell? ⟨w.heap.size, 0, none⟩ = some (.int .i64 D) ∧ W.cell? ⟨w.heap.size, 1, none⟩ = some (.int .i64 Z) ∧ W.cell? ⟨g, 0, none⟩ = some (.int .i64 T.k) ∧ W.cell? ⟨g, 1, none⟩ = some (.bool T.g) ∧ W.cell? ⟨g, 2, none⟩ = some (.int .u64 (T.n : Int)) ∧ W.cell? ⟨g, 3, none⟩ = some (.string T.s) ∧ W.cell? ⟨g, 4, none⟩ = some (.slice A2 tl c2) ∧ W.cell? ⟨g2, 0, none⟩ = some (.int .i64 T2.k) ∧ W.cell? ⟨g2, 1, none⟩ = some (.bool T2.g) ∧ W.cell? ⟨g2, 2, none⟩ = some (.int .u64 (T2.n : Int)) ∧ W.cell? ⟨g2, 3, none⟩ = some (.string T2.s) ∧ W.cell? ⟨g2, 4, none⟩ = some (.slice A3 tl2 c5) ∧ P3 W)) := Lib.hid fun W hW => by
      obtain ⟨⟨p0, p1⟩, c0, c1, c2', c3, c4⟩ := HPC2.out _ (HPB3.out _ hW).2.2
      obtain ⟨d0, d1', d2, d3, d4⟩ := HPC3.out _ hW
      exact ⟨p0, p1, c0, c1, c2', c3, c4, d0, d1', d2, d3, d4, hW⟩
    have HPD : Hid (P3 W6.drew) := Lib.hid (HON3.out _ _ HP3.out (Below.drew (Below.refl _ _)))
    have HEND : Hid (∀ W, P3 W → Below w.heap.size w W) := Lib.hid fun W hW => (HPB3.out _ hW).1
    clear HPC2 HPC3 HPB3 HPB2 HPB HON HON2 HON3 HP3
    rcases HBW.out with ⟨hT, h2, hn⟩ | ⟨h2, hn⟩
    · have H3S2 := Lib.hid (fun W hW => (H3S.out hT W hW).mono fun e w' ⟨h1, _, h3⟩ => And.intro h1 h3)
      subst h2
      clear hT hn H3S HBW
      have hs0 : (fun W : World => W.cell? ⟨w.heap.size, 0, none⟩ = some (.int .i64 D) ∧ W.cell? ⟨w.heap.size, 1, none⟩ = some (.int .i64 Z) ∧ W.cell? ⟨g, 0, none⟩ = some (.int .i64 T.k) ∧ W.cell? ⟨g, 1, none⟩ = some (.bool T.g) ∧ W.cell? ⟨g, 2, none⟩ = some (.int .u64 (T.n : Int)) ∧ W.cell? ⟨g, 3, none⟩ = some (.string T.s) ∧ W.cell? ⟨g, 4, none⟩ = some (.slice A2 tl c2) ∧ W.cell? ⟨g2, 0, none⟩ = some (.int .i64 T2.k) ∧ W.cell? ⟨g2, 1, none⟩ = some (.bool T2.g) ∧ W.cell? ⟨g2, 2, none⟩ = some (.int .u64 (T2.n : Int)) ∧ W.cell? ⟨g2, 3, none⟩ = some (.string T2.s) ∧ W.cell? ⟨g2, 4, none⟩ = some (.slice A3 tl2 c5) ∧ P3 W) W6.drew := HS3.out _ HPD.out
      refine wp_region_noPanic ?_
      refine wp_region_any (by kernel_rfl) ?_
      change wpAny _ _ _ _ _ _ _ (World.drew _)
      refine wpAny_of_held (S := (fun W : World => W.cell? ⟨w.heap.size, 0, none⟩ = some (.int .i64 D) ∧ W.cell? ⟨w.heap.size, 1, none⟩ = some (.int .i64 Z) ∧ W.cell? ⟨g, 0, none⟩ = some (.int .i64 T.k) ∧ W.cell? ⟨g, 1, none⟩ = some (.bool T.g) ∧ W.cell? ⟨g, 2, none⟩ = some (.int .u64 (T.n : Int)) ∧ W.cell? ⟨g, 3, none⟩ = some (.string T.s) ∧ W.cell? ⟨g, 4, none⟩ = some (.slice A2 tl c2) ∧ W.cell? ⟨g2, 0, none⟩ = some (.int .i64 T2.k) ∧ W.cell? ⟨g2, 1, none⟩ = some (.bool T2.g) ∧ W.cell? ⟨g2, 2, none⟩ = some (.int .u64 (T2.n : Int)) ∧ W.cell? ⟨g2, 3, none⟩ = some (.string T2.s) ∧ W.cell? ⟨g2, 4, none⟩ = some (.slice A3 tl2 c5) ∧ P3 W)) _ _ _ _ ?_
      refine wpAnyH_take (i := 0) (v := ?_) rfl (by kernel_rfl) (by kernel_rfl) (by kernel_rfl) (fun _ _ _ h => h) (Or.inl ⟨by kernel_rfl, ?_⟩) (by assumption) ?_
      rotate_left
      · intro W hSW
        try dsimp only at hSW
        obtain ⟨s0, s1, s2, s3, s4, s5, s6, s7, s8, s9, s10, s11, _⟩ := hSW
        go_simp
        try with_reducible rfl
      try simp only [Act.put, List.setIfInBounds_toArray]
      refine wpAnyH_ready (rs := [1]) (by kernel_rfl) (by simp) ?_
      refine AllReadyH.cons rfl (fun K hK => ?_) AllReadyH.nil
      rw [if_pos (by kernel_rfl)]
      go_simp
      with_reducible refine (H3C.out _ HPD.out).mono ?_
      rintro x w7 ⟨rfl, q7⟩
      go_wp2_with fail
      refine hK.out _ _ (HS3.out _ q7) (fun hs1 => ?_)
      clear hK K
      try simp only [Act.put, List.setIfInBounds_toArray, List.set_cons_zero, List.set_cons_succ]
      refine wpAnyH_take (i := 2) (v := ?_) rfl (by kernel_rfl) (by kernel_rfl) (by kernel_rfl) (fun _ _ _ h => h) (Or.inl ⟨by kernel_rfl, ?_⟩) (by assumption) ?_
      rotate_left
      · intro W hSW
        try dsimp only at hSW
        obtain ⟨s0, s1, s2, s3, s4, s5, s6, s7, s8, s9, s10, s11, _⟩ := hSW
        go_simp
        try with_reducible rfl
      try simp only [Act.put, List.setIfInBounds_toArray]
      refine wpAnyH_take (i := 3) (v := ?_) rfl (by kernel_rfl) (by kernel_rfl) (by kernel_rfl) (fun _ _ _ h => h) (Or.inl ⟨by kernel_rfl, ?_⟩) (by assumption) ?_
      rotate_left
      · intro W hSW
        try dsimp only at hSW
        obtain ⟨s0, s1, s2, s3, s4, s5, s6, s7, s8, s9, s10, s11, _⟩ := hSW
        go_simp
        try with_reducible rfl
      try simp only [Act.put]
      refine wpAnyH_take (i := 4) (v := ?_) rfl (by kernel_rfl) (by kernel_rfl) (by kernel_rfl) (fun _ _ _ h => h) (Or.inl ⟨by kernel_rfl, ?_⟩) (by assumption) ?_
      rotate_left
      · intro W hSW
        try dsimp only at hSW
        obtain ⟨s0, s1, s2, s3, s4, s5, s6, s7, s8, s9, s10, s11, _⟩ := hSW
        go_simp
        try with_reducible rfl
      try simp only [Act.put]
      refine wpAnyH_take (i := 6) (v := ?_) rfl (by kernel_rfl) (by kernel_rfl) (by kernel_rfl) (fun _ _ _ h => h) (Or.inl ⟨by kernel_rfl, ?_⟩) (by assumption) ?_
      rotate_left
      · intro W hSW
        try dsimp only at hSW
        obtain ⟨s0, s1, s2, s3, s4, s5, s6, s7, s8, s9, s10, s11, _⟩ := hSW
        go_simp
        try with_reducible rfl
      try simp only [Act.put]
      refine wpAnyH_take (i := 7) (v := ?_) rfl (by kernel_rfl) (by kernel_rfl) (by kernel_rfl) (fun _ _ _ h => h) (Or.inl ⟨by kernel_rfl, ?_⟩) (by assumption) ?_
      rotate_left
      · intro W hSW
        try dsimp only at hSW
        obtain ⟨s0, s1, s2, s3, s4, s5, s6, s7, s8, s9, s10, s11, _⟩ := hSW
        go_simp
        try with_reducible rfl
      try simp only [Act.put]
      refine wpAnyH_ready (rs := [5]) (by kernel_rfl) (by simp) ?_
      refine AllReadyH.cons rfl (fun K hK => ?_) AllReadyH.nil
      rw [if_pos (by kernel_rfl)]
      go_simp
      with_reducible refine (H3D.out _ q7).mono ?_
      rintro x w8 ⟨rfl, q8⟩
      go_wp2_with fail
      refine hK.out _ _ (HS3.out _ q8) (fun hs2 => ?_)
      clear hK K
      try simp only [Act.put, List.setIfInBounds_toArray, List.set_cons_zero, List.set_cons_succ]
      refine wpAnyH_take (i := 8) (v := ?_) rfl (by kernel_rfl) (by kernel_rfl) (by kernel_rfl) (fun _ _ _ h => h) (Or.inl ⟨by kernel_rfl, ?_⟩) (by assumption) ?_
      rotate_left
      · intro W hSW
        try dsimp only at hSW
        obtain ⟨s0, s1, s2, s3, s4, s5, s6, s7, s8, s9, s10, s11, _⟩ := hSW
        go_simp
        try with_reducible rfl
      try simp only [Act.put, List.setIfInBounds_toArray]
      refine wpAnyH_take (i := 9) (v := ?_) rfl (by kernel_rfl) (by kernel_rfl) (by kernel_rfl) (fun _ _ _ h => h) (Or.inl ⟨by kernel_rfl, ?_⟩) (by assumption) ?_
      rotate_left
      · intro W hSW
        try dsimp only at hSW
        obtain ⟨s0, s1, s2, s3, s4, s5, s6, s7, s8, s9, s10, s11, _⟩ := hSW
        go_simp
        try with_reducible rfl
      try simp only [Act.put]
      refine wpAnyH_take (i := 10) (v := ?_) rfl (by kernel_rfl) (by kernel_rfl) (by kernel_rfl) (fun _ _ _ h => h) (Or.inl ⟨by kernel_rfl, ?_⟩) (by assumption) ?_
      rotate_left
      · intro W hSW
        try dsimp only at hSW
        obtain ⟨s0, s1, s2, s3, s4, s5, s6, s7, s8, s9, s10, s11, _⟩ := hSW
        go_simp
        try with_reducible rfl
      try simp only [Act.put]
      refine wpAnyH_take (i := 11) (v := ?_) rfl (by kernel_rfl) (by kernel_rfl) (by kernel_rfl) (fun _ _ _ h => h) (Or.inl ⟨by kernel_rfl, ?_⟩) (by assumption) ?_
      rotate_left
      · intro W hSW
        try dsimp only at hSW
        obtain ⟨s0, s1, s2, s3, s4, s5, s6, s7, s8, s9, s10, s11, _⟩ := hSW
        go_simp
        try with_reducible rfl
      try simp only [Act.put]
      refine wpAnyH_take (i := 12) (v := ?_) rfl (by kernel_rfl) (by kernel_rfl) (by kernel_rfl) (fun _ _ _ h => h) (Or.inl ⟨by kernel_rfl, ?_⟩) (by assumption) ?_
      rotate_left
      · intro W hSW
        try dsimp only at hSW
        obtain ⟨s0, s1, s2, s3, s4, s5, s6, s7, s8, s9, s10, s11, _⟩ := hSW
        go_simp
        try with_reducible rfl
      try simp only [Act.put]
      refine wpAnyH_take (i := 13) (v := ?_) rfl (by kernel_rfl) (by kernel_rfl) (by kernel_rfl) (fun _ _ _ h => h) (Or.inl ⟨by kernel_rfl, ?_⟩) (by assumption) ?_
      rotate_left
      · intro W hSW
        try dsimp only at hSW
        obtain ⟨s0, s1, s2, s3, s4, s5, s6, s7, s8, s9, s10, s11, _⟩ := hSW
        go_simp
        try with_reducible rfl
      try simp only [Act.put]
      refine wpAnyH_take (i := 14) (v := ?_) rfl (by kernel_rfl) (by kernel_rfl) (by kernel_rfl) (fun _ _ _ h => h) (Or.inl ⟨by kernel_rfl, ?_⟩) (by assumption) ?_
      rotate_left
      · intro W hSW
        try dsimp only at hSW
        obtain ⟨s0, s1, s2, s3, s4, s5, s6, s7, s8, s9, s10, s11, _⟩ := hSW
        go_simp
        try with_reducible rfl
      try simp only [Act.put]
      refine wpAnyH_take (i := 15) (v := ?_) rfl (by kernel_rfl) (by kernel_rfl) (by kernel_rfl) (fun _ _ _ h => h) (Or.inl ⟨by kernel_rfl, ?_⟩) (by assumption) ?_
      rotate_left
      · intro W hSW
        try dsimp only at hSW
        obtain ⟨s0, s1, s2, s3, s4, s5, s6, s7, s8, s9, s10, s11, _⟩ := hSW
        go_simp
        try with_reducible rfl
      try simp only [Act.put]
      refine wpAnyH_take (i := 16) (v := ?_) rfl (by kernel_rfl) (by kernel_rfl) (by kernel_rfl) (fun _ _ _ h => h) (Or.inl ⟨by kernel_rfl, ?_⟩) (by assumption) ?_
      rotate_left
      · intro W hSW
        try dsimp only at hSW
        obtain ⟨s0, s1, s2, s3, s4, s5, s6, s7, s8, s9, s10, s11, _⟩ := hSW
        go_simp
        try with_reducible rfl
      try simp only [Act.put]
      refine wpAnyH_take (i := 17) (v := ?_) rfl (by kernel_rfl) (by kernel_rfl) (by kernel_rfl) (fun _ _ _ h => h) (Or.inl ⟨by kernel_rfl, ?_⟩) (by assumption) ?_
      rotate_left
      · intro W hSW
        try dsimp only at hSW
        obtain ⟨s0, s1, s2, s3, s4, s5, s6, s7, s8, s9, s10, s11, _⟩ := hSW
        go_simp
        try with_reducible rfl
      try simp only [Act.put]
      refine wpAnyH_take (i := 18) (v := ?_) rfl (by kernel_rfl) (by kernel_rfl) (by kernel_rfl) (fun _ _ _ h => h) (Or.inl ⟨by kernel_rfl, ?_⟩) (by assumption) ?_
      rotate_left
      · intro W hSW
        try dsimp only at hSW
        obtain ⟨s0, s1, s2, s3, s4, s5, s6, s7, s8, s9, s10, s11, _⟩ := hSW
        go_simp
        try with_reducible rfl
      try simp only [Act.put]
      refine wpAnyH_take (i := 19) (v := ?_) rfl (by kernel_rfl) (by kernel_rfl) (by kernel_rfl) (fun _ _ _ h => h) (Or.inl ⟨by kernel_rfl, ?_⟩) (by assumption) ?_
      rotate_left
      · intro W hSW
        try dsimp only at hSW
        obtain ⟨s0, s1, s2, s3, s4, s5, s6, s7, s8, s9, s10, s11, _⟩ := hSW
        go_simp
        try with_reducible rfl
      try simp only [Act.put]
      refine wpAnyH_take (i := 20) (v := ?_) rfl (by kernel_rfl) (by kernel_rfl) (by kernel_rfl) (fun _ _ _ h => h) (Or.inl ⟨by kernel_rfl, ?_⟩) (by assumption) ?_
      rotate_left
      · intro W hSW
        try dsimp only at hSW
        obtain ⟨s0, s1, s2, s3, s4, s5, s6, s7, s8, s9, s10, s11, _⟩ := hSW
        go_simp
        try with_reducible rfl
      try simp only [Act.put]
      refine wpAnyH_take (i := 21) (v := ?_) rfl (by kernel_rfl) (by kernel_rfl) (by kernel_rfl) (fun _ _ _ h => h) (Or.inl ⟨by kernel_rfl, ?_⟩) (by assumption) ?_
      rotate_left
      · intro W hSW
        try dsimp only at hSW
        obtain ⟨s0, s1, s2, s3, s4, s5, s6, s7, s8, s9, s10, s11, _⟩ := hSW
        go_simp
        try with_reducible rfl
      try simp only [Act.put]
      refine wpAnyH_take (i := 22) (v := ?_) rfl (by kernel_rfl) (by kernel_rfl) (by kernel_rfl) (fun _ _ _ h => h) (Or.inl ⟨by kernel_rfl, ?_⟩) (by assumption) ?_
      rotate_left
      · intro W hSW
        try dsimp only at hSW
        obtain ⟨s0, s1, s2, s3, s4, s5, s6, s7, s8, s9, s10, s11, _⟩ := hSW
        go_simp
        try with_reducible rfl
      try simp only [Act.put]
      refine wpAnyH_take (i := 23) (v := ?_) rfl (by kernel_rfl) (by kernel_rfl) (by kernel_rfl) (fun _ _ _ h => h) (Or.inl ⟨by kernel_rfl, ?_⟩) (by assumption) ?_
      rotate_left
      · intro W hSW
        try dsimp only at hSW
        obtain ⟨s0, s1, s2, s3, s4, s5, s6, s7, s8, s9, s10, s11, _⟩ := hSW
        go_simp
        try with_reducible rfl
      try simp only [Act.put]
      refine wpAnyH_take (i := 24) (v := ?_) rfl (by kernel_rfl) (by kernel_rfl) (by kernel_rfl) (fun _ _ _ h => h) (Or.inl ⟨by kernel_rfl, ?_⟩) (by assumption) ?_
      rotate_left
      · intro W hSW
        try dsimp only at hSW
        obtain ⟨s0, s1, s2, s3, s4, s5, s6, s7, s8, s9, s10, s11, _⟩ := hSW
        go_simp
        try with_reducible rfl
      try simp only [Act.put]
      refine wpAnyH_take (i := 25) (v := ?_) rfl (by kernel_rfl) (by kernel_rfl) (by kernel_rfl) (fun _ _ _ h => h) (Or.inl ⟨by kernel_rfl, ?_⟩) (by assumption) ?_
      rotate_left
      · intro W hSW
        try dsimp only at hSW
        obtain ⟨s0, s1, s2, s3, s4, s5, s6, s7, s8, s9, s10, s11, _⟩ := hSW
        go_simp
        try with_reducible rfl
      try simp only [Act.put]
      refine wpAnyH_take (i := 26) (v := ?_) rfl (by kernel_rfl) (by kernel_rfl) (by kernel_rfl) (fun _ _ _ h => h) (Or.inl ⟨by kernel_rfl, ?_⟩) (by assumption) ?_
      rotate_left
      · intro W hSW
        try dsimp only at hSW
        obtain ⟨s0, s1, s2, s3, s4, s5, s6, s7, s8, s9, s10, s11, _⟩ := hSW
        go_simp
        try with_reducible rfl
      try simp only [Act.put]
      refine wpAnyH_take (i := 27) (v := ?_) rfl (by kernel_rfl) (by kernel_rfl) (by kernel_rfl) (fun _ _ _ h => h) (Or.inl ⟨by kernel_rfl, ?_⟩) (by assumption) ?_
      rotate_left
      · intro W hSW
        try dsimp only at hSW
        obtain ⟨s0, s1, s2, s3, s4, s5, s6, s7, s8, s9, s10, s11, _⟩ := hSW
        go_simp
        try with_reducible rfl
      try simp only [Act.put]
      refine wpAnyH_take (i := 28) (v := ?_) rfl (by kernel_rfl) (by kernel_rfl) (by kernel_rfl) (fun _ _ _ h => h) (Or.inl ⟨by kernel_rfl, ?_⟩) (by assumption) ?_
      rotate_left
      · intro W hSW
        try dsimp only at hSW
        obtain ⟨s0, s1, s2, s3, s4, s5, s6, s7, s8, s9, s10, s11, _⟩ := hSW
        go_simp
        try with_reducible rfl
      try simp only [Act.put]
      refine wpAnyH_take (i := 29) (v := ?_) rfl (by kernel_rfl) (by kernel_rfl) (by kernel_rfl) (fun _ _ _ h => h) (Or.inl ⟨by kernel_rfl, ?_⟩) (by assumption) ?_
      rotate_left
      · intro W hSW
        try dsimp only at hSW
        obtain ⟨s0, s1, s2, s3, s4, s5, s6, s7, s8, s9, s10, s11, _⟩ := hSW
        go_simp
        try with_reducible rfl
      try simp only [Act.put]
      refine wpAnyH_take (i := 30) (v := ?_) rfl (by kernel_rfl) (by kernel_rfl) (by kernel_rfl) (fun _ _ _ h => h) (Or.inl ⟨by kernel_rfl, ?_⟩) (by assumption) ?_
      rotate_left
      · intro W hSW
        try dsimp only at hSW
        obtain ⟨s0, s1, s2, s3, s4, s5, s6, s7, s8, s9, s10, s11, _⟩ := hSW
        go_simp
        try with_reducible rfl
      try simp only [Act.put]
      refine wpAnyH_take (i := 31) (v := ?_) rfl (by kernel_rfl) (by kernel_rfl) (by kernel_rfl) (fun _ _ _ h => h) (Or.inl ⟨by kernel_rfl, ?_⟩) (by assumption) ?_
      rotate_left
      · intro W hSW
        try dsimp only at hSW
        obtain ⟨s0, s1, s2, s3, s4, s5, s6, s7, s8, s9, s10, s11, _⟩ := hSW
        go_simp
        try with_reducible rfl
      try simp only [Act.put]
      refine wpAnyH_take (i := 32) (v := ?_) rfl (by kernel_rfl) (by kernel_rfl) (by kernel_rfl) (fun _ _ _ h => h) (Or.inl ⟨by kernel_rfl, ?_⟩) (by assumption) ?_
      rotate_left
      · intro W hSW
        try dsimp only at hSW
        obtain ⟨s0, s1, s2, s3, s4, s5, s6, s7, s8, s9, s10, s11, _⟩ := hSW
        go_simp
        try with_reducible rfl
      try simp only [Act.put]
      refine wpAnyH_ready (rs := [33]) (by kernel_rfl) (by simp) ?_
      refine AllReadyH.cons rfl (fun K hK => ?_) AllReadyH.nil
      rw [if_pos (by kernel_rfl)]
      go_simp
      with_reducible refine (H3S2.out _ q8).mono ?_
      rintro x w9 ⟨rfl, q9⟩
      go_wp2_with fail
      refine hK.out _ _ (HS3.out _ q9) (fun hs3 => ?_)
      clear hK K
      try simp only [Act.put, List.setIfInBounds_toArray, List.set_cons_zero, List.set_cons_succ]
      refine wpAnyH_take (i := 34) (v := ?_) rfl (by kernel_rfl) (by kernel_rfl) (by kernel_rfl) (fun _ _ _ h => h) (Or.inl ⟨by kernel_rfl, ?_⟩) (by assumption) ?_
      rotate_left
      · intro W hSW
        try dsimp only at hSW
        obtain ⟨s0, s1, s2, s3, s4, s5, s6, s7, s8, s9, s10, s11, _⟩ := hSW
        go_simp
        try with_reducible rfl
      try simp only [Act.put, List.setIfInBounds_toArray]
      refine wpAnyH_take (i := 35) (v := ?_) rfl (by kernel_rfl) (by kernel_rfl) (by kernel_rfl) (fun _ _ _ h => h) (Or.inl ⟨by kernel_rfl, ?_⟩) (by assumption) ?_
      rotate_left
      · intro W hSW
        try dsimp only at hSW
        obtain ⟨s0, s1, s2, s3, s4, s5, s6, s7, s8, s9, s10, s11, _⟩ := hSW
        go_simp
        try with_reducible rfl
      try simp only [Act.put]
      refine wpAnyH_take (i := 36) (oi := { dst := some 87, op := _, type := _, pos := _, after := _, guard := _ }) rfl (by kernel_rfl) (by kernel_rfl) (by kernel_rfl) (fun _ _ _ h => h) (Or.inr ⟨by kernel_rfl, rfl⟩) (by assumption) ?_
      try simp only [Act.put]
      refine wpAnyH_take (i := 37) (oi := { dst := some 88, op := _, type := _, pos := _, after := _, guard := _ }) rfl (by kernel_rfl) (by kernel_rfl) (by kernel_rfl) (fun _ _ _ h => h) (Or.inr ⟨by kernel_rfl, rfl⟩) (by assumption) ?_
      try simp only [Act.put]
      refine wpAnyH_take (i := 38) (oi := { dst := some 89, op := _, type := _, pos := _, after := _, guard := _ }) rfl (by kernel_rfl) (by kernel_rfl) (by kernel_rfl) (fun _ _ _ h => h) (Or.inr ⟨by kernel_rfl, rfl⟩) (by assumption) ?_
      try simp only [Act.put]
      refine wpAnyH_take (i := 39) (oi := { dst := some 90, op := _, type := _, pos := _, after := _, guard := _ }) (v := ?_) rfl (by kernel_rfl) (by kernel_rfl) (by kernel_rfl) (fun _ _ _ h => h) (Or.inl ⟨by kernel_rfl, ?_⟩) (by assumption) ?_
      rotate_left
      · intro W hSW
        try dsimp only at hSW
        obtain ⟨s0, s1, s2, s3, s4, s5, s6, s7, s8, s9, s10, s11, _⟩ := hSW
        go_simp
        try with_reducible rfl
      try simp only [Act.put]
      refine wpAnyH_take (i := 40) (oi := { dst := some 91, op := _, type := _, pos := _, after := _, guard := _ }) (v := ?_) rfl (by kernel_rfl) (by kernel_rfl) (by kernel_rfl) (fun _ _ _ h => h) (Or.inl ⟨by kernel_rfl, ?_⟩) (by assumption) ?_
      rotate_left
      · intro W hSW
        try dsimp only at hSW
        obtain ⟨s0, s1, s2, s3, s4, s5, s6, s7, s8, s9, s10, s11, _⟩ := hSW
        go_simp
        try with_reducible rfl
      try simp only [Act.put]
      refine wpAnyH_take (i := 41) (oi := { dst := some 4, op := _, type := _, pos := _, after := _, guard := _ }) (v := ?_) rfl (by kernel_rfl) (by kernel_rfl) (by kernel_rfl) (fun _ _ _ h => h) (Or.inl ⟨by kernel_rfl, ?_⟩) (by assumption) ?_
      rotate_left
      · intro W hSW
        try dsimp only at hSW
        obtain ⟨s0, s1, s2, s3, s4, s5, s6, s7, s8, s9, s10, s11, _⟩ := hSW
        go_simp
        try with_reducible rfl
      try simp only [Act.put]
      refine wpAnyH_done (by kernel_rfl) ?_ _
      refine NoPanic.normal ?_
      go_wp2_with fail
      exact bodyPost_ret (v := .bool true) (by simp [results, Tryz.results4, go_sem]) rfl ⟨rfl, HEND.out _ q9⟩
    · have l1 : ((e2 : Int) == 0) = false := by simp; omega
      have l2 : decide ((1048576 : Int) < (n1 : Int)) = true := decide_eq_true (by omega)
      have l4 : decide (1048576 < n1) = true := decide_eq_true (by omega)
      have l3 : (1048576 : Int) < (n1 : Int) := by omega
      clear h2 H3S HBW
      have hs0 : (fun W : World => W.cell? ⟨w.heap.size, 0, none⟩ = some (.int .i64 D) ∧ W.cell? ⟨w.heap.size, 1, none⟩ = some (.int .i64 Z) ∧ W.cell? ⟨g, 0, none⟩ = some (.int .i64 T.k) ∧ W.cell? ⟨g, 1, none⟩ = some (.bool T.g) ∧ W.cell? ⟨g, 2, none⟩ = some (.int .u64 (T.n : Int)) ∧ W.cell? ⟨g, 3, none⟩ = some (.string T.s) ∧ W.cell? ⟨g, 4, none⟩ = some (.slice A2 tl c2) ∧ W.cell? ⟨g2, 0, none⟩ = some (.int .i64 T2.k) ∧ W.cell? ⟨g2, 1, none⟩ = some (.bool T2.g) ∧ W.cell? ⟨g2, 2, none⟩ = some (.int .u64 (T2.n : Int)) ∧ W.cell? ⟨g2, 3, none⟩ = some (.string T2.s) ∧ W.cell? ⟨g2, 4, none⟩ = some (.slice A3 tl2 c5) ∧ P3 W) W6.drew := HS3.out _ HPD.out
      refine wp_region_noPanic ?_
      refine wp_region_any (by kernel_rfl) ?_
      change wpAny _ _ _ _ _ _ _ (World.drew _)
      refine wpAny_of_held (S := (fun W : World => W.cell? ⟨w.heap.size, 0, none⟩ = some (.int .i64 D) ∧ W.cell? ⟨w.heap.size, 1, none⟩ = some (.int .i64 Z) ∧ W.cell? ⟨g, 0, none⟩ = some (.int .i64 T.k) ∧ W.cell? ⟨g, 1, none⟩ = some (.bool T.g) ∧ W.cell? ⟨g, 2, none⟩ = some (.int .u64 (T.n : Int)) ∧ W.cell? ⟨g, 3, none⟩ = some (.string T.s) ∧ W.cell? ⟨g, 4, none⟩ = some (.slice A2 tl c2) ∧ W.cell? ⟨g2, 0, none⟩ = some (.int .i64 T2.k) ∧ W.cell? ⟨g2, 1, none⟩ = some (.bool T2.g) ∧ W.cell? ⟨g2, 2, none⟩ = some (.int .u64 (T2.n : Int)) ∧ W.cell? ⟨g2, 3, none⟩ = some (.string T2.s) ∧ W.cell? ⟨g2, 4, none⟩ = some (.slice A3 tl2 c5) ∧ P3 W)) _ _ _ _ ?_
      refine wpAnyH_take (i := 0) (v := ?_) rfl (by kernel_rfl) (by kernel_rfl) (by kernel_rfl) (fun _ _ _ h => h) (Or.inl ⟨by kernel_rfl, ?_⟩) (by assumption) ?_
      rotate_left
      · intro W hSW
        try dsimp only at hSW
        obtain ⟨s0, s1, s2, s3, s4, s5, s6, s7, s8, s9, s10, s11, _⟩ := hSW
        go_simp
        try with_reducible rfl
      try simp only [Act.put, List.setIfInBounds_toArray]
      refine wpAnyH_ready (rs := [1]) (by kernel_rfl) (by simp) ?_
      refine AllReadyH.cons rfl (fun K hK => ?_) AllReadyH.nil
      rw [if_pos (by kernel_rfl)]
      go_simp
      with_reducible refine (H3C.out _ HPD.out).mono ?_
      rintro x w7 ⟨rfl, q7⟩
      go_wp2_with fail
      refine hK.out _ _ (HS3.out _ q7) (fun hs1 => ?_)
      clear hK K
      try simp only [Act.put, List.setIfInBounds_toArray, List.set_cons_zero, List.set_cons_succ]
      refine wpAnyH_take (i := 2) (v := ?_) rfl (by kernel_rfl) (by kernel_rfl) (by kernel_rfl) (fun _ _ _ h => h) (Or.inl ⟨by kernel_rfl, ?_⟩) (by assumption) ?_
      rotate_left
      · intro W hSW
        try dsimp only at hSW
        obtain ⟨s0, s1, s2, s3, s4, s5, s6, s7, s8, s9, s10, s11, _⟩ := hSW
        go_simp
        try with_reducible rfl
      try simp only [Act.put, List.setIfInBounds_toArray]
      refine wpAnyH_take (i := 3) (v := ?_) rfl (by kernel_rfl) (by kernel_rfl) (by kernel_rfl) (fun _ _ _ h => h) (Or.inl ⟨by kernel_rfl, ?_⟩) (by assumption) ?_
      rotate_left
      · intro W hSW
        try dsimp only at hSW
        obtain ⟨s0, s1, s2, s3, s4, s5, s6, s7, s8, s9, s10, s11, _⟩ := hSW
        go_simp
        try with_reducible rfl
      try simp only [Act.put]
      refine wpAnyH_take (i := 4) (v := ?_) rfl (by kernel_rfl) (by kernel_rfl) (by kernel_rfl) (fun _ _ _ h => h) (Or.inl ⟨by kernel_rfl, ?_⟩) (by assumption) ?_
      rotate_left
      · intro W hSW
        try dsimp only at hSW
        obtain ⟨s0, s1, s2, s3, s4, s5, s6, s7, s8, s9, s10, s11, _⟩ := hSW
        go_simp
        try with_reducible rfl
      try simp only [Act.put]
      refine wpAnyH_take (i := 6) (v := ?_) rfl (by kernel_rfl) (by kernel_rfl) (by kernel_rfl) (fun _ _ _ h => h) (Or.inl ⟨by kernel_rfl, ?_⟩) (by assumption) ?_
      rotate_left
      · intro W hSW
        try dsimp only at hSW
        obtain ⟨s0, s1, s2, s3, s4, s5, s6, s7, s8, s9, s10, s11, _⟩ := hSW
        go_simp
        try with_reducible rfl
      try simp only [Act.put]
      refine wpAnyH_take (i := 7) (v := ?_) rfl (by kernel_rfl) (by kernel_rfl) (by kernel_rfl) (fun _ _ _ h => h) (Or.inl ⟨by kernel_rfl, ?_⟩) (by assumption) ?_
      rotate_left
      · intro W hSW
        try dsimp only at hSW
        obtain ⟨s0, s1, s2, s3, s4, s5, s6, s7, s8, s9, s10, s11, _⟩ := hSW
        go_simp
        try with_reducible rfl
      try simp only [Act.put]
      refine wpAnyH_ready (rs := [5]) (by kernel_rfl) (by simp) ?_
      refine AllReadyH.cons rfl (fun K hK => ?_) AllReadyH.nil
      rw [if_pos (by kernel_rfl)]
      go_simp
      with_reducible refine (H3D.out _ q7).mono ?_
      rintro x w8 ⟨rfl, q8⟩
      go_wp2_with fail
      refine hK.out _ _ (HS3.out _ q8) (fun hs2 => ?_)
      clear hK K
      try simp only [Act.put, List.setIfInBounds_toArray, List.set_cons_zero, List.set_cons_succ]
      refine wpAnyH_take (i := 8) (v := ?_) rfl (by kernel_rfl) (by kernel_rfl) (by kernel_rfl) (fun _ _ _ h => h) (Or.inl ⟨by kernel_rfl, ?_⟩) (by assumption) ?_
      rotate_left
      · intro W hSW
        try dsimp only at hSW
        obtain ⟨s0, s1, s2, s3, s4, s5, s6, s7, s8, s9, s10, s11, _⟩ := hSW
        go_simp
        try with_reducible rfl
      try simp only [Act.put, List.setIfInBounds_toArray]
      refine wpAnyH_take (i := 9) (v := ?_) rfl (by kernel_rfl) (by kernel_rfl) (by kernel_rfl) (fun _ _ _ h => h) (Or.inl ⟨by kernel_rfl, ?_⟩) (by assumption) ?_
      rotate_left
      · intro W hSW
        try dsimp only at hSW
        obtain ⟨s0, s1, s2, s3, s4, s5, s6, s7, s8, s9, s10, s11, _⟩ := hSW
        go_simp
        try with_reducible rfl
      try simp only [Act.put]
      refine wpAnyH_take (i := 10) (v := ?_) rfl (by kernel_rfl) (by kernel_rfl) (by kernel_rfl) (fun _ _ _ h => h) (Or.inl ⟨by kernel_rfl, ?_⟩) (by assumption) ?_
      rotate_left
      · intro W hSW
        try dsimp only at hSW
        obtain ⟨s0, s1, s2, s3, s4, s5, s6, s7, s8, s9, s10, s11, _⟩ := hSW
        go_simp
        try with_reducible rfl
      try simp only [Act.put]
      refine wpAnyH_take (i := 11) (v := ?_) rfl (by kernel_rfl) (by kernel_rfl) (by kernel_rfl) (fun _ _ _ h => h) (Or.inl ⟨by kernel_rfl, ?_⟩) (by assumption) ?_
      rotate_left
      · intro W hSW
        try dsimp only at hSW
        obtain ⟨s0, s1, s2, s3, s4, s5, s6, s7, s8, s9, s10, s11, _⟩ := hSW
        go_simp
        try with_reducible rfl
      try simp only [Act.put]
      refine wpAnyH_take (i := 12) (v := ?_) rfl (by kernel_rfl) (by kernel_rfl) (by kernel_rfl) (fun _ _ _ h => h) (Or.inl ⟨by kernel_rfl, ?_⟩) (by assumption) ?_
      rotate_left
      · intro W hSW
        try dsimp only at hSW
        obtain ⟨s0, s1, s2, s3, s4, s5, s6, s7, s8, s9, s10, s11, _⟩ := hSW
        go_simp
        try with_reducible rfl
      try simp only [Act.put]
      refine wpAnyH_take (i := 13) (v := ?_) rfl (by kernel_rfl) (by kernel_rfl) (by kernel_rfl) (fun _ _ _ h => h) (Or.inl ⟨by kernel_rfl, ?_⟩) (by assumption) ?_
      rotate_left
      · intro W hSW
        try dsimp only at hSW
        obtain ⟨s0, s1, s2, s3, s4, s5, s6, s7, s8, s9, s10, s11, _⟩ := hSW
        go_simp
        try with_reducible rfl
      try simp only [Act.put]
      refine wpAnyH_take (i := 14) (v := ?_) rfl (by kernel_rfl) (by kernel_rfl) (by kernel_rfl) (fun _ _ _ h => h) (Or.inl ⟨by kernel_rfl, ?_⟩) (by assumption) ?_
      rotate_left
      · intro W hSW
        try dsimp only at hSW
        obtain ⟨s0, s1, s2, s3, s4, s5, s6, s7, s8, s9, s10, s11, _⟩ := hSW
        go_simp
        try with_reducible rfl
      try simp only [Act.put]
      refine wpAnyH_take (i := 15) (v := ?_) rfl (by kernel_rfl) (by kernel_rfl) (by kernel_rfl) (fun _ _ _ h => h) (Or.inl ⟨by kernel_rfl, ?_⟩) (by assumption) ?_
      rotate_left
      · intro W hSW
        try dsimp only at hSW
        obtain ⟨s0, s1, s2, s3, s4, s5, s6, s7, s8, s9, s10, s11, _⟩ := hSW
        go_simp
        try with_reducible rfl
      try simp only [Act.put]
      refine wpAnyH_take (i := 16) (v := ?_) rfl (by kernel_rfl) (by kernel_rfl) (by kernel_rfl) (fun _ _ _ h => h) (Or.inl ⟨by kernel_rfl, ?_⟩) (by assumption) ?_
      rotate_left
      · intro W hSW
        try dsimp only at hSW
        obtain ⟨s0, s1, s2, s3, s4, s5, s6, s7, s8, s9, s10, s11, _⟩ := hSW
        go_simp
        try with_reducible rfl
      try simp only [Act.put]
      refine wpAnyH_take (i := 17) (v := ?_) rfl (by kernel_rfl) (by kernel_rfl) (by kernel_rfl) (fun _ _ _ h => h) (Or.inl ⟨by kernel_rfl, ?_⟩) (by assumption) ?_
      rotate_left
      · intro W hSW
        try dsimp only at hSW
        obtain ⟨s0, s1, s2, s3, s4, s5, s6, s7, s8, s9, s10, s11, _⟩ := hSW
        go_simp
        try with_reducible rfl
      try simp only [Act.put]
      refine wpAnyH_take (i := 18) (v := ?_) rfl (by kernel_rfl) (by kernel_rfl) (by kernel_rfl) (fun _ _ _ h => h) (Or.inl ⟨by kernel_rfl, ?_⟩) (by assumption) ?_
      rotate_left
      · intro W hSW
        try dsimp only at hSW
        obtain ⟨s0, s1, s2, s3, s4, s5, s6, s7, s8, s9, s10, s11, _⟩ := hSW
        go_simp
        try with_reducible rfl
      try simp only [Act.put]
      refine wpAnyH_take (i := 19) (v := ?_) rfl (by kernel_rfl) (by kernel_rfl) (by kernel_rfl) (fun _ _ _ h => h) (Or.inl ⟨by kernel_rfl, ?_⟩) (by assumption) ?_
      rotate_left
      · intro W hSW
        try dsimp only at hSW
        obtain ⟨s0, s1, s2, s3, s4, s5, s6, s7, s8, s9, s10, s11, _⟩ := hSW
        go_simp
        try with_reducible rfl
      try simp only [Act.put]
      refine wpAnyH_take (i := 20) (v := ?_) rfl (by kernel_rfl) (by kernel_rfl) (by kernel_rfl) (fun _ _ _ h => h) (Or.inl ⟨by kernel_rfl, ?_⟩) (by assumption) ?_
      rotate_left
      · intro W hSW
        try dsimp only at hSW
        obtain ⟨s0, s1, s2, s3, s4, s5, s6, s7, s8, s9, s10, s11, _⟩ := hSW
        go_simp
        try with_reducible rfl
      try simp only [Act.put]
      refine wpAnyH_take (i := 21) (v := ?_) rfl (by kernel_rfl) (by kernel_rfl) (by kernel_rfl) (fun _ _ _ h => h) (Or.inl ⟨by kernel_rfl, ?_⟩) (by assumption) ?_
      rotate_left
      · intro W hSW
        try dsimp only at hSW
        obtain ⟨s0, s1, s2, s3, s4, s5, s6, s7, s8, s9, s10, s11, _⟩ := hSW
        go_simp
        try with_reducible rfl
      try simp only [Act.put]
      refine wpAnyH_take (i := 22) (v := ?_) rfl (by kernel_rfl) (by kernel_rfl) (by kernel_rfl) (fun _ _ _ h => h) (Or.inl ⟨by kernel_rfl, ?_⟩) (by assumption) ?_
      rotate_left
      · intro W hSW
        try dsimp only at hSW
        obtain ⟨s0, s1, s2, s3, s4, s5, s6, s7, s8, s9, s10, s11, _⟩ := hSW
        go_simp
        try with_reducible rfl
      try simp only [Act.put]
      refine wpAnyH_take (i := 23) (v := ?_) rfl (by kernel_rfl) (by kernel_rfl) (by kernel_rfl) (fun _ _ _ h => h) (Or.inl ⟨by kernel_rfl, ?_⟩) (by assumption) ?_
      rotate_left
      · intro W hSW
        try dsimp only at hSW
        obtain ⟨s0, s1, s2, s3, s4, s5, s6, s7, s8, s9, s10, s11, _⟩ := hSW
        go_simp
        try with_reducible rfl
      try simp only [Act.put]
      refine wpAnyH_take (i := 24) (v := ?_) rfl (by kernel_rfl) (by kernel_rfl) (by kernel_rfl) (fun _ _ _ h => h) (Or.inl ⟨by kernel_rfl, ?_⟩) (by assumption) ?_
      rotate_left
      · intro W hSW
        try dsimp only at hSW
        obtain ⟨s0, s1, s2, s3, s4, s5, s6, s7, s8, s9, s10, s11, _⟩ := hSW
        go_simp
        try with_reducible rfl
      try simp only [Act.put]
      refine wpAnyH_take (i := 25) (v := ?_) rfl (by kernel_rfl) (by kernel_rfl) (by kernel_rfl) (fun _ _ _ h => h) (Or.inl ⟨by kernel_rfl, ?_⟩) (by assumption) ?_
      rotate_left
      · intro W hSW
        try dsimp only at hSW
        obtain ⟨s0, s1, s2, s3, s4, s5, s6, s7, s8, s9, s10, s11, _⟩ := hSW
        go_simp
        try with_reducible rfl
      try simp only [Act.put]
      refine wpAnyH_take (i := 26) (v := ?_) rfl (by kernel_rfl) (by kernel_rfl) (by kernel_rfl) (fun _ _ _ h => h) (Or.inl ⟨by kernel_rfl, ?_⟩) (by assumption) ?_
      rotate_left
      · intro W hSW
        try dsimp only at hSW
        obtain ⟨s0, s1, s2, s3, s4, s5, s6, s7, s8, s9, s10, s11, _⟩ := hSW
        go_simp
        try with_reducible rfl
      try simp only [Act.put]
      refine wpAnyH_take (i := 27) (v := ?_) rfl (by kernel_rfl) (by kernel_rfl) (by kernel_rfl) (fun _ _ _ h => h) (Or.inl ⟨by kernel_rfl, ?_⟩) (by assumption) ?_
      rotate_left
      · intro W hSW
        try dsimp only at hSW
        obtain ⟨s0, s1, s2, s3, s4, s5, s6, s7, s8, s9, s10, s11, _⟩ := hSW
        go_simp
        try with_reducible rfl
      try simp only [Act.put]
      refine wpAnyH_take (i := 28) (v := ?_) rfl (by kernel_rfl) (by kernel_rfl) (by kernel_rfl) (fun _ _ _ h => h) (Or.inl ⟨by kernel_rfl, ?_⟩) (by assumption) ?_
      rotate_left
      · intro W hSW
        try dsimp only at hSW
        obtain ⟨s0, s1, s2, s3, s4, s5, s6, s7, s8, s9, s10, s11, _⟩ := hSW
        go_simp
        try with_reducible rfl
      try simp only [Act.put]
      refine wpAnyH_take (i := 29) (v := ?_) rfl (by kernel_rfl) (by kernel_rfl) (by kernel_rfl) (fun _ _ _ h => h) (Or.inl ⟨by kernel_rfl, ?_⟩) (by assumption) ?_
      rotate_left
      · intro W hSW
        try dsimp only at hSW
        obtain ⟨s0, s1, s2, s3, s4, s5, s6, s7, s8, s9, s10, s11, _⟩ := hSW
        go_simp
        try with_reducible rfl
      try simp only [Act.put]
      refine wpAnyH_take (i := 30) (v := ?_) rfl (by kernel_rfl) (by kernel_rfl) (by kernel_rfl) (fun _ _ _ h => h) (Or.inl ⟨by kernel_rfl, ?_⟩) (by assumption) ?_
      rotate_left
      · intro W hSW
        try dsimp only at hSW
        obtain ⟨s0, s1, s2, s3, s4, s5, s6, s7, s8, s9, s10, s11, _⟩ := hSW
        go_simp
        try with_reducible rfl
      try simp only [Act.put]
      refine wpAnyH_take (i := 31) rfl (by kernel_rfl) (by kernel_rfl) (by kernel_rfl) (fun _ _ _ h => h) (Or.inr ⟨by kernel_rfl, rfl⟩) (by assumption) ?_
      try simp only [Act.put]
      refine wpAnyH_take (i := 32) rfl (by kernel_rfl) (by kernel_rfl) (by kernel_rfl) (fun _ _ _ h => h) (Or.inr ⟨by kernel_rfl, rfl⟩) (by assumption) ?_
      try simp only [Act.put]
      refine wpAnyH_ready (rs := [33]) (by kernel_rfl) (by simp) ?_
      refine AllReadyH.cons rfl (fun K hK => ?_) AllReadyH.nil
      rw [if_neg (Bool.eq_false_iff.1 (by kernel_rfl))]
      refine hK.out _ _ (HS3.out _ q8) (fun hs3 => ?_)
      clear hK K
      try simp only [Act.put]
      refine wpAnyH_take (i := 34) (v := ?_) rfl (by kernel_rfl) (by kernel_rfl) (by kernel_rfl) (fun _ _ _ h => h) (Or.inl ⟨by kernel_rfl, ?_⟩) (by assumption) ?_
      rotate_left
      · intro W hSW
        try dsimp only at hSW
        obtain ⟨s0, s1, s2, s3, s4, s5, s6, s7, s8, s9, s10, s11, _⟩ := hSW
        go_simp
        try with_reducible rfl
      try simp only [Act.put]
      refine wpAnyH_take (i := 35) (v := ?_) rfl (by kernel_rfl) (by kernel_rfl) (by kernel_rfl) (fun _ _ _ h => h) (Or.inl ⟨by kernel_rfl, ?_⟩) (by assumption) ?_
      rotate_left
      · intro W hSW
        try dsimp only at hSW
        obtain ⟨s0, s1, s2, s3, s4, s5, s6, s7, s8, s9, s10, s11, _⟩ := hSW
        go_simp
        try with_reducible rfl
      try simp only [Act.put]
      refine wpAnyH_take (i := 36) (oi := { dst := some 87, op := _, type := _, pos := _, after := _, guard := _ }) (v := ?_) rfl (by kernel_rfl) (by kernel_rfl) (by kernel_rfl) (fun _ _ _ h => h) (Or.inl ⟨by kernel_rfl, ?_⟩) (by assumption) ?_
      rotate_left
      · intro W hSW
        try dsimp only at hSW
        obtain ⟨s0, s1, s2, s3, s4, s5, s6, s7, s8, s9, s10, s11, _⟩ := hSW
        go_simp
        try with_reducible rfl
      try simp only [Act.put]
      refine wpAnyH_take (i := 37) (oi := { dst := some 88, op := _, type := _, pos := _, after := _, guard := _ }) (v := ?_) rfl (by kernel_rfl) (by kernel_rfl) (by kernel_rfl) (fun _ _ _ h => h) (Or.inl ⟨by kernel_rfl, ?_⟩) (by assumption) ?_
      rotate_left
      · intro W hSW
        try dsimp only at hSW
        obtain ⟨s0, s1, s2, s3, s4, s5, s6, s7, s8, s9, s10, s11, _⟩ := hSW
        go_simp
        try with_reducible rfl
      try simp only [Act.put]
      refine wpAnyH_take (i := 38) (oi := { dst := some 89, op := _, type := _, pos := _, after := _, guard := _ }) (v := ?_) rfl (by kernel_rfl) (by kernel_rfl) (by kernel_rfl) (fun _ _ _ h => h) (Or.inl ⟨by kernel_rfl, ?_⟩) (by assumption) ?_
      rotate_left
      · intro W hSW
        try dsimp only at hSW
        obtain ⟨s0, s1, s2, s3, s4, s5, s6, s7, s8, s9, s10, s11, _⟩ := hSW
        go_simp
        try with_reducible rfl
      try simp only [Act.put]
      refine wpAnyH_take (i := 39) (oi := { dst := some 90, op := _, type := _, pos := _, after := _, guard := _ }) (v := ?_) rfl (by kernel_rfl) (by kernel_rfl) (by kernel_rfl) (fun _ _ _ h => h) (Or.inl ⟨by kernel_rfl, ?_⟩) (by assumption) ?_
      rotate_left
      · intro W hSW
        try dsimp only at hSW
        obtain ⟨s0, s1, s2, s3, s4, s5, s6, s7, s8, s9, s10, s11, _⟩ := hSW
        go_simp
        try with_reducible rfl
      try simp only [Act.put]
      refine wpAnyH_take (i := 40) (oi := { dst := some 91, op := _, type := _, pos := _, after := _, guard := _ }) (v := ?_) rfl (by kernel_rfl) (by kernel_rfl) (by kernel_rfl) (fun _ _ _ h => h) (Or.inl ⟨by kernel_rfl, ?_⟩) (by assumption) ?_
      rotate_left
      · intro W hSW
        try dsimp only at hSW
        obtain ⟨s0, s1, s2, s3, s4, s5, s6, s7, s8, s9, s10, s11, _⟩ := hSW
        go_simp
        try with_reducible rfl
      try simp only [Act.put]
      refine wpAnyH_take (i := 41) (oi := { dst := some 4, op := _, type := _, pos := _, after := _, guard := _ }) (v := ?_) rfl (by kernel_rfl) (by kernel_rfl) (by kernel_rfl) (fun _ _ _ h => h) (Or.inl ⟨by kernel_rfl, ?_⟩) (by assumption) ?_
      rotate_left
      · intro W hSW
        try dsimp only at hSW
        obtain ⟨s0, s1, s2, s3, s4, s5, s6, s7, s8, s9, s10, s11, _⟩ := hSW
        go_simp
        try with_reducible rfl
      try simp only [Act.put]
      refine wpAnyH_done (by kernel_rfl) ?_ _
      refine NoPanic.normal ?_
      go_wp2_with fail
      exact bodyPost_ret (v := .bool true) (by simp [results, Tryz.results4, go_sem]) rfl ⟨rfl, HEND.out _ q8⟩
  · injection hh with h1 h2
    injection h2 with h2 h3
    subst h1 h2 h3
    have hne : ((e : Int) != 0) = true := by simp; omega
    have HS : Hid (∀ W, P2 W → Calls Tryz.prog 19 #[vv emp (.slice A2 tl c2), .agg #[.int .i64 0, .bool false, .int .u64 0, .string ⟨#[]⟩, .slice none 0 0]] W fun e w' => e = .returned (.bool true) ∧ P2 w') := Lib.hid fun W hW => by
      have := same11_any 1 emp emp (.slice A2 tl c2) (.slice none 0 0) W (by decide) (by decide) (by decide) (HPB2.out _ hW).2.1 .nil_
      rw [(eqv_iff emp emp).2 rfl] at this
      exact this.mono fun x w' ⟨hx, hb⟩ => ⟨hx, HON2.out _ _ hW hb⟩
    have i1 : (q : Int) ≤ (m : Int) := by omega
    have j1 : decide ((q : Int) ≤ (m : Int)) = true := decide_eq_true i1
    have j3 : decide ((m : Int) < (q : Int)) = false := decide_eq_false (by omega)
    have j4 : decide ((q : Int) < 0) = false := decide_eq_false (by omega)
    unfold vv at HS
    clear HWY HG HALL HPC HPP hee hqm
    go_wp2_with fail
    refine (HS.out _ HP2.out).mono ?_
    rintro r w5 ⟨rfl, q5⟩
    have HR5 := Lib.hid (HPB2.out _ q5).2.2
    clear q5 p0 p1 c0 c1 c2' c3 c4
    go_wp2_with fail
    refine (HA.out _ HR5.out).mono ?_
    rintro r w6 ⟨rfl, q6⟩
    have HR6 := Lib.hid (HPB.out _ q6)
    clear q6
    go_wp2_with fail
    go_ret
    exact ⟨rfl, HR6.out⟩
end Go.Proofs.YtpcladdipgchbaaGreatDoor.nn
