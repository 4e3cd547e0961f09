/- Joined texts, what is wanted of them: CborBackW. -/
import Derived.Test.YtpcladdipgchbaaGreatDoorProg
import Derived.WalkKit
import Derived.Lib.Hide
import Derived.WalkSpells
import Derived.Deep.QuietTactic
import Derived.BigQuiet
import Derived.Deep.RegionHeld3
import Derived.Laws.BitsAllLaws
import Derived.Test.YtpcladdipgchbaaGreatDoorShelf
import Derived.Deep.RegionWith
import Derived.IntWalk
import Derived.Deep.CutBlock
import Derived.StillTailTactics
import Derived.Test.YtpcladdipgchbaaGreatDoorSx
import Derived.Test.YtpcladdipgchbaaGreatDoorSi
import Derived.Test.YtpcladdipgchbaaGreatDoorSe
import Derived.Test.YtpcladdipgchbaaGreatDoorSb
import Derived.Test.YtpcladdipgchbaaGreatDoorTb
import Derived.Test.YtpcladdipgchbaaGreatDoorSd
import Derived.Test.YtpcladdipgchbaaGreatDoorSv
import Derived.Test.YtpcladdipgchbaaGreatDoorSg
import Derived.Test.YtpcladdipgchbaaGreatDoorSy
import Derived.Test.YtpcladdipgchbaaGreatDoorTc
import Derived.Test.YtpcladdipgchbaaGreatDoorSa
import Derived.Test.YtpcladdipgchbaaGreatDoorSo
import Derived.Test.YtpcladdipgchbaaGreatDoorTl
import Derived.Test.YtpcladdipgchbaaGreatDoorSn
import Derived.Test.YtpcladdipgchbaaGreatDoorTa
import Derived.Test.YtpcladdipgchbaaGreatDoorSj
import Derived.Test.YtpcladdipgchbaaGreatDoorSz
import Derived.Test.YtpcladdipgchbaaGreatDoorSf
import Derived.Test.YtpcladdipgchbaaGreatDoorSw
import Derived.Test.YtpcladdipgchbaaGreatDoorTe
import Derived.Test.YtpcladdipgchbaaGreatDoorSc
import Derived.Test.YtpcladdipgchbaaGreatDoorSm
import Derived.Test.YtpcladdipgchbaaGreatDoorSt
import Derived.Test.YtpcladdipgchbaaGreatDoorSh
import Derived.Test.YtpcladdipgchbaaGreatDoorSs
import Derived.Test.YtpcladdipgchbaaGreatDoorSp
import Derived.Test.YtpcladdipgchbaaGreatDoorSr
import Derived.Test.YtpcladdipgchbaaGreatDoorSq
import Derived.Test.YtpcladdipgchbaaGreatDoorTd
import Derived.Test.YtpcladdipgchbaaGreatDoorSu
import Derived.Test.YtpcladdipgchbaaGreatDoorSl
import Derived.Test.YtpcladdipgchbaaGreatDoorTk
namespace Go.Proofs.YtpcladdipgchbaaGreatDoor.nn
open Go.RowKit

theorem ats_gL (L : List UInt8) : Ats (gL L) 0 L := fun j x hx => by
  obtain ⟨hj, rfl⟩ := List.getElem?_eq_some_iff.1 hx
  rw [Nat.zero_add]
  exact gL_at hj
/-- Encode, its bytes to be read -/
theorem encode_row (o : Bool) (x : Int) (y : Bool) (t : VT) (C : Value) (w : World) (hN : cnt t ≤ 1099511627776) (hS : smx t ≤ maxLen) (hl : (itB o t).length + 20 ≤ 140737488355328) (hC : Lst w C t.l) (hwf : wfT t) (hg : Laid w) :
    Calls Tryz.prog 14 #[vv t C, .agg #[.bool o, .int .i64 x, .bool y]] w fun e w' => ∃ A c, e = .returned (.tuple #[.slice A (ecL o t).length c, .int .i64 (enE t : Int)]) ∧ ((ecL o t).length ≤ c ∧ c ≤ maxLen) ∧ Rd w' .u8 A (ecL o t).length (gL (ecL o t)) ∧ Below w.heap.size w w' :=
  (encode_any o x y t C w hN hS hC hwf hg hl).mono fun _ _ ⟨A, c, he, h1, h2, hr, hb⟩ => ⟨A, c, he, ⟨h1, h2⟩, hr, hb⟩
set_option maxRecDepth 100000 in
set_option maxHeartbeats 8000000 in
theorem cback_any (t : VT) (C : Value) (o : Bool) (x : Int) (y : Bool) (w : World) (hC : Lst w C t.l) (hwt : wfT t) (hb : blk t ≤ 1048576) (hg : Laid w) :
    Calls Tryz.prog 3 #[vv t C, .agg #[.bool o, .int .i64 x, .bool y]] w fun e w' => e = .returned (.bool true) ∧ Below w.heap.size w w' := by
  have hcb := cnt_blk t
  have hsb := smx_blk t
  have hib := itB_le o t
  obtain ⟨Ac, mc, cc, rfl⟩ : ∃ A m c, C = .slice A m c := by obtain ⟨a, b, e, _⟩ := hC.out; exact ⟨a, _, b, e⟩
  have HX := Box.new w t (.slice Ac mc cc) 25
  obtain ⟨P, hP⟩ : ∃ P : World → Prop, P = fun W => Box w t (.slice Ac mc cc) W ∧ W.heap[w.heap.size + 1]? = some (.cells #[.bool o, .int .i64 x, .bool y] 27 (0, 0)) := ⟨_, rfl⟩
  have HON : Hid (∀ W W', P W → Below W.heap.size W W' → P W') := Lib.hid fun W W' h hb => by
    rw [hP] at h ⊢
    exact ⟨h.1.on hb, (hb.block _ (lt_of_block h.2)).trans h.2⟩
  have HPB : Hid (∀ W, P W → Below w.heap.size w W) := Lib.hid fun W h => by rw [hP] at h; exact h.1.b
  have HPC : Hid (∀ W, P W → Row W w.heap.size 0 t (.slice Ac mc cc) ∧ W.cell? ⟨w.heap.size + 1, 0, none⟩ = some (.bool o) ∧ W.cell? ⟨w.heap.size + 1, 1, none⟩ = some (.int .i64 x) ∧ W.cell? ⟨w.heap.size + 1, 2, none⟩ = some (.bool y)) := Lib.hid fun W h => by
    rw [hP] at h
    exact ⟨h.1.r, cell_of_row _ _ 0 _ _ _ h.2, cell_of_row _ _ 1 _ _ _ h.2, cell_of_row _ _ 2 _ _ _ h.2⟩
  obtain ⟨W2, hW2⟩ : ∃ W2, (w.alloc (.cells #[.int .i64 t.k, .bool t.g, .int .u64 (t.n : Int), .string t.s, .slice Ac mc cc] 25)).alloc (.cells #[.bool o, .int .i64 x, .bool y] 27) = W2 := ⟨_, rfl⟩
  have HP2 : Hid (P W2) := Lib.hid (by
    rw [hP, ← hW2]
    refine ⟨HX.on ((Below.refl _ _).alloc (Nat.le_refl _) _), ?_⟩
    have e : (w.alloc (.cells #[.int .i64 t.k, .bool t.g, .int .u64 (t.n : Int), .string t.s, .slice Ac mc cc] 25)).heap.size = w.heap.size + 1 := by simp
    rw [← e]
    exact heap_alloc_last _ _)
  have H1 : Hid (∀ W, P W → Calls Tryz.prog 14 #[vv t (.slice Ac mc cc), .agg #[.bool o, .int .i64 x, .bool y]] W fun e w' => ∃ A c, e = .returned (.tuple #[.slice A (ecL o t).length c, .int .i64 (enE t : Int)]) ∧ ((ecL o t).length ≤ c ∧ c ≤ maxLen) ∧ Rd w' .u8 A (ecL o t).length (gL (ecL o t)) ∧ P w') := Lib.hid fun W hW =>
    (encode_row o x y t _ W (by omega) (by unfold maxLen; omega) (by omega) (hC.keep (HPB.out _ hW) (Nat.le_refl _)) hwt (hg.below (HPB.out _ hW))).mono fun e w' ⟨A, c, he, h2, h3, h4⟩ => ⟨A, c, he, h2, h3, HON.out _ _ hW h4⟩
  have H2 : Hid (∀ W, P W → Calls Tryz.prog 15 #[vv t (.slice Ac mc cc)] W fun e w' => e = .returned (.int .i64 (chk t : Int)) ∧ P w') := Lib.hid fun W hW =>
    (vcheck_any t _ W (by omega) (by unfold maxLen; omega) (hC.keep (HPB.out _ hW) (Nat.le_refl _)) hwt).mono fun e w' ⟨he, h4⟩ => ⟨he, HON.out _ _ hW h4⟩
  have H3 : Hid (∀ W, P W → Calls Tryz.prog 18 #[vv t (.slice Ac mc cc)] W fun e w' => e = .returned (.int .i64 (dep t : Int)) ∧ P w' ∧ Below W.heap.size W w') := Lib.hid fun W hW =>
    (vdepth_any t _ W (by omega) (hC.keep (HPB.out _ hW) (Nat.le_refl _))).mono fun e w' ⟨he, h4⟩ => ⟨he, HON.out _ _ hW h4, h4⟩
  have H4 : Hid (enE t = 0 → (ecL o t).length ≤ 1048576 → ∀ W A c, P W → ((ecL o t).length ≤ c ∧ c ≤ maxLen) → Rd W .u8 A (ecL o t).length (gL (ecL o t)) → Calls Tryz.prog 17 #[.slice A (ecL o t).length c, .agg #[.int .i64 (dep t : Int), .int .i64 ((ecL o t).length : Int), .bool false]] W fun e w' => ∃ A2 c2, e = .returned (.tuple #[vv t (.slice A2 t.l.length c2), .int .i64 ((ecL o t).length : Int), .int .i64 0]) ∧ Lst w' (.slice A2 t.l.length c2) t.l ∧ P w') := Lib.hid fun h0 hl W A c hW hc hr => by
    obtain ⟨hk, hx⟩ := enE_zero.1 h0
    have hd := (chk_cnt hk).2.1
    have e0 := enL_zero (o := o) h0
    rw [e0] at hl hc hr ⊢
    exact (decode_parts (dep t) (itB o t).length hd hl hr (fun j _ => gL_lt) hc (hg.below (HPB.out _ hW)) (dcR_back (ats_gL _) (Nat.le_refl _) (Nat.le_refl _) hk hx hwt (by omega))).mono fun e w' ⟨A2, c2, he, h2, h3⟩ => ⟨A2, c2, he, h2, HON.out _ _ hW h3⟩
  have H5 : Hid (∀ W A2 c2, P W → Lst W (.slice A2 t.l.length c2) t.l → Calls Tryz.prog 19 #[vv t (.slice Ac mc cc), vv t (.slice A2 t.l.length c2)] W fun e w' => e = .returned (.bool true) ∧ P w') := Lib.hid fun W A2 c2 hW hl => by
    have := same11_any (cnt t) t t (.slice Ac mc cc) (.slice A2 t.l.length c2) W (Nat.le_refl _) (by omega) (by omega) (hC.keep (HPB.out _ hW) (Nat.le_refl _)) hl
    rw [(eqv_iff t t).2 rfl] at this
    exact this.mono fun x w' ⟨hx, hb⟩ => ⟨hx, HON.out _ _ hW hb⟩
  have HA : Hid (∀ W, P W → Calls Tryz.prog 16 #[] W fun e w' => e = .returned (.bool true) ∧ P w') := Lib.hid fun W hW => (awake11 W (hg.below (HPB.out _ hW))).mono fun e w' ⟨he, h4⟩ => ⟨he, HON.out _ _ hW h4⟩
  have HE : Hid (enE t ≠ 0 → (ecL o t).length = 0 ∧ (enE t ≠ 10 → enE t = chk t)) := Lib.hid fun h => by
    refine ⟨by rw [enL_no h]; rfl, fun h2 => ?_⟩
    unfold enE at h h2 ⊢
    by_cases hk : chk t = 0
    · rw [if_pos hk] at h h2
      cases hx : ext t <;> simp_all
    · rw [if_neg hk]
  obtain ⟨n1, hn1⟩ : ∃ n, (ecL o t).length = n := ⟨_, rfl⟩
  obtain ⟨F, hF⟩ : ∃ F, gL (ecL o t) = F := ⟨_, rfl⟩
  obtain ⟨e1, he1⟩ : ∃ n, enE t = n := ⟨_, rfl⟩
  obtain ⟨k1, hk1⟩ : ∃ n, chk t = n := ⟨_, rfl⟩
  obtain ⟨d1, hd1⟩ : ∃ n, dep t = n := ⟨_, rfl⟩
  obtain ⟨tl, htl⟩ : ∃ n, t.l.length = n := ⟨_, rfl⟩
  rw [hn1, hF, he1] at H1
  rw [hk1] at H2
  rw [hd1] at H3
  rw [hn1, hF, he1, hd1, htl] at H4
  rw [htl] at H5
  rw [hn1, he1, hk1] at HE
  unfold vv at H1 H2 H3 H4 H5 ⊢
  clear hn1 hF he1 hk1 hd1 htl hC hwt hb hg hP HX hcb hsb hib
  have HW2 := Lib.hid hW2
  clear hW2
  go_enter Tryz.func3, Tryz.ntmps3
  go_upto_region 1 with fail
  rw [HW2.out]
  clear HW2
  obtain ⟨⟨c0, c1, c2, c3, c4⟩, p0, p1, p2⟩ := HPC.out _ HP2.out
  go_wp2_with fail
  refine (H1.out _ HP2.out).mono ?_
  rintro r w1 ⟨A1, m1, rfl, hc1, hr1, q1⟩
  have HR1 := Lib.hid (And.intro hc1 (And.intro hr1 q1))
  clear c0 c1 c2 c3 c4 p0 p1 p2 hc1 hr1 q1 H1 HP2
  obtain ⟨⟨c0, c1, c2, c3, c4⟩, -⟩ := HPC.out _ HR1.out.2.2
  by_cases he : e1 = 0
  · subst he
    clear HE H2
    by_cases hn : n1 ≤ 1048576
    · have h4 := Lib.hid (H4.out rfl hn)
      have i1 : ¬ (1048576 : Int) < (n1 : Int) := by omega
      have i2 : decide ((1048576 : Int) < (n1 : Int)) = false := decide_eq_false i1
      clear H4 hn
      go_wp2_with fail
      refine (H3.out _ HR1.out.2.2).mono ?_
      rintro r w2 ⟨rfl, q2, b2⟩
      have HR2 := Lib.hid (And.intro (HR1.out.2.1.below b2) q2)
      clear c0 c1 c2 c3 c4 q2 b2
      go_wp2_with fail
      refine (h4.out _ _ _ HR2.out.2 HR1.out.1 HR2.out.1).mono ?_
      rintro r w3 ⟨A2, c2, rfl, hl3, q3⟩
      have HR3 := Lib.hid (And.intro hl3 q3)
      clear hl3 q3 HR1 HR2 h4 H3
      obtain ⟨W4, hW4⟩ : ∃ W4, w3.alloc (.cells #[.int .i64 t.k, .bool t.g, .int .u64 (t.n : Int), .string t.s, .slice A2 tl c2] 25) = W4 := ⟨_, rfl⟩
      have HB4 : Hid (Below w3.heap.size w3 W4) := Lib.hid (by rw [← hW4]; exact (Below.refl _ _).alloc (Nat.le_refl _) _)
      have HK4 : Hid (W4.heap[w3.heap.size]? = some (.cells #[.int .i64 t.k, .bool t.g, .int .u64 (t.n : Int), .string t.s, .slice A2 tl c2] 25 (0, 0))) := Lib.hid (by rw [← hW4]; exact heap_alloc_last _ _)
      obtain ⟨⟨c0, c1, c2, c3, c4⟩, -⟩ := HPC.out _ (HON.out _ _ HR3.out.2 HB4.out)
      have d0 := cell_of_row _ _ 0 _ _ _ HK4.out
      have d1 := cell_of_row _ _ 1 _ _ _ HK4.out
      have d2 := cell_of_row _ _ 2 _ _ _ HK4.out
      have d3 := cell_of_row _ _ 3 _ _ _ HK4.out
      have d4 := cell_of_row _ _ 4 _ _ _ HK4.out
      have HS := Lib.hid (H5.out W4 A2 _ (HON.out _ _ HR3.out.2 HB4.out) (HR3.out.1.keep HB4.out (Nat.le_refl _)))
      have HW4 := Lib.hid hW4
      clear hW4 H5
      go_upto_region 7 with fail
      rw [HW4.out]
      go_wp2_with fail
      refine HS.out.mono ?_
      rintro r w5 ⟨rfl, q5⟩
      have HR5 := Lib.hid q5
      clear q5 c0 c1 c2 c3 c4 d0 d1 d2 d3 d4
      go_wp2_with fail
      refine (HA.out _ HR5.out).mono ?_
      rintro r w6 ⟨rfl, q6⟩
      have HR6 := Lib.hid (HPB.out _ q6)
      clear q6
      go_wp2_with fail
      go_ret
      exact ⟨rfl, HR6.out⟩
    · have i1 : (1048576 : Int) < (n1 : Int) := by omega
      have i2 : decide ((1048576 : Int) < (n1 : Int)) = true := decide_eq_true i1
      clear H3 H4 H5 hn
      go_wp2_with fail
      refine (HA.out _ HR1.out.2.2).mono ?_
      rintro r w6 ⟨rfl, q6⟩
      have HR6 := Lib.hid (HPB.out _ q6)
      clear q6
      go_wp2_with fail
      go_ret
      exact ⟨rfl, HR6.out⟩
  · obtain ⟨rfl, hk⟩ := HE.out he
    have hne : ((e1 : Int) != 0) = true := by simp; omega
    clear H3 H4 H5 HE
    by_cases h10 : e1 = 10
    · subst h10
      clear hk H2 he
      go_wp2_with fail
      refine (HA.out _ HR1.out.2.2).mono ?_
      rintro r w6 ⟨rfl, q6⟩
      have HR6 := Lib.hid (HPB.out _ q6)
      clear q6
      go_wp2_with fail
      go_ret
      exact ⟨rfl, HR6.out⟩
    · obtain rfl := hk h10
      have h11 : ((e1 : Int) == 10) = false := by simp; omega
      clear hk he h10
      go_wp2_with fail
      refine (H2.out _ HR1.out.2.2).mono ?_
      rintro r w5 ⟨rfl, q5⟩
      have HR5 := Lib.hid q5
      clear q5 c0 c1 c2 c3 c4
      go_wp2_with fail
      refine (HA.out _ HR5.out).mono ?_
      rintro r w6 ⟨rfl, q6⟩
      have HR6 := Lib.hid (HPB.out _ q6)
      clear q6
      go_wp2_with fail
      go_ret
      exact ⟨rfl, HR6.out⟩
end Go.Proofs.YtpcladdipgchbaaGreatDoor.nn
