/- Joined texts, what is wanted of them: RbRef, RbPush, RbPut. -/
import Derived.Test.YtpcladdipgchbaaGreatDoorProg
import Derived.WalkKit
import Derived.Lib.Hide
import Derived.WalkSpells
import Derived.Deep.QuietTactic
import Derived.BigQuiet
import Derived.Deep.RegionHeld3
import Derived.Laws.BitsAllLaws
import Derived.Test.YtpcladdipgchbaaGreatDoorShelf
import Derived.Deep.RegionWith
import Derived.IntWalk
import Derived.Deep.CutBlock
import Derived.StillTailTactics
import Derived.Test.YtpcladdipgchbaaGreatDoorSi
import Derived.Test.YtpcladdipgchbaaGreatDoorSf
import Derived.Test.YtpcladdipgchbaaGreatDoorSe
import Derived.Test.YtpcladdipgchbaaGreatDoorSb
import Derived.Test.YtpcladdipgchbaaGreatDoorSd
import Derived.Test.YtpcladdipgchbaaGreatDoorSm
import Derived.Test.YtpcladdipgchbaaGreatDoorSa
import Derived.Test.YtpcladdipgchbaaGreatDoorSc
import Derived.Test.YtpcladdipgchbaaGreatDoorTl
import Derived.Test.YtpcladdipgchbaaGreatDoorSl
import Derived.Test.YtpcladdipgchbaaGreatDoorTk
namespace Go.Proofs.YtpcladdipgchbaaGreatDoor.nn
open Go.RowKit

/-- a state that events have come to, its numbers as they are handed over -/
structure GoodW (S : Bst) : Prop where
  g : Good S
  n : ∀ p, p ∈ S.op → p.n < 18446744073709551616
  m : S.most ≤ 64
theorem GoodW.len {S : Bst} (h : GoodW S) : S.op.length ≤ 64 := by
  obtain ⟨L, ⟨h1, h2, h3⟩, h4⟩ := h.g
  cases hv : S.v with
  | some x => have : S.op = [] := (h2 x hv).1; rw [this]; exact Nat.zero_le _
  | none => have h5 : S.op.length ≤ S.most := (h3 hv).1.len; have := h.m; omega
set_option maxRecDepth 100000 in
theorem depth_any (g gs m c : Nat) (w : World) (h2 : w.cell? ⟨g, 2, none⟩ = some (.slice (some ⟨gs, 0, none⟩) (m + 1) c)) (hg : g < w.heap.size) (hm : m ≤ 1099511627776) :
    Calls Tryz.prog 222 #[.pointer (some ⟨g, 0, none⟩)] w fun e w' => e = .returned (.int .i64 (m : Int)) ∧ Below w.heap.size w w' := by
  have HM := Lib.hid (made_yes g m c _ w h2)
  have hsub : IntKind.i64.wrap (((m + 1 : Nat) : Int) - 1) = (m : Int) := by rw [IntWalk.i64_in _ ⟨by omega, by omega⟩]; omega
  have hsub2 : IntKind.i64.wrap (m : Int) = (m : Int) := IntWalk.i64_in _ ⟨by omega, by omega⟩
  go_enter Tryz.func222, Tryz.ntmps222
  go_wp2_with fail
  refine HM.out.mono ?_
  rintro e w1 ⟨rfl, hB⟩
  have a2 := (hB.cell (p := ⟨g, 2, none⟩) hg).trans h2
  have HB := Lib.hid hB
  clear hB
  go_wp2_with fail
  go_ret
  exact ⟨rfl, HB.out⟩
/-- what lies open, with its function -/
theorem Rb.tops {w : World} {g : Nat} {O : Nat → Prop} {S : Bst} (h : Rb w g O S) : ∃ K sv r D, Rbx w g O K sv (r :: D) S.n S.most ∧ (r :: D).map Rec.p = S.op ++ [bot S.v] ∧ D.length = S.op.length := by
  obtain ⟨K, sv, D, h1, h2⟩ := h
  cases D with
  | nil => simp at h2
  | cons r D =>
    refine ⟨K, sv, r, D, h1, h2, ?_⟩
    have := congrArg List.length h2
    simp at this
    exact this
/-- the function that tells what may come next -/
theorem tk_any {w : World} {g : Nat} {O : Nat → Prop} {S : Bst} {K : Nat → Nat} {sv : Value} {r : Rec} {D : List Rec} (h : Rbx w g O K sv (r :: D) S.n S.most) (hp : (r :: D).map Rec.p = S.op ++ [bot S.v]) (hG : GoodW S) (e : Ev) (hw : wfE e) :
    ∃ f, tkF D.length r.p.k = f ∧ (f = 144 ∨ f = 223 ∨ f = 224 ∨ f = 225) ∧
      ∀ W, Eb w e W → Calls Tryz.prog f #[.pointer (some ⟨r.q, 0, none⟩), evv e] W fun x w' => x = .returned (.bool (tkB S e)) ∧ Eb w e w' := by
  have hq := h.lo _ h.r.1.o.1
  obtain ⟨A, c, hv⟩ := vo_form h.r.1.v
  have h4 : ∀ W, Eb w e W → W.cell? ⟨r.q, 4, none⟩ = some (.slice A r.p.l.length c) := fun W hW => by
    have := (h.r.1.b.below hW.b hq).cell 4
    rw [hv] at this
    exact this
  have h2 : ∀ W, Eb w e W → W.cell? ⟨r.q, 2, none⟩ = some (.int .u64 (r.p.n : Int)) := fun W hW => (h.r.1.b.below hW.b hq).cell 2
  have hqW : ∀ W, Eb w e W → r.q < W.heap.size := fun W hW => Nat.lt_of_lt_of_le hq hW.b.size
  refine ⟨_, rfl, ?_, ?_⟩
  · unfold tkF
    split
    · exact .inl rfl
    · split
      · exact .inr (.inl rfl)
      · split
        · exact .inr (.inr (.inl rfl))
        · exact .inr (.inr (.inr rfl))
  · intro W hW
    cases hop : S.op with
    | nil =>
      rw [hop] at hp
      have hD : D = [] := by
        have := congrArg List.length hp
        simp at this
        exact this
      subst hD
      have hrp : r.p = bot S.v := by simpa using hp
      have hl : r.p.l = S.v.toList := by rw [hrp]; rfl
      have ht : tkB S e = (decide (e.k ≠ 15) && decide (r.p.l.length = 0)) := by unfold tkB; rw [hop, hl]
      rw [ht]
      exact (botTk_any r.q r.p.l.length c A e W (hqW W hW) (h4 W hW)).mono fun x w' ⟨hx, hb⟩ => ⟨hx, hW.on hb⟩
    | cons p op =>
      rw [hop] at hp
      have hrp : r.p = p := by simp at hp; exact hp.1
      have hD : D.length ≠ 0 := by
        have := congrArg List.length hp
        simp at this
        omega
      have hpn : p.n < 18446744073709551616 := hG.n p (by rw [hop]; simp)
      have ht : tkB S e = if p.k = 12 then decide (e.k ≠ 15) || decide (p.l.length % 2 = 0) else if p.k = 13 then decide (e.k ≠ 15) && decide (chk (tagged p.n e) = 0) else true := by unfold tkB; rw [hop]
      unfold tkF
      rw [if_neg hD, ht]
      rw [hrp] at h4 h2 ⊢
      by_cases k12 : p.k = 12
      · rw [if_pos k12, if_pos k12]
        exact (mapTk_any r.q p.l.length c A e W (hqW W hW) (h4 W hW)).mono fun x w' ⟨hx, hb⟩ => ⟨hx, hW.on hb⟩
      · rw [if_neg k12, if_neg k12]
        by_cases k13 : p.k = 13
        · rw [if_pos k13, if_pos k13]
          exact (tagTk_any r.q p.n e W (hqW W hW) (h2 W hW) hpn hw).mono fun x w' ⟨hx, hb⟩ => ⟨hx, hW.on hb⟩
        · rw [if_neg k13, if_neg k13]
          exact (listTk_any r.q e W).mono fun x w' ⟨hx, hb⟩ => ⟨hx, hW.on hb⟩
set_option maxRecDepth 100000 in
set_option maxHeartbeats 4000000 in
theorem refusal_any (S : Bst) (g : Nat) (O : Nat → Prop) (e : Ev) (w : World) (hR : Rb w g O S) (hG : GoodW S) (hw : wfE e) :
    Calls Tryz.prog 183 #[.pointer (some ⟨g, 0, none⟩), evv e] w fun x w' => x = .returned (.int .i64 (refB S e : Int)) ∧ Below w.heap.size w w' := by
  obtain ⟨K, sv, r, D, h, hp, hDl⟩ := hR.tops
  obtain ⟨f, hf, hfs, htk⟩ := tk_any h hp hG e hw
  obtain ⟨gs, c, rfl, hgs, ht0, ht1⟩ := h.top
  have hg := h.lo _ h.o.1
  have hlen := hG.len
  have HE := Lib.hid (Eb.new w e)
  have C1 : Hid (∀ W, Eb w e W → Calls Tryz.prog 220 #[evv e] W fun x w' => x = .returned (.bool (ievB e)) ∧ Eb w e w') := Lib.hid fun W hW => (isEv_any e W hw).mono fun x w' ⟨hx, hb⟩ => ⟨hx, hW.on hb⟩
  have C2 : Hid (∀ W, Eb w e W → Calls Tryz.prog 221 #[.pointer (some ⟨g, 0, none⟩)] W fun x w' => x = .returned (.agg #[.pointer (some ⟨r.q, 0, none⟩), .func (.func f) #[.pointer (some ⟨r.q, 0, none⟩)] #[]]) ∧ Eb w e w') := Lib.hid fun W hW => by
    rw [← hf]
    exact (top_any g gs D.length c r.q _ _ W (Nat.lt_of_lt_of_le hg hW.b.size) (Nat.lt_of_lt_of_le hgs hW.b.size) ((h.b.below hW.b hg).cell 2) ((hW.b.cell (p := ⟨gs, D.length * 2, none⟩) hgs).trans ht0) ((hW.b.cell (p := ⟨gs, D.length * 2 + 1, none⟩) hgs).trans ht1) (by omega)).mono fun e w' ⟨he, hb⟩ => ⟨he, hW.on hb⟩
  have C3 := Lib.hid htk
  have C4 : Hid (∀ W, Eb w e W → Calls Tryz.prog 222 #[.pointer (some ⟨g, 0, none⟩)] W fun x w' => x = .returned (.int .i64 (S.op.length : Int)) ∧ Eb w e w') := Lib.hid fun W hW => by
    rw [← hDl]
    exact (depth_any g gs D.length c W ((h.b.below hW.b hg).cell 2) (Nat.lt_of_lt_of_le hg hW.b.size) (by omega)).mono fun x w' ⟨hx, hb⟩ => ⟨hx, hW.on hb⟩
  have HG : Hid (∀ W, Eb w e W → W.cell? ⟨g, 0, none⟩ = some (.int .i64 (S.most : Int)) ∧ W.cell? ⟨g, 1, none⟩ = some (.int .i64 (S.n : Int))) := Lib.hid fun W hW => ⟨(h.b.below hW.b hg).cell 0, (h.b.below hW.b hg).cell 1⟩
  have HC : Hid (∀ W, Eb w e W → W.cell? ⟨w.heap.size, 0, none⟩ = some (.int .i64 e.k) ∧ W.cell? ⟨w.heap.size, 1, none⟩ = some (.bool e.g) ∧ W.cell? ⟨w.heap.size, 2, none⟩ = some (.int .u64 (e.n : Int)) ∧ W.cell? ⟨w.heap.size, 3, none⟩ = some (.string e.s) ∧ Eb w e W) := Lib.hid fun W hW => ⟨hW.cells.1, hW.cells.2.1, hW.cells.2.2.1, hW.cells.2.2.2, hW⟩
  have hf1 := field1 (.pointer (some ⟨r.q, 0, none⟩)) (.func (.func f) #[.pointer (some ⟨r.q, 0, none⟩)] #[])
  obtain ⟨ib, hib⟩ : ∃ b, ievB e = b := ⟨_, rfl⟩
  obtain ⟨tb, htb⟩ : ∃ b, tkB S e = b := ⟨_, rfl⟩
  obtain ⟨R, hRR⟩ : ∃ R, refB S e = R := ⟨_, rfl⟩
  have HR1 : Hid ((ib && tb) = false → R = 4) := Lib.hid fun hh => by rw [← hRR]; unfold refB; rw [hib, htb, if_pos hh]
  have HR2 : Hid ((ib && tb) = true → R = if e.k = 15 then 0 else if (e.k = 11 ∨ e.k = 12 ∨ e.k = 13 ∨ e.k = 5) ∧ S.op.length = S.most then 8 else if S.n = 65536 then 8 else 0) := Lib.hid fun hh => by rw [← hRR]; unfold refB; rw [hib, htb, if_neg (by rw [hh]; simp)]
  rw [hib] at C1
  rw [htb] at C3
  rw [hRR]
  obtain ⟨dl, hdl⟩ : ∃ d, S.op.length = d := ⟨_, rfl⟩
  obtain ⟨ms, hms⟩ : ∃ d, S.most = d := ⟨_, rfl⟩
  obtain ⟨nn, hnn⟩ : ∃ d, S.n = d := ⟨_, rfl⟩
  rw [hdl] at C4 HR2
  rw [hms, hnn] at HG HR2
  obtain ⟨k, gg, n, s⟩ := e
  unfold evv at *
  dsimp only at C1 C2 C3 C4 HG HC HR2
  clear hR hG hw h hp hDl htk hf ht0 ht1 hgs hg hlen hib htb hRR hdl hms hnn
  go_enter Tryz.func183, Tryz.ntmps183
  go_upto_region 1 with fail
  obtain ⟨B, hB⟩ : ∃ B, (!(ib && tb)) = B := ⟨_, rfl⟩
  have HB := Lib.hid hB
  clear hB
  go_cut [15] (fun s15 wx => s15 = .bool B ∧ Hid (Eb w ⟨k, gg, n, s⟩ wx))
  case first =>
    have hk0 := HE.out.drew
    have hx0 := HC.out _ hk0
    cases ib
    · obtain rfl : true = B := HB.out
      obtain ⟨c0, c1, c2, c3, _⟩ := hx0
      first
        | go_region_with (first | (go_at_call 220; (with_reducible refine (C1.out _ hk0).mono ?_); rintro x w' ⟨rfl, hk5⟩))
        | done
      all_goals
        go_wp2_with fail
        go_meet
        exact ⟨rfl, Lib.hid hk5⟩
    · cases tb
      all_goals
        first
          | obtain rfl : true = B := HB.out
          | obtain rfl : false = B := HB.out
        rcases hfs with rfl | rfl | rfl | rfl
        all_goals
          go_region_held3 (fun W => W.cell? ⟨w.heap.size, 0, none⟩ = some (.int .i64 k) ∧ W.cell? ⟨w.heap.size, 1, none⟩ = some (.bool gg) ∧ W.cell? ⟨w.heap.size, 2, none⟩ = some (.int .u64 (n : Int)) ∧ W.cell? ⟨w.heap.size, 3, none⟩ = some (.string s) ∧ Eb w ⟨k, gg, n, s⟩ W) (first | exact HC.out _ ‹_› | exact HC.out _ (And.right ‹_›))
            (first
              | (go_at_call 220; (with_reducible refine (C1.out _ ?_).mono ?_); (first | assumption | exact And.right ‹_›); rintro x w' ⟨rfl, hk5⟩)
              | (go_at_call 221; (with_reducible refine (C2.out _ ?_).mono ?_); (first | assumption | exact And.right ‹_›); rintro x w' ⟨rfl, hk5⟩)
              | (go_at_call 144; (with_reducible refine (C3.out _ ?_).mono ?_); (first | assumption | exact And.right ‹_›); rintro x w' ⟨rfl, hk5⟩)
              | (go_at_call 223; (with_reducible refine (C3.out _ ?_).mono ?_); (first | assumption | exact And.right ‹_›); rintro x w' ⟨rfl, hk5⟩)
              | (go_at_call 224; (with_reducible refine (C3.out _ ?_).mono ?_); (first | assumption | exact And.right ‹_›); rintro x w' ⟨rfl, hk5⟩)
              | (go_at_call 225; (with_reducible refine (C3.out _ ?_).mono ?_); (first | assumption | exact And.right ‹_›); rintro x w' ⟨rfl, hk5⟩))
          go_wp2_with fail
          go_meet
          exact ⟨rfl, Lib.hid hk5⟩
  case rest =>
    obtain ⟨rfl, HEC⟩ := hcut
    clear C1 C2 C3 hf1 hfs
    cases B
    · have hbb : (ib && tb) = true := by have h := HB.out; cases ib <;> cases tb <;> simp_all
      have hRv := HR2.out hbb
      have k0 := (HC.out _ HEC.out).1
      clear HR1 HR2 HB hbb
      by_cases k15 : k = 15
      · rw [if_pos k15] at hRv
        subst k15 hRv
        go_wp2_with fail
        go_ret
        exact ⟨rfl, HEC.out.b⟩
      · rw [if_neg k15] at hRv
        have e15 : (k == 15) = false := by simpa using k15
        by_cases kk : k = 11 ∨ k = 12 ∨ k = 13 ∨ k = 5
        · have HRV : Hid ((dl = ms → R = 8) ∧ (dl ≠ ms → nn = 65536 → R = 8) ∧ (dl ≠ ms → nn ≠ 65536 → R = 0)) := Lib.hid ⟨fun h => by rw [hRv, if_pos ⟨kk, h⟩], fun h h2 => by rw [hRv, if_neg (fun hh => h hh.2), if_pos h2], fun h h2 => by rw [hRv, if_neg (fun hh => h hh.2), if_neg h2]⟩
          clear hRv k15
          obtain ⟨g0, g1⟩ := HG.out _ HEC.out
          have HS : Hid (∀ W, Eb w ⟨k, gg, n, s⟩ W → W.cell? ⟨g, 0, none⟩ = some (.int .i64 (ms : Int)) ∧ W.cell? ⟨g, 1, none⟩ = some (.int .i64 (nn : Int)) ∧ Eb w ⟨k, gg, n, s⟩ W) := Lib.hid fun W h => ⟨(HG.out W h).1, (HG.out W h).2, h⟩
          by_cases hd : dl = ms
          · obtain rfl := HRV.out.1 hd
            subst hd
            clear HRV
            rcases kk with hk | hk | hk | hk
            all_goals
              first
                | have e11 : (k == 11) = true := by simp [hk]
                | have e11 : (k == 11) = false := by simp [hk]
              first
                | have e12 : (k == 12) = true := by simp [hk]
                | have e12 : (k == 12) = false := by simp [hk]
              first
                | have e13 : (k == 13) = true := by simp [hk]
                | have e13 : (k == 13) = false := by simp [hk]
              first
                | have e5 : (k == 5) = true := by simp [hk]
                | have e5 : (k == 5) = false := by simp [hk]
              clear hk
              go_wp2_with fail
              have hk0 := HEC.out.drew
              have hx0 := HS.out _ hk0
              go_region_held3 (fun W => W.cell? ⟨g, 0, none⟩ = some (.int .i64 (dl : Int)) ∧ W.cell? ⟨g, 1, none⟩ = some (.int .i64 (nn : Int)) ∧ Eb w ⟨k, gg, n, s⟩ W) (first | exact HS.out _ ‹_› | exact HS.out _ (And.right ‹_›))
                (first | (go_at_call 222; (with_reducible refine (C4.out _ ?_).mono ?_); (first | assumption | exact And.right ‹_›); rintro x w' ⟨rfl, hk5⟩))
              go_wp2_with fail
              go_ret
              exact ⟨rfl, hk5.b⟩
          · have hd1 : ((dl : Int) == (ms : Int)) = false := by simp; omega
            by_cases hn : nn = 65536
            · obtain rfl := HRV.out.2.1 hd hn
              subst hn
              clear HRV hd
              rcases kk with hk | hk | hk | hk
              all_goals
                first
                  | have e11 : (k == 11) = true := by simp [hk]
                  | have e11 : (k == 11) = false := by simp [hk]
                first
                  | have e12 : (k == 12) = true := by simp [hk]
                  | have e12 : (k == 12) = false := by simp [hk]
                first
                  | have e13 : (k == 13) = true := by simp [hk]
                  | have e13 : (k == 13) = false := by simp [hk]
                first
                  | have e5 : (k == 5) = true := by simp [hk]
                  | have e5 : (k == 5) = false := by simp [hk]
                clear hk
                go_wp2_with fail
                have hk0 := HEC.out.drew
                have hx0 := HS.out _ hk0
                go_region_held3 (fun W => W.cell? ⟨g, 0, none⟩ = some (.int .i64 (ms : Int)) ∧ W.cell? ⟨g, 1, none⟩ = some (.int .i64 ((65536 : Nat) : Int)) ∧ Eb w ⟨k, gg, n, s⟩ W) (first | exact HS.out _ ‹_› | exact HS.out _ (And.right ‹_›))
                  (first | (go_at_call 222; (with_reducible refine (C4.out _ ?_).mono ?_); (first | assumption | exact And.right ‹_›); rintro x w' ⟨rfl, hk5⟩))
                go_wp2_with fail
                go_ret
                exact ⟨rfl, hk5.b⟩
            · obtain rfl := HRV.out.2.2 hd hn
              have hn1 : ((nn : Int) == 65536) = false := by simp; omega
              clear HRV hd hn
              rcases kk with hk | hk | hk | hk
              all_goals
                first
                  | have e11 : (k == 11) = true := by simp [hk]
                  | have e11 : (k == 11) = false := by simp [hk]
                first
                  | have e12 : (k == 12) = true := by simp [hk]
                  | have e12 : (k == 12) = false := by simp [hk]
                first
                  | have e13 : (k == 13) = true := by simp [hk]
                  | have e13 : (k == 13) = false := by simp [hk]
                first
                  | have e5 : (k == 5) = true := by simp [hk]
                  | have e5 : (k == 5) = false := by simp [hk]
                clear hk
                go_wp2_with fail
                have hk0 := HEC.out.drew
                have hx0 := HS.out _ hk0
                go_region_held3 (fun W => W.cell? ⟨g, 0, none⟩ = some (.int .i64 (ms : Int)) ∧ W.cell? ⟨g, 1, none⟩ = some (.int .i64 (nn : Int)) ∧ Eb w ⟨k, gg, n, s⟩ W) (first | exact HS.out _ ‹_› | exact HS.out _ (And.right ‹_›))
                  (first | (go_at_call 222; (with_reducible refine (C4.out _ ?_).mono ?_); (first | assumption | exact And.right ‹_›); rintro x w' ⟨rfl, hk5⟩))
                go_wp2_with fail
                go_ret
                exact ⟨rfl, hk5.b⟩
        · have HRV : Hid ((nn = 65536 → R = 8) ∧ (nn ≠ 65536 → R = 0)) := Lib.hid ⟨fun h => by rw [hRv, if_neg (fun hh => kk hh.1), if_pos h], fun h => by rw [hRv, if_neg (fun hh => kk hh.1), if_neg h]⟩
          have e11 : (k == 11) = false := by simp; omega
          have e12 : (k == 12) = false := by simp; omega
          have e13 : (k == 13) = false := by simp; omega
          have e5 : (k == 5) = false := by simp; omega
          have g1 := (HG.out _ HEC.out).2
          clear hRv k15 kk
          by_cases hn : nn = 65536
          · obtain rfl := HRV.out.1 hn
            subst hn
            go_wp2_with fail
            go_ret
            exact ⟨rfl, HEC.out.b⟩
          · obtain rfl := HRV.out.2 hn
            have hn1 : ((nn : Int) == 65536) = false := by simp; omega
            go_wp2_with fail
            go_ret
            exact ⟨rfl, HEC.out.b⟩
    · have hbb : (ib && tb) = false := by have h := HB.out; cases ib <;> cases tb <;> simp_all
      obtain rfl := HR1.out hbb
      go_wp2_with fail
      go_ret
      exact ⟨rfl, HEC.out.b⟩
end Go.Proofs.YtpcladdipgchbaaGreatDoor.nn
namespace Go.Proofs.YtpcladdipgchbaaGreatDoor.nn
open Go.RowKit

theorem info_op3 : (Tryz.prog.info? 108).map (fun i => (i.zero, i.size, i.bytes)) = some (some (.agg #[.pointer none, .nilFunc]), 2, 16) := by kernel_rfl
theorem run_open (w : World) (ty : TypeId) (v : Value) (n : Nat) (xs : List Value) (k : Nat) (a b : Value) (hv : w.ownsRow 0 108 2 v n xs) (hz : Bk w k 108 #[a, b]) (h1 : a.oneCell' = true) (h2 : b.oneCell' = true) (hn : n + 1 ≤ 1099511627776) :
    ∃ v' w', (Builtin.append_ #[109, 109] ty #[v, .slice (some ⟨k, 0, none⟩) 1 1]).run Tryz.prog w = .ok v' w' ∧ w'.ownsRow 0 108 2 v' (n + 1) (xs ++ [a, b]) ∧ w.grownBy w' v.ownBlock ∧ (v'.ownBlock = v.ownBlock ∨ v'.ownBlock = some w.heap.size) := by
  obtain ⟨i0, hi, hz0, hz1, hz2⟩ := info_parts info_op3
  have hnews : ∀ j u, ([a, b] : List Value)[j]? = some u → w.cell? ((⟨k, 0, none⟩ : Addr).add j) = some u := fun j u hu => by
    rw [add_cell, Nat.zero_add, hz.cell j]
    simpa using hu
  obtain ⟨v', w', hr, ho, hg, _, hat⟩ := run_append_own_at (P := Tryz.prog) w 0 109 ty 108 i0 _ 2 16 Tryz.underlying109 hi hz0 hz1 hz2 rfl (by decide) v n xs hv ⟨k, 0, none⟩ 1 1 [a, b] rfl hnews (by intro u hu; simp at hu; rcases hu with rfl | rfl; exact h1; exact h2) (by unfold maxLen; omega) (by omega) (Nat.zero_le _)
  exact ⟨v', w', hr, ho, hg, hat⟩
theorem step_open {ops : Array Oper} {o : Oper} {a : Act} {w : World} {K : Act → World → Prop} {Q : Exit → Act → World → Prop} {E : Prop} (hgd : o.guard = none) (s x : Operand)
    (ho : o.op = .call { callee := .builtin .append, args := #[s, x], argTypes := #[109, 109] })
    (v : Value) (n : Nat) (xs : List Value) (k : Nat) (c d : Value) (hs : a.eval s = v) (hx : a.eval x = .slice (some ⟨k, 0, none⟩) 1 1) (hv : w.ownsRow 0 108 2 v n xs) (hz : Bk w k 108 #[c, d]) (h1 : c.oneCell' = true) (h2 : d.oneCell' = true) (hn : n + 1 ≤ 1099511627776)
    (h : ∀ v' w', w'.ownsRow 0 108 2 v' (n + 1) (xs ++ [c, d]) → w.grownBy w' v.ownBlock → (v'.ownBlock = v.ownBlock ∨ v'.ownBlock = some w.heap.size) → K (a.put o.dst v') w') :
    if Region.wanted o (yielded ops a.tmps) = true then Oper.wp Tryz.prog o a w K Q else E := by
  have hw : Region.wanted o (yielded ops a.tmps) = true := by simp [Region.wanted, hgd]
  rw [if_pos hw]
  obtain ⟨v', w', hr, h3, h4, h5⟩ := run_open w o.type v n xs k c d hv hz h1 h2 hn
  unfold Oper.wp execOp
  simp only [ho, resolve, invoke, builtin, Sem.run_bind, Sem.run_pure, Result.andThen_ok, List.map_toArray, List.map_cons, List.map_nil, hs, hx, hr]
  exact h _ _ h3 h4 h5
/-- a build that is new -/
theorem Rbx.new {w1 : World} {q M : Nat} (hq : Bk w1 q 104 #[.int .i64 11, .bool false, .int .u64 0, .string ⟨#[]⟩, .slice none 0 0]) :
    Rbx ((w1.alloc (.cells #[.pointer (some ⟨q, 0, none⟩), .func (.func 144) #[.pointer (some ⟨q, 0, none⟩)] #[]] 108)).alloc (.cells #[.int .i64 (M : Int), .int .i64 0, .slice (some ⟨w1.heap.size, 0, none⟩) 1 1] 111)) (w1.heap.size + 1)
      (fun b => b = q ∨ b = w1.heap.size ∨ b = w1.heap.size + 1) (fun b => if b = w1.heap.size + 1 then 1 else if b = w1.heap.size then 2 else 3) (.slice (some ⟨w1.heap.size, 0, none⟩) 1 1) [⟨bot none, q, .slice none 0 0⟩] 0 M := by
  have hql := hq.lt
  refine ⟨⟨.inr (.inr rfl), by simp⟩, fun b hb => ?_, bm_last2 _ _ _, ?_, fun b hb => ?_, ⟨⟨?_, ⟨.inl rfl, ?_⟩, ?_, fun b hb => ?_⟩, trivial⟩⟩
  · simp
    omega
  · exact (World.ownsRow_lit w1 #[.pointer (some ⟨q, 0, none⟩), .func (.func 144) #[.pointer (some ⟨q, 0, none⟩)] #[]] 1 (Nat.zero_le _) (by simp [maxLen]) rfl).alloc _
  · have : w1.heap.size = b := Option.some.inj hb
    subst this
    exact ⟨.inr (.inl rfl), by simp⟩
  · exact (hq.al _).al _
  · show (if q = w1.heap.size + 1 then 1 else if q = w1.heap.size then 2 else 3) = 3
    rw [if_neg (by omega), if_neg (by omega)]
  · exact ⟨fun _ => .slice none 0 0, World.ownsRow_nil _ _ _ _, fun j h => absurd h (Nat.not_lt_zero j)⟩
  · exact absurd hb (by simp [Value.ownBlock])
/-- what New answers -/
def NwAns (d : Int) (w : World) (x : Ending) (w' : World) : Prop := ∃ g O, x = .returned (.pointer (some ⟨g, 0, none⟩)) ∧ Rb w' g O (newB d) ∧ (∀ b, O b → w.heap.size ≤ b) ∧ Below w.heap.size w w'
set_option maxRecDepth 100000 in
set_option maxHeartbeats 2000000 in
theorem new_any (d : Int) (w : World) : Calls Tryz.prog 68 #[.int .i64 d] w (NwAns d w) := by
  have HT := Lib.hid (bottom_any w)
  obtain ⟨x, hx⟩ : ∃ x, max d 0 = x := ⟨_, rfl⟩
  obtain ⟨M, hM⟩ : ∃ M : Nat, min x 64 = (M : Int) := ⟨(min x 64).toNat, by omega⟩
  have HN : Hid (newB d = ⟨[], none, 0, M⟩) := Lib.hid (by unfold newB; rw [hx, hM]; rfl)
  have HF : Hid (∀ w1 q, Below w.heap.size w w1 → w.heap.size ≤ q → Bk w1 q 104 #[.int .i64 11, .bool false, .int .u64 0, .string ⟨#[]⟩, .slice none 0 0] → NwAns d w (.returned (.pointer (some ⟨w1.heap.size + 1, 0, none⟩))) ((w1.alloc (.cells #[.pointer (some ⟨q, 0, none⟩), .func (.func 144) #[.pointer (some ⟨q, 0, none⟩)] #[]] 108)).alloc (.cells #[.int .i64 (M : Int), .int .i64 0, .slice (some ⟨w1.heap.size, 0, none⟩) 1 1] 111))) := Lib.hid fun w1 q hB hq0 hq => by
    have hs := hB.size
    refine ⟨_, _, rfl, ⟨_, _, _, by rw [HN.out]; exact Rbx.new hq, by rw [HN.out]; rfl⟩, fun b hb => ?_, (hB.alloc hs _).alloc (by simp; omega) _⟩
    rcases hb with rfl | rfl | rfl <;> omega
  clear HN
  go_enter Tryz.func68, Tryz.ntmps68
  go_wp2_with fail
  refine HT.out.mono ?_
  rintro e w1 ⟨q, rfl, hq0, hq, hB⟩
  have HG := Lib.hid (HF.out w1 q hB hq0 hq)
  clear hq0 hq hB HF
  go_wp2_with fail
  go_ret
  exact HG.out
end Go.Proofs.YtpcladdipgchbaaGreatDoor.nn
namespace Go.Proofs.YtpcladdipgchbaaGreatDoor.nn
open Go.RowKit

theorem addRb_addB : ∀ (op : List VT) (t : VT), addRb (op ++ [bot none]) t = (addB op t).1 ++ [bot (addB op t).2]
  | [], t => rfl
  | p :: r, t => by
    show (if p.k = 13 then addRb (r ++ [bot none]) (p.snoc t) else p.snoc t :: (r ++ [bot none])) = _
    rw [addB]
    by_cases h : p.k = 13
    · rw [if_pos h, if_pos h]
      exact addRb_addB r (p.snoc t)
    · rw [if_neg h, if_neg h]
      rfl
theorem btm_of : ∀ (D : List Rec) (op : List VT) (v : Option VT), D.map Rec.p = op ++ [bot v] → Btm D
  | [], op, v, h => by simp at h
  | r :: D, [], v, h => by
    simp at h
    exact .inl (by rw [h.1]; show (11 : Int) ≠ 13; decide)
  | r :: D, p :: op, v, h => by
    simp at h
    exact .inr (btm_of D op v h.2)
theorem add_n : ∀ (op : List VT) (t : VT), (∀ p, p ∈ op → p.n < 18446744073709551616) → ∀ p, p ∈ (addB op t).1 → p.n < 18446744073709551616
  | [], t, _, p, h => by cases h
  | q :: r, t, hq, p, h => by
    rw [addB] at h
    by_cases hk : q.k = 13
    · rw [if_pos hk] at h
      exact add_n r (q.snoc t) (fun p hp => hq p (by simp [hp])) p h
    · rw [if_neg hk] at h
      rcases List.mem_cons.1 h with rfl | h
      · exact hq q (by simp)
      · exact hq p (by simp [h])
theorem put_most (S : Bst) (e : Ev) : (putB S e).most = S.most := by
  unfold putB
  split
  · rfl
  · split
    · rfl
    · split <;> rfl
theorem good_put {S : Bst} {e : Ev} (h : GoodW S) (hw : wfE e) : GoodW (putB S e) := by
  by_cases hm : mayB S e = 0
  · obtain ⟨L, hL⟩ := h.g
    refine ⟨⟨_, put_ok hL hm⟩, ?_, by rw [put_most]; exact h.m⟩
    unfold putB
    rw [if_neg (by rw [hm]; simp)]
    intro p hp
    by_cases k15 : e.k = 15
    · rw [if_pos k15] at hp
      exact add_n _ _ (fun p hp => h.n p (List.mem_of_mem_tail hp)) p hp
    · rw [if_neg k15] at hp
      by_cases hl : lf e.k = true
      · rw [if_pos hl] at hp
        exact add_n _ _ h.n p hp
      · rw [if_neg hl] at hp
        rcases List.mem_cons.1 hp with rfl | hp
        · exact hw.n
        · exact h.n p hp
  · have : putB S e = S := by unfold putB; rw [if_pos hm]
    rw [this]
    exact h
/-- how long what is open is -/
theorem GoodW.lens {S : Bst} (h : GoodW S) : ∀ p, p ∈ S.op ++ [bot S.v] → p.l.length ≤ 65536 := by
  obtain ⟨L, ⟨h1, h2, h3⟩, h4⟩ := h.g
  intro p hp
  rw [List.mem_append] at hp
  rcases hp with hp | hp
  · cases hv : S.v with
    | some x => have h5 : S.op = [] := (h2 x hv).1; rw [h5] at hp; cases hp
    | none =>
      have h5 := (h3 hv).2
      have : ∀ (op : List VT), p ∈ op → p.l.length ≤ cntO op := by
        intro op
        induction op with
        | nil => intro h; cases h
        | cons q r ih =>
          intro h
          have h6 := len_cntL q.l
          rcases List.mem_cons.1 h with rfl | h
          · show _ ≤ cntO r + (cntL p.l + 1)
            omega
          · have := ih h
            show _ ≤ cntO r + (cntL q.l + 1)
            omega
      have h6 := this S.op hp
      have h7 : cntO S.op = S.n := h5
      omega
  · simp at hp
    subst hp
    show S.v.toList.length ≤ _
    cases S.v <;> simp
theorem sE_nil {k : Int} {g : Bool} {n : Nat} {s : ByteArray} {l : List VT} (h : sE (.mk k g n s l) = true) : s = ⟨#[]⟩ := by
  have h1 : s.toList.isEmpty = true := h
  rw [ByteArray.toList_eq] at h1
  refine ba_nil ?_
  show s.data.size = 0
  rw [← Array.length_toList]
  have h2 : s.data.toList = [] := by simpa using h1
  rw [h2]
  rfl
theorem open_plain {k : Int} {g : Bool} {n : Nat} {s : ByteArray} {l : List VT} (hk : k = 11 ∨ k = 12 ∨ k = 13) (h : oneB (.mk k g n s l) = true) : g = false ∧ s = ⟨#[]⟩ := by
  rcases hk with rfl | rfl | rfl
  · have h1 : (sE (.mk 11 g n s l) && nE (.mk 11 g n s l) && !g) = true := h
    rw [Bool.and_eq_true, Bool.and_eq_true] at h1
    exact ⟨by simpa using h1.2, sE_nil h1.1.1⟩
  · have h1 : (sE (.mk 12 g n s l) && nE (.mk 12 g n s l) && !g && decide (l.length % 2 = 0)) = true := h
    rw [Bool.and_eq_true, Bool.and_eq_true, Bool.and_eq_true] at h1
    exact ⟨by simpa using h1.1.2, sE_nil h1.1.1.1⟩
  · have h1 : (sE (.mk 13 g n s l) && !g && decide (l.length = 1) && !guise n l) = true := h
    rw [Bool.and_eq_true, Bool.and_eq_true, Bool.and_eq_true] at h1
    exact ⟨by simpa using h1.1.1.2, sE_nil h1.1.1.1⟩
theorem stC_push (e : Ev) (q : Nat) (v : Value) (r : Rec) (D : List Rec) : stC (⟨bare e, q, v⟩ :: r :: D) = stC (r :: D) ++ [.pointer (some ⟨q, 0, none⟩), .func (.func (tkK e.k)) #[.pointer (some ⟨q, 0, none⟩)] #[]] := by
  show stC (r :: D) ++ opC (r :: D).length ⟨bare e, q, v⟩ = _
  unfold opC opF tkF
  rw [if_neg (by simp)]
  rfl
/-- behind the count -/
structure Cn (w : World) (e : Ev) (S : Bst) (g : Nat) (O : Nat → Prop) (K : Nat → Nat) (sv : Value) (D : List Rec) (W : World) : Prop where
  r : Rbx W g O K sv D (S.n + 1) S.most
  m : Mv No O w O W
  c : Bk W w.heap.size 159 #[.int .i64 e.k, .bool e.g, .int .u64 (e.n : Int), .string e.s]
theorem Cn.on {w W W' : World} {e : Ev} {S : Bst} {g : Nat} {O : Nat → Prop} {K : Nat → Nat} {sv : Value} {D : List Rec} (h : Cn w e S g O K sv D W) (hB : Below W.heap.size W W') : Cn w e S g O K sv D W' := ⟨h.r.below hB, h.m.trans (Mv.of_below hB), h.c.below hB h.c.lt⟩
theorem Cn.of {w W : World} {e : Ev} {S : Bst} {g : Nat} {O : Nat → Prop} {K : Nat → Nat} {sv : Value} {D : List Rec} (hb : Eb w e W) (h : Rbx w g O K sv D S.n S.most) : Cn w e S g O K sv D (W.setCell ⟨g, 1, none⟩ (.int .i64 ((S.n + 1 : Nat) : Int))) := by
  have hg := h.lo _ h.o.1
  refine ⟨(h.below hb.b).cnt, (Mv.of_below hb.b).cell h.o.1 _, ?_⟩
  unfold Bk
  rw [off_g (by omega)]
  exact hb.c
/-- what Put leaves -/
def Fin (w : World) (g : Nat) (O : Nat → Prop) (S' : Bst) (W : World) : Prop := ∃ O', Mv No O w O' W ∧ Rb W g O' S'
theorem Cn.pushed {w w4 X w6 : World} {e : Ev} {S : Bst} {g q : Nat} {O : Nat → Prop} {K : Nat → Nat} {sv sv' : Value} {D : List Rec} {o : Obj} (h : Cn w e S g O K sv D w4) (hX : X.heap = (w4.alloc o).heap) (x1 : X.os = w4.os) (x2 : X.tape = w4.tape) (x3 : X.output = w4.output)
    {wy : World} (hy : Cn w e S g O K sv D wy) (hqy : wy.heap.size ≤ q) (hB : Below wy.heap.size wy w4) (hq : Bk w4 q 104 (vc (bare e) (.slice none 0 0)))
    (ho : w6.ownsRow 0 108 2 sv' (D.length + 1) (stC (⟨bare e, q, .slice none 0 0⟩ :: D))) (hgr : X.grownBy w6 sv.ownBlock) (hat : sv'.ownBlock = sv.ownBlock ∨ sv'.ownBlock = some X.heap.size) (hp : D.map Rec.p = S.op ++ [bot none]) {S' : Bst} (hS : S' = ⟨bare e :: S.op, none, S.n + 1, S.most⟩) :
    Fin w g O S' (w6.setCell ⟨g, 2, none⟩ sv') := by
  have hsz : X.heap.size = w4.heap.size + 1 := by rw [hX]; simp
  have hs6 := hgr.size
  have hs4 := hB.size
  have hql := hq.lt
  have hxk : ∀ b, b < w4.heap.size → X.heap[b]? = w4.heap[b]? := fun b hb => by rw [hX]; exact Below.heap_alloc _ _ _ hb
  have h6k : ∀ b, b < w4.heap.size → sv.ownBlock ≠ some b → w6.heap[b]? = w4.heap[b]? := fun b hb hne => by rw [hgr.block b (by omega) (fun e => hne e.symm), hxk b hb]
  have hgo : sv.ownBlock ≠ some g := fun e => by have h1 := (h.r.so g e).2; rw [h.r.o.2] at h1; omega
  have hg4 := h.r.lo _ h.r.o.1
  have hso : ∀ b, sv.ownBlock = some b → b < wy.heap.size := fun b hb => hy.r.lo b (hy.r.so b hb).1
  have hgb : Bk w6 g 111 #[.int .i64 (S.most : Int), .int .i64 ((S.n + 1 : Nat) : Int), sv] := (h6k g hg4 hgo).trans h.r.b
  have hqs : sv.ownBlock ≠ some q := fun e => by have := hso q e; omega
  have hgq : g ≠ q := by have := hy.r.lo _ hy.r.o.1; omega
  have hq6 : Bk w6 q 104 (vc (bare e) (.slice none 0 0)) := (h6k q hql hqs).trans hq
  have key := Rbx.push (W := w6.setCell ⟨g, 2, none⟩ sv') (p := bare e) (q := q) (n' := S.n + 1) (sv' := sv') hy.r (by rw [setCell_sz]; omega) (fun b hb hbg hne => by rw [off_g hbg, h6k b (by omega) hne]; exact hB.block b hb)
    (hgb.set_ 2 sv') (own_same5 ho fun b hb => off_g fun e => by
      subst e
      rcases hat with h5 | h5
      · rw [h5] at hb; exact hgo hb
      · rw [h5] at hb; injection hb with hb; omega)
    (hat.imp id fun h5 => ⟨_, h5, by omega, by omega⟩) hqy (by unfold Bk; rw [off_g (Ne.symm hgq)]; exact hq6) rfl
  refine ⟨_, ?_, _, _, _, by rw [hS]; exact key, by rw [hS, List.map_cons, hp]; rfl⟩
  refine hy.m.trans ⟨?_, ?_, ?_, by rw [setCell_sz]; omega, fun _ h => .inl h, fun _ h => h, fun b hb hn _ => ?_⟩
  · exact ((hgr.os.trans x1).trans hB.os)
  · exact ((hgr.tape.trans x2).trans hB.tape)
  · exact ((hgr.output.trans x3).trans hB.output)
  · rw [off_g (fun e => hn (by rw [e]; exact hy.r.o.1)), h6k b (by omega) (fun e => hn (hy.r.so b e).1)]
    exact hB.block b hb
end Go.Proofs.YtpcladdipgchbaaGreatDoor.nn
