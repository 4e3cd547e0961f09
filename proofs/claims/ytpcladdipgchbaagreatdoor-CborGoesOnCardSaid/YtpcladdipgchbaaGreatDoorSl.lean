/- Joined texts, what is wanted of them: RbTg. -/
import Derived.Deep.DeepCutAuto
import Derived.Deep.RegionWith
import Derived.Test.YtpcladdipgchbaaGreatDoorProg
import Derived.WalkKit
import Derived.Lib.Hide
import Derived.WalkSpells
import Derived.Deep.QuietTactic
import Derived.BigQuiet
import Derived.Deep.RegionHeld3
import Derived.Laws.BitsAllLaws
import Derived.Test.YtpcladdipgchbaaGreatDoorShelf
import Derived.IntWalk
import Derived.Deep.CutBlock
import Derived.StillTailTactics
import Derived.Test.YtpcladdipgchbaaGreatDoorSi
import Derived.Test.YtpcladdipgchbaaGreatDoorSf
import Derived.Test.YtpcladdipgchbaaGreatDoorSe
import Derived.Test.YtpcladdipgchbaaGreatDoorSb
import Derived.Test.YtpcladdipgchbaaGreatDoorSd
import Derived.Test.YtpcladdipgchbaaGreatDoorSa
import Derived.Test.YtpcladdipgchbaaGreatDoorSc
import Derived.Test.YtpcladdipgchbaaGreatDoorTl
import Derived.Test.YtpcladdipgchbaaGreatDoorTk
namespace Go.Proofs.YtpcladdipgchbaaGreatDoor.nn
open Go.RowKit

theorem Bk.new (W : World) (cs : Array Value) (T : TypeId) : Bk (W.alloc (.cells cs T)) W.heap.size T cs := heap_alloc_last _ _
theorem Eb.al {w W : World} {e : Ev} (h : Eb w e W) (o : Obj) : Eb w e (W.alloc o) := h.on ((Below.refl _ _).alloc (Nat.le_refl _) o)
/-- a tag that holds what least answers -/
def tagged (n : Nat) (e : Ev) : VT := .mk 13 false n ⟨#[]⟩ [asked e]
/-- behind the making of the tag: its box, and the row that it holds -/
structure Tg (w : World) (e : Ev) (n : Nat) (v : Value) (l : List VT) (b5 rb : Nat) (W : World) : Prop where
  eb : Eb w e W
  t : Bk W b5 25 #[.int .i64 13, .bool false, .int .u64 (n : Int), .string ⟨#[]⟩, .slice (some ⟨rb, 0, none⟩) 1 1]
  r : Bk W rb 25 #[.int .i64 e.k, .bool e.g, .int .u64 (e.n : Int), .string e.s, v]
  l : Lst W v l
theorem Tg.drew {w W : World} {e : Ev} {n : Nat} {v : Value} {l : List VT} {b5 rb : Nat} (h : Tg w e n v l b5 rb W) : Tg w e n v l b5 rb W.drew := ⟨h.eb.drew, h.t, h.r, h.l.keep (Below.drew (Below.refl _ _)) (Nat.le_refl _)⟩
theorem Bk.set5 {W : World} {g : Nat} {T : TypeId} {x0 x1 x2 x3 x4 a b c d f : Value} (h : Bk W g T #[x0, x1, x2, x3, x4]) : Bk (set5 W g 0 a b c d f) g T #[a, b, c, d, f] := ((((h.set_ 0 a).set_ 1 b).set_ 2 c).set_ 3 d).set_ 4 f
/-- the tag's box is made last -/
theorem Tg.of1 {w W : World} {e : Ev} {n : Nat} {v : Value} {l : List VT} (h : Eb w e W) (hl : Lst W v l) : Tg w e n v l (W.heap.size + 1) W.heap.size ((W.alloc (.cells #[.int .i64 e.k, .bool e.g, .int .u64 (e.n : Int), .string e.s, v] 25)).alloc (.cells #[.int .i64 13, .bool false, .int .u64 (n : Int), .string ⟨#[]⟩, .slice (some ⟨W.heap.size, 0, none⟩) 1 1] 25)) :=
  ⟨(h.al _).al _, bm_last2 _ _ _, (Bk.new W _ _).al _, (hl.keep ((Below.refl _ _).alloc (Nat.le_refl _) _) (Nat.le_refl _)).keep ((Below.refl _ _).alloc (Nat.le_refl _) _) (Nat.le_refl _)⟩
/-- it is made between -/
theorem Tg.of2 {w W : World} {e : Ev} {n : Nat} {v : Value} {l : List VT} (h : Eb w e W) (hl : Lst W v l) : Tg w e n v l W.heap.size (W.heap.size + 1) ((W.alloc (.cells #[.int .i64 13, .bool false, .int .u64 (n : Int), .string ⟨#[]⟩, .slice (some ⟨W.heap.size + 1, 0, none⟩) 1 1] 25)).alloc (.cells #[.int .i64 e.k, .bool e.g, .int .u64 (e.n : Int), .string e.s, v] 25)) :=
  ⟨(h.al _).al _, (Bk.new W _ _).al _, bm_last2 _ _ _, (hl.keep ((Below.refl _ _).alloc (Nat.le_refl _) _) (Nat.le_refl _)).keep ((Below.refl _ _).alloc (Nat.le_refl _) _) (Nat.le_refl _)⟩
/-- it was made ahead -/
theorem Tg.of3 {w W : World} {e : Ev} {n : Nat} {v : Value} {l : List VT} {b B : Nat} (h : Eb w e W) (hl : Lsf (fun x => B ≤ x) W v l) (hb : b < B) (hw : w.heap.size < b) (hk : Bk W b 25 #[.int .i64 0, .bool false, .int .u64 0, .string ⟨#[]⟩, .slice none 0 0]) :
    Tg w e n v l b W.heap.size (set5 (W.alloc (.cells #[.int .i64 e.k, .bool e.g, .int .u64 (e.n : Int), .string e.s, v] 25)) b 0 (.int .i64 13) (.bool false) (.int .u64 (n : Int)) (.string ⟨#[]⟩) (.slice (some ⟨W.heap.size, 0, none⟩) 1 1)) := by
  have hlt := hk.lt
  refine ⟨⟨below_set5 (h.b.alloc h.b.size _) (Nat.le_of_lt hw) _ _ _ _ _, ?_⟩, Bk.set5 (hk.al _), ?_, ?_⟩
  · unfold Bk
    rw [set5_other _ _ _ _ _ _ _ _ _ (by omega)]
    exact h.c.al _
  · unfold Bk
    rw [set5_other _ _ _ _ _ _ _ _ _ (by omega)]
    exact heap_alloc_last _ _
  · refine (hl.keep (by rw [set5_size]; simp) fun x hx hxl => ?_).lst
    rw [set5_other _ _ _ _ _ _ _ _ _ (by omega)]
    exact Below.heap_alloc _ _ _ hxl
set_option maxRecDepth 100000 in
set_option maxHeartbeats 6000000 in
theorem tagTk_any (q n : Nat) (e : Ev) (w : World) (hq : q < w.heap.size) (h2 : w.cell? ⟨q, 2, none⟩ = some (.int .u64 (n : Int))) (hn : n < 18446744073709551616) (hw : wfE e) :
    Calls Tryz.prog 224 #[.pointer (some ⟨q, 0, none⟩), evv e] w fun x w' => x = .returned (.bool (decide (e.k ≠ 15) && decide (chk (tagged n e) = 0))) ∧ Below w.heap.size w w' := by
  have HE := Lib.hid (Eb.new w e)
  obtain ⟨g1, g2, g3⟩ := wf_asked hw
  have HL : Hid (∀ W, Eb w e W → Calls Tryz.prog 187 #[evv e] W fun x w' => ∃ A c, x = .returned (vv (asked e) (.slice A (asked e).l.length c)) ∧ Lsf (fun b => W.heap.size ≤ b) w' (.slice A (asked e).l.length c) (asked e).l ∧ Eb w e w' ∧ Below W.heap.size W w') := Lib.hid fun W hW => (least_any e W).mono fun x w' ⟨C, hx, hl, hb⟩ => by
    obtain ⟨A, c, rfl, _⟩ := hl.lst.out
    exact ⟨A, c, hx, hl, hW.on hb, hb⟩
  have HC : Hid (∀ b W, Eb w e W → (∃ C, b < W.heap.size ∧ Row W b 0 (asked e) C ∧ Lst W C (asked e).l) → Calls Tryz.prog 15 #[vv (tagged n e) (.slice (some ⟨b, 0, none⟩) 1 1)] W fun x w' => x = .returned (.int .i64 (chk (tagged n e) : Int)) ∧ Eb w e w') := Lib.hid fun b W hW ⟨C, hb, hr, hl⟩ => by
    have hc : cnt (tagged n e) = cnt (asked e) + 0 + 1 := rfl
    have hs : smx (tagged n e) = max 0 (max (smx (asked e)) 0) := rfl
    refine (vcheck_any (tagged n e) _ W (by omega) (by omega) ?_ ⟨by decide, by decide, hn, g1, trivial⟩).mono fun x w' ⟨hx, hb⟩ => ⟨hx, hW.on hb⟩
    refine .at_ (l := [asked e]) (C := fun _ => C) rfl (Nat.le_refl _) hb (fun i hi => ?_) fun i hi => ?_
    · obtain rfl : i = 0 := by simpa using hi
      exact hr
    · obtain rfl : i = 0 := by simpa using hi
      exact hl
  obtain ⟨R, hR⟩ : ∃ R, chk (tagged n e) = R := ⟨_, rfl⟩
  rw [hR] at HC ⊢
  obtain ⟨k, gg, n', s⟩ := e
  obtain ⟨m, hm⟩ : ∃ m, (asked ⟨k, gg, n', s⟩).l.length = m := ⟨_, rfl⟩
  obtain ⟨l, hl⟩ : ∃ l, (asked ⟨k, gg, n', s⟩).l = l := ⟨_, rfl⟩
  rw [hm, hl] at HL
  rw [hl] at HC
  unfold vv evv at *
  have e1 : (asked ⟨k, gg, n', s⟩).k = k := rfl
  have e2 : (asked ⟨k, gg, n', s⟩).g = gg := rfl
  have e3 : (asked ⟨k, gg, n', s⟩).n = n' := rfl
  have e4 : (asked ⟨k, gg, n', s⟩).s = s := rfl
  have e5 : (tagged n ⟨k, gg, n', s⟩).k = 13 := rfl
  have e6 : (tagged n ⟨k, gg, n', s⟩).g = false := rfl
  have e7 : (tagged n ⟨k, gg, n', s⟩).n = n := rfl
  have e8 : (tagged n ⟨k, gg, n', s⟩).s = ⟨#[]⟩ := rfl
  rw [e1, e2, e3, e4] at HL
  rw [e5, e6, e7, e8] at HC
  have HRW : Hid (∀ (W : World) (b : Nat) (C : Value), Bk W b 25 #[.int .i64 k, .bool gg, .int .u64 (n' : Int), .string s, C] → Row W b 0 (asked ⟨k, gg, n', s⟩) C) := Lib.hid fun W b C h => ⟨h.cell 0, h.cell 1, h.cell 2, h.cell 3, h.cell 4⟩
  have HN2 : Hid (∀ W, Eb w ⟨k, gg, n', s⟩ W → W.cell? ⟨q, 2, none⟩ = some (.int .u64 (n : Int))) := Lib.hid fun W h => eb_at h (a := ⟨q, 2, none⟩) hq h2
  have HZ : Hid (∀ W, Eb w ⟨k, gg, n', s⟩ W → w.heap.size < W.heap.size) := Lib.hid fun W h => h.c.lt
  clear hw g1 g2 g3 hm hl hR e1 e2 e3 e4 e5 e6 e7 e8 h2
  obtain ⟨WE, hWE⟩ : ∃ WE, w.alloc (.cells #[.int .i64 k, .bool gg, .int .u64 (n' : Int), .string s] 159) = WE := ⟨_, rfl⟩
  have hE : Eb w ⟨k, gg, n', s⟩ WE := by rw [← hWE]; exact HE.out
  go_enter Tryz.func224, Tryz.ntmps224
  go_upto_region 1 with fail
  have HE1 := Lib.hid hE
  have hx0 := HN2.out _ hE
  obtain ⟨c0, c1, c2, c3⟩ := hE.cells
  have hx1 := HN2.out _ (hE.al (.cells #[.int .i64 0, .bool false, .int .u64 0, .string ⟨#[]⟩, .slice none 0 0] 25))
  obtain ⟨d0, d1, d2, d3⟩ := (hE.al (.cells #[.int .i64 0, .bool false, .int .u64 0, .string ⟨#[]⟩, .slice none 0 0] 25)).cells
  have L1 := Lib.hid (HL.out _ hE.drew)
  have L2 := Lib.hid (HL.out _ (hE.al (.cells #[.int .i64 0, .bool false, .int .u64 0, .string ⟨#[]⟩, .slice none 0 0] 25)).drew)
  have HK5 : Hid (Bk (WE.alloc (.cells #[.int .i64 0, .bool false, .int .u64 0, .string ⟨#[]⟩, .slice none 0 0] 25)).drew WE.heap.size 25 #[.int .i64 0, .bool false, .int .u64 0, .string ⟨#[]⟩, .slice none 0 0]) := Lib.hid (heap_alloc_last _ _)
  clear hE hWE HE HL
  go_cut [5] (fun s5 wx => ∃ (b5 rb : Nat) (A : Option Addr) (c : Nat), s5 = .pointer (some ⟨b5, 0, none⟩) ∧ Hid (Tg w ⟨k, gg, n', s⟩ n (.slice A m c) l b5 rb wx))
  case first =>
    go_region_with (first
      | (go_at_call 187; (with_reducible refine L1.out.mono ?_); rintro x w1 ⟨A, c, rfl, hl1, hk1, hb1⟩; have hy0 := HN2.out _ hk1; have hy1 := HN2.out _ (hk1.al (.cells #[.int .i64 k, .bool gg, .int .u64 (n' : Int), .string s, .slice A m c] 25)); have hy2 := HN2.out _ (hk1.al (.cells #[.int .i64 0, .bool false, .int .u64 0, .string ⟨#[]⟩, .slice none 0 0] 25)); have hy3 := HN2.out _ ((hk1.al (.cells #[.int .i64 0, .bool false, .int .u64 0, .string ⟨#[]⟩, .slice none 0 0] 25)).al (.cells #[.int .i64 k, .bool gg, .int .u64 (n' : Int), .string s, .slice A m c] 25)); have hy4 := HN2.out _ ((hk1.al (.cells #[.int .i64 k, .bool gg, .int .u64 (n' : Int), .string s, .slice A m c] 25)).al (.cells #[.int .i64 0, .bool false, .int .u64 0, .string ⟨#[]⟩, .slice none 0 0] 25)))
      | (go_at_call 187; (with_reducible refine L2.out.mono ?_); rintro x w1 ⟨A, c, rfl, hl1, hk1, hb1⟩; have hy0 := HN2.out _ hk1; have hy1 := HN2.out _ (hk1.al (.cells #[.int .i64 k, .bool gg, .int .u64 (n' : Int), .string s, .slice A m c] 25)); have hk9 := HK5.out.below hb1 HK5.out.lt; obtain ⟨f0, f1, f2, f3, f4⟩ := (hk9.al (.cells #[.int .i64 k, .bool gg, .int .u64 (n' : Int), .string s, .slice A m c] 25)).c5; obtain ⟨ff0, ff1, ff2, ff3, ff4⟩ := (hk9.al (.cells #[.int .i64 k, .bool gg, .int .u64 (n' : Int), .string s, .slice A m c] 25)).f5))
    all_goals
      go_wp2_with fail
      go_meet
      first
        | (refine ⟨w1.heap.size + 1, w1.heap.size, A, c, rfl, ?_⟩; exact Lib.hid (Tg.of1 hk1 hl1.lst))
        | (refine ⟨w1.heap.size, w1.heap.size + 1, A, c, rfl, ?_⟩; exact Lib.hid (Tg.of2 hk1 hl1.lst))
        | (refine ⟨WE.heap.size, w1.heap.size, A, c, rfl, ?_⟩; exact Lib.hid (Tg.of3 (B := (WE.alloc (.cells #[.int .i64 0, .bool false, .int .u64 0, .string ⟨#[]⟩, .slice none 0 0] 25)).drew.heap.size) hk1 hl1 (by simp) (HZ.out _ HE1.out) hk9))
  case rest =>
    obtain ⟨b5, rb, A, c, rfl, HT⟩ := hcut
    clear hx0 hx1 c0 c1 c2 c3 d0 d1 d2 d3 L1 L2 HK5
    obtain ⟨j0, j1, j2, j3, j4⟩ := HT.out.t.c5
    have i0 := HT.out.eb.cells.1
    have HF : Hid (Calls Tryz.prog 15 #[.agg #[.int .i64 13, .bool false, .int .u64 (n : Int), .string ⟨#[]⟩, .slice (some ⟨rb, 0, none⟩) 1 1]] wc fun x w' => x = .returned (.int .i64 (R : Int)) ∧ Eb w ⟨k, gg, n', s⟩ w') := Lib.hid (HC.out rb wc HT.out.eb ⟨_, HT.out.r.lt, HRW.out _ _ _ HT.out.r, HT.out.l⟩)
    clear HC HRW HN2 HZ HE1
    by_cases hk : k = 15
    · subst hk
      go_wp2_with fail
      go_ret
      exact ⟨rfl, HT.out.eb.b⟩
    · have hk1 : (k != 15) = true := by simpa using hk
      have HK : Hid ((decide (k ≠ 15) && decide (R = 0)) = ((R : Int) == 0)) := Lib.hid (by rw [decide_eq_true hk]; by_cases h : R = 0 <;> simp [h])

      go_wp2_with fail
      refine HF.out.mono ?_
      rintro x w2 ⟨rfl, hk2⟩
      have HK2 := Lib.hid hk2
      clear hk2
      go_wp2_with fail
      go_ret
      exact ⟨congrArg (fun b => Ending.returned (Value.bool b)) HK.out.symm, HK2.out.b⟩
end Go.Proofs.YtpcladdipgchbaaGreatDoor.nn
