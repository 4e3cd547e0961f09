/- Joined texts, what is wanted of them: RbTake, RbTk, RbV. -/
import Derived.Deep.RegionHeld3
import Derived.Test.YtpcladdipgchbaaGreatDoorProg
import Derived.WalkKit
import Derived.Lib.Hide
import Derived.WalkSpells
import Derived.Deep.QuietTactic
import Derived.BigQuiet
import Derived.Laws.BitsAllLaws
import Derived.Test.YtpcladdipgchbaaGreatDoorShelf
import Derived.Deep.RegionWith
import Derived.IntWalk
import Derived.Deep.CutBlock
import Derived.StillTailTactics
import Derived.Test.YtpcladdipgchbaaGreatDoorSi
import Derived.Test.YtpcladdipgchbaaGreatDoorSf
import Derived.Test.YtpcladdipgchbaaGreatDoorSe
import Derived.Test.YtpcladdipgchbaaGreatDoorSb
import Derived.Test.YtpcladdipgchbaaGreatDoorSd
import Derived.Test.YtpcladdipgchbaaGreatDoorSa
import Derived.Test.YtpcladdipgchbaaGreatDoorSc
import Derived.Test.YtpcladdipgchbaaGreatDoorTk
namespace Go.Proofs.YtpcladdipgchbaaGreatDoor.nn
open Go.RowKit

/-- the world behind the box of an event -/
structure Eb (w : World) (e : Ev) (W : World) : Prop where
  b : Below w.heap.size w W
  c : Bk W w.heap.size 159 #[.int .i64 e.k, .bool e.g, .int .u64 (e.n : Int), .string e.s]
theorem Eb.new (w : World) (e : Ev) : Eb w e (w.alloc (.cells #[.int .i64 e.k, .bool e.g, .int .u64 (e.n : Int), .string e.s] 159)) := ⟨(Below.refl _ _).alloc (Nat.le_refl _) _, heap_alloc_last _ _⟩
theorem Eb.on {w W W' : World} {e : Ev} (h : Eb w e W) (hB : Below W.heap.size W W') : Eb w e W' := ⟨h.b.trans (hB.mono h.b.size), h.c.below hB h.c.lt⟩
theorem Eb.drew {w W : World} {e : Ev} (h : Eb w e W) : Eb w e W.drew := h.on (Below.drew (Below.refl _ _))
theorem Eb.cells {w W : World} {e : Ev} (h : Eb w e W) : W.cell? ⟨w.heap.size, 0, none⟩ = some (.int .i64 e.k) ∧ W.cell? ⟨w.heap.size, 1, none⟩ = some (.bool e.g) ∧ W.cell? ⟨w.heap.size, 2, none⟩ = some (.int .u64 (e.n : Int)) ∧ W.cell? ⟨w.heap.size, 3, none⟩ = some (.string e.s) := ⟨h.c.cell 0, h.c.cell 1, h.c.cell 2, h.c.cell 3⟩
/-- the tree that least answers -/
theorem asked_l (e : Ev) : (asked e).l = if e.k = 13 then [emp] else [] := rfl
set_option maxRecDepth 100000 in
set_option maxHeartbeats 1000000 in
theorem least_any (e : Ev) (w : World) : Calls Tryz.prog 187 #[evv e] w fun x w' => ∃ C, x = .returned (vv (asked e) C) ∧ Lsf (fun b => w.heap.size ≤ b) w' C (asked e).l ∧ Below w.heap.size w w' := by
  obtain ⟨k, gg, n, s⟩ := e
  obtain ⟨W1, hW1⟩ : ∃ W1, w.alloc (.cells #[.int .i64 k, .bool gg, .int .u64 (n : Int), .string s] 159) = W1 := ⟨_, rfl⟩
  obtain ⟨W2, hW2⟩ : ∃ W2, W1.alloc (.cells #[.int .i64 0, .bool false, .int .u64 0, .string ⟨#[]⟩, .slice none 0 0] 25) = W2 := ⟨_, rfl⟩
  have Z12 : Hid (W1.heap.size = w.heap.size + 1 ∧ W2.heap.size = W1.heap.size + 1) := Lib.hid ⟨by rw [← hW1]; simp, by rw [← hW2]; simp⟩
  have b1 : Below w.heap.size w W1 := by rw [← hW1]; exact (Below.refl _ _).alloc (Nat.le_refl _) _
  have b2 : Below W1.heap.size W1 W2 := by rw [← hW2]; exact (Below.refl _ _).alloc (Nat.le_refl _) _
  have k1 : Bk W1 w.heap.size 159 #[.int .i64 k, .bool gg, .int .u64 (n : Int), .string s] := by rw [← hW1]; exact heap_alloc_last _ _
  have k2 : Bk W2 W1.heap.size 25 #[.int .i64 0, .bool false, .int .u64 0, .string ⟨#[]⟩, .slice none 0 0] := by rw [← hW2]; exact heap_alloc_last _ _
  have k12 := k1.below b2 k1.lt
  obtain ⟨c0, c1, c2, c3⟩ := k12.c4
  unfold vv evv
  have ha := asked_l ⟨k, gg, n, s⟩
  go_enter Tryz.func187, Tryz.ntmps187
  go_upto_region 2 with fail
  obtain ⟨W3, hW3⟩ : ∃ W3, W2.alloc (.cells #[.int .i64 k, .bool gg, .int .u64 (n : Int), .string s, .slice none 0 0] 25) = W3 := ⟨_, rfl⟩
  rw [hW3]
  have Z3 : Hid (W3.heap.size = W2.heap.size + 1) := Lib.hid (by rw [← hW3]; simp)
  have b3 : Below W2.heap.size W2 W3 := by rw [← hW3]; exact (Below.refl _ _).alloc (Nat.le_refl _) _
  have k3 : Bk W3 W2.heap.size 25 #[.int .i64 k, .bool gg, .int .u64 (n : Int), .string s, .slice none 0 0] := by rw [← hW3]; exact heap_alloc_last _ _
  have k13 := k12.below b3 k12.lt
  have k23 := k2.below b3 k2.lt
  have HB : Hid (Below w.heap.size w W3) := Lib.hid (b1.trans ((b2.trans (b3.mono b2.size)).mono b1.size))
  obtain ⟨d0, _, _, _⟩ := k13.c4
  clear c0 c1 c2 c3
  by_cases hk : k = 13
  · subst hk
    obtain ⟨W4, hW4⟩ : ∃ W4, W3.alloc (.cells #[.int .i64 0, .bool false, .int .u64 0, .string ⟨#[]⟩, .slice none 0 0] 25) = W4 := ⟨_, rfl⟩
    have b4 : Below W3.heap.size W3 W4 := by rw [← hW4]; exact (Below.refl _ _).alloc (Nat.le_refl _) _
    have k4 : Bk W4 W3.heap.size 25 #[.int .i64 0, .bool false, .int .u64 0, .string ⟨#[]⟩, .slice none 0 0] := by rw [← hW4]; exact heap_alloc_last _ _
    have k24 := k23.below b4 k23.lt
    have k34 := k3.below b4 k3.lt
    obtain ⟨e0, e1, e2, e3, e4⟩ := k34.c5
    obtain ⟨f0, f1, f2, f3, f4⟩ := k24.c5
    obtain ⟨ff0, ff1, ff2, ff3, ff4⟩ := k24.f5
    obtain ⟨x0, x1, x2, x3, x4⟩ := k3.c5
    have ef4 := k34.frozen 4
    have xf4 := k3.frozen 4
    have hne : W2.heap.size ≠ W1.heap.size := by have := Z12.out; omega
    have hne2 : W1.heap.size ≠ W2.heap.size := by have := Z12.out; omega
    have HB4 : Hid (Below w.heap.size w W4) := Lib.hid (HB.out.trans (b4.mono HB.out.size))
    have HK4 := Lib.hid k4
    have HZ : Hid (w.heap.size ≤ W1.heap.size ∧ w.heap.size ≤ W2.heap.size ∧ W3.heap.size ≠ W1.heap.size ∧ W3.heap.size ≠ W2.heap.size ∧ w.heap.size ≤ W3.heap.size) := Lib.hid (by have h1 := Z12.out; have h2 := Z3.out; exact ⟨by omega, by omega, by omega, by omega, by omega⟩)
    clear b1 b2 b3 b4 k1 k2 k3 k4 k12 k13 k23 k24 k34 ha hW1 hW2 hW3
    go_wp2_with fail
    refine bodyPost_ret (v := .agg #[.int .i64 13, .bool gg, .int .u64 (n : Int), .string s, .slice (some ⟨W3.heap.size, 0, none⟩) 1 1]) (by simp [results, Tryz.results187, go_sem, f0, f1, f2, f3, f4]) rfl ⟨.slice (some ⟨W3.heap.size, 0, none⟩) 1 1, rfl, ?_, ?_⟩
    · show Lsf _ _ _ [emp]
      refine .at_ (C := fun _ => .slice none 0 0) rfl (Nat.le_refl _) HZ.out.2.2.2.2 ?_ (fun i hi => ?_) fun i hi => ?_
      · simp only [setCell_sz]; exact HK4.out.lt
      · obtain rfl : i = 0 := by simpa using hi
        have hB : Bk (((((((W4.setCell ⟨W2.heap.size, 4, none⟩ (.slice (some ⟨W3.heap.size, 0, none⟩) 1 1)).setCell ⟨W1.heap.size, 0, none⟩ (.int .i64 13)).setCell ⟨W1.heap.size, 1, none⟩ (.bool gg)).setCell ⟨W1.heap.size, 2, none⟩ (.int .u64 (n : Int))).setCell ⟨W1.heap.size, 3, none⟩ (.string s)).setCell ⟨W1.heap.size, 4, none⟩ (.slice (some ⟨W3.heap.size, 0, none⟩) 1 1))) W3.heap.size 25 #[.int .i64 0, .bool false, .int .u64 0, .string ⟨#[]⟩, .slice none 0 0] := by
          unfold Bk
          rw [off_g HZ.out.2.2.1, off_g HZ.out.2.2.1, off_g HZ.out.2.2.1, off_g HZ.out.2.2.1, off_g HZ.out.2.2.1, off_g HZ.out.2.2.2.1]
          exact HK4.out
        exact ⟨hB.cell 0, hB.cell 1, hB.cell 2, hB.cell 3, hB.cell 4⟩
      · obtain rfl : i = 0 := by simpa using hi
        exact .nil_
    · exact below_set5 (HB4.out.setCell (p := ⟨W2.heap.size, 4, none⟩) HZ.out.2.1 _) HZ.out.1 _ _ _ _ _
  · have hk1 : (k == 13) = false := by simp [hk]
    obtain ⟨e0, e1, e2, e3, e4⟩ := k3.c5
    obtain ⟨f0, f1, f2, f3, f4⟩ := k23.c5
    obtain ⟨ff0, ff1, ff2, ff3, ff4⟩ := k23.f5
    have HZ : Hid (w.heap.size ≤ W1.heap.size) := Lib.hid (by have := Z12.out; omega)
    rw [if_neg hk] at ha
    have HA := Lib.hid ha
    clear b1 b2 b3 k1 k2 k3 k12 k13 k23 ha hk hW1 hW2 hW3
    go_wp2_with fail
    refine bodyPost_ret (v := .agg #[.int .i64 k, .bool gg, .int .u64 (n : Int), .string s, .slice none 0 0]) (by simp [results, Tryz.results187, go_sem, f0, f1, f2, f3, f4]) rfl ⟨.slice none 0 0, rfl, by rw [HA.out]; exact .nil_, ?_⟩
    exact below_set5 HB.out HZ.out _ _ _ _ _
end Go.Proofs.YtpcladdipgchbaaGreatDoor.nn
namespace Go.Proofs.YtpcladdipgchbaaGreatDoor.nn
open Go.RowKit

/-- an event's numbers are an event's -/
structure wfE (e : Ev) : Prop where
  k1 : -9223372036854775808 ≤ e.k
  k2 : e.k ≤ 9223372036854775807
  n : e.n < 18446744073709551616
  s : e.s.size ≤ maxLen
theorem wf_asked {e : Ev} (h : wfE e) : wfT (asked e) ∧ smx (asked e) ≤ maxLen ∧ cnt (asked e) ≤ 2 := by
  unfold asked
  split
  · refine ⟨⟨h.k1, h.k2, h.n, ⟨by decide, by decide, by decide, trivial⟩, trivial⟩, ?_, Nat.le_refl _⟩
    have := h.s
    show max e.s.size (max (max 0 0) 0) ≤ _
    omega
  · refine ⟨⟨h.k1, h.k2, h.n, trivial⟩, ?_, by show 0 + 1 ≤ 2; omega⟩
    have := h.s
    show max e.s.size 0 ≤ _
    omega
theorem eb_at {w W : World} {e : Ev} {a : Addr} {v : Value} (h : Eb w e W) (ha : a.block < w.heap.size) (hc : w.cell? a = some v) : W.cell? a = some v := (h.b.cell ha).trans hc
set_option maxRecDepth 100000 in
theorem listTk_any (q : Nat) (e : Ev) (w : World) : Calls Tryz.prog 225 #[.pointer (some ⟨q, 0, none⟩), evv e] w fun x w' => x = .returned (.bool true) ∧ Below w.heap.size w w' := by
  have HB := Lib.hid (Eb.new w e).b
  unfold evv
  go_enter Tryz.func225, Tryz.ntmps225
  go_wp2_with fail
  go_ret
  exact ⟨rfl, HB.out⟩
set_option maxRecDepth 100000 in
set_option maxHeartbeats 1000000 in
theorem botTk_any (q m c : Nat) (A : Option Addr) (e : Ev) (w : World) (hq : q < w.heap.size) (h4 : w.cell? ⟨q, 4, none⟩ = some (.slice A m c)) :
    Calls Tryz.prog 144 #[.pointer (some ⟨q, 0, none⟩), evv e] w fun x w' => x = .returned (.bool (decide (e.k ≠ 15) && decide (m = 0))) ∧ Below w.heap.size w w' := by
  have HE := Lib.hid (Eb.new w e)
  have a4 := eb_at HE.out (a := ⟨q, 4, none⟩) hq h4
  obtain ⟨k, gg, n, s⟩ := e
  unfold evv
  clear h4
  by_cases hk : k = 15
  · subst hk
    go_enter Tryz.func144, Tryz.ntmps144
    go_wp2_with fail
    go_ret
    exact ⟨rfl, HE.out.b⟩
  · have hk1 : (k != 15) = true := by simpa using hk
    have hd : decide (k ≠ 15) = true := by simpa using hk
    rcases Nat.eq_zero_or_pos m with rfl | hm
    · go_enter Tryz.func144, Tryz.ntmps144
      go_wp2_with fail
      go_ret
      exact ⟨rfl, HE.out.b⟩
    · have hm1 : ((m : Int) == 0) = false := by simp; omega
      have hm2 : decide (m = 0) = false := by simp; omega
      go_enter Tryz.func144, Tryz.ntmps144
      go_wp2_with fail
      go_ret
      exact ⟨rfl, HE.out.b⟩
set_option maxRecDepth 100000 in
set_option maxHeartbeats 1000000 in
theorem mapTk_any (q m c : Nat) (A : Option Addr) (e : Ev) (w : World) (hq : q < w.heap.size) (h4 : w.cell? ⟨q, 4, none⟩ = some (.slice A m c)) :
    Calls Tryz.prog 223 #[.pointer (some ⟨q, 0, none⟩), evv e] w fun x w' => x = .returned (.bool (decide (e.k ≠ 15) || decide (m % 2 = 0))) ∧ Below w.heap.size w w' := by
  have HE := Lib.hid (Eb.new w e)
  have a4 := eb_at HE.out (a := ⟨q, 4, none⟩) hq h4
  obtain ⟨k, gg, n, s⟩ := e
  unfold evv
  clear h4
  by_cases hk : k = 15
  · subst hk
    have hmod : (m : Int).tmod 2 = ((m % 2 : Nat) : Int) := by rw [Int.tmod_eq_emod_of_nonneg (by omega)]; omega
    have hw : IntKind.i64.wrap (((m % 2 : Nat) : Int)) = ((m % 2 : Nat) : Int) := IntWalk.i64_in _ ⟨by omega, by omega⟩
    obtain ⟨r, hr⟩ : ∃ r, m % 2 = r := ⟨_, rfl⟩
    have hr2 : r = 0 ∨ r = 1 := by omega
    rw [hr] at hmod hw
    have HR : Hid (decide (m % 2 = 0) = decide (r = 0)) := Lib.hid (by rw [hr])
    clear hr
    rcases hr2 with rfl | rfl
    all_goals
      have hmod2 : (m : Int) % 2 = (m : Int).tmod 2 := (Int.tmod_eq_emod_of_nonneg (by omega)).symm
      rw [hmod] at hmod2
      go_enter Tryz.func223, Tryz.ntmps223
      go_wp2_with fail
      go_ret
      exact ⟨by rw [HR.out]; rfl, HE.out.b⟩
  · have hk1 : (k != 15) = true := by simpa using hk
    have hd : decide (k ≠ 15) = true := by simpa using hk
    go_enter Tryz.func223, Tryz.ntmps223
    go_wp2_with fail
    go_ret
    exact ⟨rfl, HE.out.b⟩
/-- what is asked of an event by itself -/
def ievB (e : Ev) : Bool := if e.k = 15 then !e.g && decide (e.n = 0) && decide (e.s.size = 0) else decide (chk (asked e) = 0)
set_option maxRecDepth 100000 in
set_option maxHeartbeats 1000000 in
theorem isEv_any (e : Ev) (w : World) (hw : wfE e) : Calls Tryz.prog 220 #[evv e] w fun x w' => x = .returned (.bool (ievB e)) ∧ Below w.heap.size w w' := by
  have HE := Lib.hid (Eb.new w e)
  obtain ⟨h1, h2, h3⟩ := wf_asked hw
  have HL : Hid (∀ W, Eb w e W → Calls Tryz.prog 187 #[evv e] W fun x w' => ∃ A c, x = .returned (vv (asked e) (.slice A (asked e).l.length c)) ∧ Lst w' (.slice A (asked e).l.length c) (asked e).l ∧ Eb w e w') := Lib.hid fun W hW => (least_any e W).mono fun x w' ⟨C, hx, hl, hb⟩ => by
    obtain ⟨A, c, rfl, _⟩ := hl.lst.out
    exact ⟨A, c, hx, hl.lst, hW.on hb⟩
  have HC : Hid (∀ C W, Eb w e W → Lst W C (asked e).l → Calls Tryz.prog 15 #[vv (asked e) C] W fun x w' => x = .returned (.int .i64 (chk (asked e) : Int)) ∧ Eb w e w') := Lib.hid fun C W hW hl => (vcheck_any (asked e) C W (by omega) h2 hl h1).mono fun x w' ⟨hx, hb⟩ => ⟨hx, hW.on hb⟩
  obtain ⟨k, gg, n, s⟩ := e
  unfold ievB
  obtain ⟨m, hm⟩ : ∃ m, (asked ⟨k, gg, n, s⟩).l.length = m := ⟨_, rfl⟩
  obtain ⟨l, hl⟩ : ∃ l, (asked ⟨k, gg, n, s⟩).l = l := ⟨_, rfl⟩
  rw [hm, hl] at HL
  rw [hl] at HC
  obtain ⟨R, hR⟩ : ∃ R, chk (asked ⟨k, gg, n, s⟩) = R := ⟨_, rfl⟩
  rw [hR] at HC ⊢
  unfold vv evv at *
  have e1 : (asked ⟨k, gg, n, s⟩).k = k := rfl
  have e2 : (asked ⟨k, gg, n, s⟩).g = gg := rfl
  have e3 : (asked ⟨k, gg, n, s⟩).n = n := rfl
  have e4 : (asked ⟨k, gg, n, s⟩).s = s := rfl
  rw [e1, e2, e3, e4] at HL HC
  clear hw h1 h2 h3 hm hl hR e1 e2 e3 e4
  by_cases hk : k = 15
  · subst hk
    clear HL HC
    show Calls _ _ _ _ fun x w' => x = .returned (.bool (!gg && decide (n = 0) && decide (s.size = 0))) ∧ _
    cases gg
    · by_cases hn : n = 0
      · subst hn
        by_cases hs : s.size = 0
        · obtain rfl := ba_nil hs
          go_enter Tryz.func220, Tryz.ntmps220
          go_wp2_with fail
          go_ret
          exact ⟨rfl, HE.out.b⟩
        · have hd : decide (s.size = 0) = false := by simpa using hs
          have hne : s ≠ ⟨#[]⟩ := fun h => hs (by rw [h]; rfl)
          have hl1 : s.toList ≠ [] := by rw [ByteArray.toList_eq]; intro h; exact hs (by show s.data.size = 0; rw [← Array.length_toList, h]; rfl)
          have hl2 : s.toList.isEmpty = false := by simpa using hl1
          have hl3 : (s.toList == []) = false := by simpa using hl1
          rw [hd]
          go_enter Tryz.func220, Tryz.ntmps220
          go_wp2_with fail
          go_ret
          exact ⟨rfl, HE.out.b⟩
      · have hd : decide (n = 0) = false := by simpa using hn
        have hn1 : ((n : Int) == 0) = false := by simp; omega
        rw [hd]
        go_enter Tryz.func220, Tryz.ntmps220
        go_wp2_with fail
        go_ret
        exact ⟨rfl, HE.out.b⟩
    · go_enter Tryz.func220, Tryz.ntmps220
      go_wp2_with fail
      go_ret
      exact ⟨rfl, HE.out.b⟩
  · have hk1 : (k == 15) = false := by simpa using hk
    have HK : Hid ((if k = 15 then !gg && decide (n = 0) && decide (s.size = 0) else decide (R = 0)) = ((R : Int) == 0)) := Lib.hid (by rw [if_neg hk]; by_cases h : R = 0 <;> simp [h])
    show Calls _ _ _ _ fun x w' => x = .returned (.bool (if k = 15 then !gg && decide (n = 0) && decide (s.size = 0) else decide (R = 0))) ∧ _
    rw [HK.out]
    clear HK
    go_enter Tryz.func220, Tryz.ntmps220
    go_wp2_with fail
    refine (HL.out _ HE.out).mono ?_
    rintro x w1 ⟨A, c, rfl, hl, hk⟩
    have HL1 := Lib.hid hl
    have HK1 := Lib.hid hk
    clear hl hk
    go_wp2_with fail
    refine (HC.out _ _ HK1.out HL1.out).mono ?_
    rintro x w2 ⟨rfl, hk⟩
    have HK2 := Lib.hid hk
    clear hk
    go_wp2_with fail
    go_ret
    exact ⟨rfl, HK2.out.b⟩
end Go.Proofs.YtpcladdipgchbaaGreatDoor.nn
namespace Go.Proofs.YtpcladdipgchbaaGreatDoor.nn
open Go.RowKit

theorem below_set5o {B g o : Nat} {w W : World} (h : Below B w W) (hg : B ≤ g) (a b c d e : Value) : Below B w (set5 W g o a b c d e) := by
  unfold set5
  exact ((((h.setCell (p := ⟨g, o, none⟩) hg a).setCell (p := ⟨g, o + 1, none⟩) hg b).setCell (p := ⟨g, o + 2, none⟩) hg c).setCell (p := ⟨g, o + 3, none⟩) hg d).setCell (p := ⟨g, o + 4, none⟩) hg e
theorem setCell_comm (w : World) (a b : Addr) (u v : Value) (h : a.block ≠ b.block) : (w.setCell a u).setCell b v = (w.setCell b v).setCell a u := by
  unfold World.setCell
  simp only [World.mk.injEq, and_true]
  apply Array.ext_getElem?
  intro i
  simp only [Array.getElem?_modify]
  by_cases ha : a.block = i
  · have hb : ¬ b.block = i := fun e => h (ha.trans e.symm)
    simp [ha, hb]
  · simp [ha]
theorem set5_comm (w : World) (g o q j : Nat) (a b c d e v : Value) (h : q ≠ g) : set5 (w.setCell ⟨q, j, none⟩ v) g o a b c d e = (set5 w g o a b c d e).setCell ⟨q, j, none⟩ v := by
  unfold set5
  rw [setCell_comm w ⟨q, j, none⟩ ⟨g, o, none⟩ v a h, setCell_comm _ ⟨q, j, none⟩ ⟨g, o + 1, none⟩ v b h, setCell_comm _ ⟨q, j, none⟩ ⟨g, o + 2, none⟩ v c h, setCell_comm _ ⟨q, j, none⟩ ⟨g, o + 3, none⟩ v d h, setCell_comm _ ⟨q, j, none⟩ ⟨g, o + 4, none⟩ v e h]
/-- an append of nothing yet -/
theorem run_zero (F : Nat → Prop) (w : World) (ty : TypeId) (v : Value) (l : List VT) (k : Nat) (hv : Vo F 0 w v l) (hz : Bk w k 25 (vc zt (.slice none 0 0))) (hF : ∀ b, F b → v.ownBlock ≠ some b) (hn : l.length + 1 ≤ 1099511627776) :
    ∃ v' w', (Builtin.append_ #[23, 23] ty #[v, .slice (some ⟨k, 0, none⟩) 1 1]).run Tryz.prog w = .ok v' w' ∧ Vo F 0 w' v' (l ++ [zt]) ∧ w.grownBy w' v.ownBlock ∧ (v'.ownBlock = v.ownBlock ∨ ∃ j, v'.ownBlock = some j ∧ w.heap.size ≤ j) := by
  obtain ⟨i0, hi, hz0, hz1, hz2⟩ : ∃ i0, Tryz.prog.info? 25 = some i0 ∧ i0.zero = some (.agg #[.int .i64 0, .bool false, .int .u64 0, .string ⟨#[]⟩, .slice none 0 0]) ∧ i0.size = 5 ∧ i0.bytes = 64 := info_parts info_val3
  obtain ⟨C, hown, hC⟩ := hv
  have hsrc : Srv F w (some ⟨k, 0, none⟩) [zt] := Srv.one hz .nil_
  obtain ⟨D, hD, hs⟩ := Vo.src hsrc
  rcases hs with hs | ⟨ad, e, hnews⟩
  · cases hs
  · injection e with e
    subst e
    have h1 : ∀ u ∈ rcs D 0 [zt], u.oneCell' = true := rcs_one D [zt] 0 fun j h => by
      obtain ⟨A3, c3, h3, _⟩ := (hD j h).lst.out
      rw [Nat.zero_add]
      exact ⟨_, _, _, h3⟩
    obtain ⟨v', w', hr, ho, hg, _, hat⟩ := run_append_own_at (P := Tryz.prog) w 0 23 ty 25 i0 _ 5 64 Tryz.underlying23 hi hz0 hz1 hz2 rfl (by decide) v l.length (rcs C 0 l) hown ⟨k, 0, none⟩ 1 1 (rcs D 0 [zt]) (rcs_len _ _ _) hnews h1 (by unfold maxLen; omega) (by omega) (Nat.zero_le _)
    have hkeep : ∀ {u : Value} {x : List VT}, Lsf F w u x → Lsf F w' u x := fun {u x} hu => hu.keep hg.size fun b hb hlt => hg.block b hlt fun e => hF b hb e.symm
    refine ⟨v', w', hr, ⟨_, by rw [rcs_both C D l [zt], List.length_append]; exact ho, fun j hj => ?_⟩, hg, hat.imp id fun h => ⟨_, h, Nat.le_refl _⟩⟩
    by_cases h : j < l.length
    · rw [if_pos h, List.getElem_append_left h]
      exact hkeep (hC j h)
    · rw [if_neg h, List.getElem_append_right (by omega)]
      exact hkeep (hD _ _)
theorem step_zero {ops : Array Oper} {o : Oper} {a : Act} {w : World} {K : Act → World → Prop} {Q : Exit → Act → World → Prop} {E : Prop} (hgd : o.guard = none) (s x : Operand)
    (ho : o.op = .call { callee := .builtin .append, args := #[s, x], argTypes := #[23, 23] })
    (F : Nat → Prop) (v : Value) (l : List VT) (k : Nat) (hs : a.eval s = v) (hx : a.eval x = .slice (some ⟨k, 0, none⟩) 1 1) (hv : Vo F 0 w v l) (hz : Bk w k 25 (vc zt (.slice none 0 0))) (hF : ∀ b, F b → v.ownBlock ≠ some b) (hn : l.length + 1 ≤ 1099511627776)
    (h : ∀ v' w', Vo F 0 w' v' (l ++ [zt]) → w.grownBy w' v.ownBlock → (v'.ownBlock = v.ownBlock ∨ ∃ j, v'.ownBlock = some j ∧ w.heap.size ≤ j) → K (a.put o.dst v') w') :
    if Region.wanted o (yielded ops a.tmps) = true then Oper.wp Tryz.prog o a w K Q else E := by
  have hw : Region.wanted o (yielded ops a.tmps) = true := by simp [Region.wanted, hgd]
  rw [if_pos hw]
  obtain ⟨v', w', hr, h1, h2, h3⟩ := run_zero F w o.type v l k hv hz hF hn
  unfold Oper.wp execOp
  simp only [ho, resolve, invoke, builtin, Sem.run_bind, Sem.run_pure, Result.andThen_ok, List.map_toArray, List.map_cons, List.map_nil, hs, hx, hr]
  exact h _ _ h1 h2 h3
/-- the last row of a row of one's own -/
theorem Vo.last {F : Nat → Prop} {w : World} {v : Value} {l : List VT} {m : Nat} (hm : m = l.length) (h : Vo F 0 w v (l ++ [zt])) : ∃ g c D, v = .slice (some ⟨g, 0, none⟩) (m + 1) c ∧ g < w.heap.size ∧ m + 1 ≤ c ∧
    (w.cell? ⟨g, m * 5, none⟩ = some (.int .i64 0) ∧ w.cell? ⟨g, m * 5 + 1, none⟩ = some (.bool false) ∧ w.cell? ⟨g, m * 5 + 2, none⟩ = some (.int .u64 0) ∧ w.cell? ⟨g, m * 5 + 3, none⟩ = some (.string ⟨#[]⟩) ∧ w.cell? ⟨g, m * 5 + 4, none⟩ = some D) ∧
    (w.frozen? ⟨g, m * 5, none⟩ = false ∧ w.frozen? ⟨g, m * 5 + 1, none⟩ = false ∧ w.frozen? ⟨g, m * 5 + 2, none⟩ = false ∧ w.frozen? ⟨g, m * 5 + 3, none⟩ = false ∧ w.frozen? ⟨g, m * 5 + 4, none⟩ = false) := by
  subst hm
  obtain ⟨C, h1, _⟩ := h
  obtain ⟨g, c, rfl, _, hg⟩ := own_blk h1 (by simp)
  have hl : (l ++ [zt]).length = l.length + 1 := by simp
  rw [hl] at h1 ⊢
  have hc : l.length + 1 ≤ c := by
    rcases h1.2 with ⟨h5, _⟩ | ⟨_, _, _, e, _, _, hc, _⟩
    · cases h5
    · injection e with e1 e2 e3; omega
  obtain ⟨r0, r1, r2, r3, r4⟩ := rcs_at C (l ++ [zt]) 0 l.length (by simp)
  have hz : (l ++ [zt])[l.length] = zt := by simp
  rw [hz] at r0 r1 r2 r3
  have hcell : ∀ j u, (rcs C 0 (l ++ [zt]))[j]? = some u → w.cell? ⟨g, j, none⟩ = some u := fun j u hu => by
    have hj : j < (l.length + 1) * 5 := by have := (List.getElem?_eq_some_iff.1 hu).1; rw [rcs_len, hl] at this; exact this
    rw [h1.cellAt j hj]
    exact hu
  exact ⟨g, c, _, rfl, hg, hc, ⟨hcell _ _ r0, hcell _ _ r1, hcell _ _ r2, hcell _ _ r3, hcell _ _ r4⟩, h1.frozenAt _, h1.frozenAt _, h1.frozenAt _, h1.frozenAt _, h1.frozenAt _⟩
theorem list_set5 (A : List Value) (a b c d e x0 x1 x2 x3 x4 : Value) (n : Nat) (hn : n = A.length) : (((((A ++ [a, b, c, d, e]).set n x0).set (n + 1) x1).set (n + 2) x2).set (n + 3) x3).set (n + 4) x4 = A ++ [x0, x1, x2, x3, x4] := by
  subst hn
  simp [List.set_append_right]
theorem Vo.put5 {F : Nat → Prop} {w : World} {g m c : Nat} {l : List VT} {t : VT} {C : Value} (hm : m = l.length) (h : Vo F 0 w (.slice (some ⟨g, 0, none⟩) (m + 1) c) (l ++ [zt])) (hF : ¬ F g) (hC : Lsf F w C t.l) :
    Vo F 0 (set5 w g (m * 5) (.int .i64 t.k) (.bool t.g) (.int .u64 (t.n : Int)) (.string t.s) C) (.slice (some ⟨g, 0, none⟩) (m + 1) c) (l ++ [t]) := by
  subst hm
  obtain ⟨D, h1, h2⟩ := h
  have hl : (l ++ [zt]).length = l.length + 1 := by simp
  have hl2 : (l ++ [t]).length = l.length + 1 := by simp
  have hk : ∀ {u : Value} {x : List VT}, Lsf F w u x → Lsf F (set5 w g (l.length * 5) (.int .i64 t.k) (.bool t.g) (.int .u64 (t.n : Int)) (.string t.s) C) u x := fun {u x} hu => hu.keep (by rw [set5_size]; exact Nat.le_refl _) fun b hb _ => set5_other _ _ _ _ _ _ _ _ b fun e => hF (by rw [← e]; exact hb)
  refine ⟨fun j => if j < l.length then D j else C, ?_, fun j hj => ?_⟩
  · rw [hl] at h1
    rw [hl2]
    have e1 : rcs D 0 (l ++ [zt]) = rcs D 0 l ++ [.int .i64 0, .bool false, .int .u64 0, .string ⟨#[]⟩, D (0 + l.length)] := by rw [rcs_app]; rfl
    have e2 : rcs (fun j => if j < l.length then D j else C) 0 (l ++ [t]) = rcs D 0 l ++ [.int .i64 t.k, .bool t.g, .int .u64 (t.n : Int), .string t.s, C] := by
      rw [rcs_app, rcs_congr (fun j => if j < l.length then D j else C) D l 0 fun j hj => by show (if 0 + j < l.length then _ else _) = _; rw [if_pos (by omega)]]
      show _ ++ [_, _, _, _, (if 0 + l.length < l.length then _ else C)] = _
      rw [if_neg (by omega)]
    rw [e2, ← list_set5 (rcs D 0 l) _ _ _ _ _ _ _ _ _ _ (l.length * 5) (rcs_len _ _ _).symm, ← e1]
    exact (((((h1.stored _ _).1.stored _ _).1.stored _ _).1.stored _ _).1.stored _ _).1
  · rw [hl2] at hj
    by_cases h : j < l.length
    · have := h2 j (by rw [hl]; omega)
      simp only [List.getElem_append_left h, if_pos h] at this ⊢
      exact hk this
    · obtain rfl : j = l.length := by omega
      simp only [Nat.lt_irrefl, if_false, List.getElem_append_right (Nat.le_refl _), Nat.sub_self, List.getElem_cons_zero]
      exact hk hC
/-- a whole value goes in; what was a tag is whole with it -/
def addRb : List VT → VT → List VT | [], _ => [] | p :: r, v => if p.k = 13 then addRb r (p.snoc v) else p.snoc v :: r
/-- at some place there is no tag -/
def Btm : List Rec → Prop | [] => False | r :: D => r.p.k ≠ 13 ∨ Btm D
section
variable {w w3 : World} {g : Nat} {O : Nat → Prop} {K : Nat → Nat} {sv : Value} {D : List Rec} {n most : Nat}
/-- what the stores behind the append leave -/
theorem Rbx.added {r : Rec} {t : VT} {C v' : Value} {o : Obj} {X : World} (h : Rbx w g O K sv (r :: D) n most) (hX : X.heap = (w.alloc o).heap) (hv : Vo (Fz O K) 0 w3 v' (r.p.l ++ [zt])) (hg : X.grownBy w3 r.v.ownBlock) (ho : v'.ownBlock = r.v.ownBlock ∨ ∃ j, v'.ownBlock = some j ∧ X.heap.size ≤ j)
    {gr m c : Nat} (hm : m = r.p.l.length) (e : v' = .slice (some ⟨gr, 0, none⟩) (m + 1) c) (hC : Lsf (Fz O K) w C t.l) {W : World} (hW : W = (set5 w3 gr (m * 5) (.int .i64 t.k) (.bool t.g) (.int .u64 (t.n : Int)) (.string t.s) C).setCell ⟨r.q, 4, none⟩ v') :
    Rbx W g (fun b => O b ∨ (w.heap.size ≤ b ∧ b < W.heap.size)) (fun b => if b < w.heap.size then K b else 4 + 2 * D.length) sv (⟨r.p.snoc t, r.q, v'⟩ :: D) n most ∧ (∀ b, b < w.heap.size → ¬ O b → W.heap[b]? = w.heap[b]?) ∧ w.heap.size ≤ W.heap.size := by
  have hp := h.r.1
  have hq := h.lo _ hp.o.1
  have hsz : X.heap.size = w.heap.size + 1 := by rw [hX]; simp
  have hs3 : W.heap.size = w3.heap.size := by rw [hW, setCell_sz, set5_size]
  have hs0 := hg.size
  have hgr : r.v.ownBlock = some gr ∨ w.heap.size ≤ gr := by
    rcases ho with ho | ⟨j, ho, hj⟩
    · left; rw [← ho, e]; rfl
    · right; rw [e] at ho; have : gr = j := Option.some.inj ho; omega
  have hgq : gr ≠ r.q := by
    rcases hgr with hgr | hgr
    · intro e2
      have h1 := (hp.vo gr hgr).2
      rw [e2, hp.o.2] at h1
      omega
    · omega
  have h3 : ∀ b, b < w.heap.size → r.v.ownBlock ≠ some b → w3.heap[b]? = w.heap[b]? := fun b hb hne => by
    rw [hg.block b (by omega) (fun e2 => hne e2.symm), hX, Below.heap_alloc _ _ _ hb]
  have hk : ∀ b, b < w.heap.size → b ≠ r.q → r.v.ownBlock ≠ some b → W.heap[b]? = w.heap[b]? := fun b hb hbq hne => by
    rw [hW, off_g hbq, set5_other _ _ _ _ _ _ _ _ b (fun e2 => by rcases hgr with hgr | hgr; exact hne (by rw [e2]; exact hgr); omega)]
    exact h3 b hb hne
  have hF : ∀ b, Fz O K b → b ≠ gr := fun b hb e2 => by
    rcases hgr with hgr | hgr
    · have := (hp.vo gr hgr).2; have := hb.2; rw [e2] at this; omega
    · have := h.lo b hb.1; omega
  have hFq : ∀ b, Fz O K b → b ≠ r.q := fun b hb e2 => by have := hb.2; rw [e2, hp.o.2] at this; omega
  have hC3 : Lsf (Fz O K) w3 C t.l := hC.keep (by omega) fun b hb hlt => h3 b hlt fun e2 => by have := (hp.vo b e2).2; have := hb.2; omega
  refine ⟨h.put (by omega) hk rfl ?_ ?_ (ho.imp id fun ⟨j, h1, h2⟩ => ⟨j, h1, by omega⟩), fun b hb hn => hk b hb (fun e2 => hn (by rw [e2]; exact hp.o.1)) fun e2 => hn (hp.vo b e2).1, by omega⟩
  · have hb3 : Bk (set5 w3 gr (m * 5) (.int .i64 t.k) (.bool t.g) (.int .u64 (t.n : Int)) (.string t.s) C) r.q 104 (vc r.p r.v) := by
      unfold Bk
      rw [set5_other _ _ _ _ _ _ _ _ _ (Ne.symm hgq), h3 _ hq fun e2 => by have h1 := (hp.vo _ e2).2; rw [hp.o.2] at h1; omega]
      exact hp.b
    rw [hW]
    exact hb3.set_ 4 v'
  · rw [e] at hv
    have h5 := Vo.put5 (t := t) (C := C) hm hv (fun hf => hF _ hf rfl) hC3
    rw [hW, e]
    exact h5.keep (by rw [setCell_sz]; exact Nat.le_refl _) (fun b hb => off_g fun e2 => by have : gr = b := Option.some.inj hb; omega) fun b hb _ => ⟨off_g (hFq b hb), hb⟩
end
end Go.Proofs.YtpcladdipgchbaaGreatDoor.nn
