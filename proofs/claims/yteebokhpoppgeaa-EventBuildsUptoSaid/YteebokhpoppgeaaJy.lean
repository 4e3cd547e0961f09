/- Joined texts, what is wanted of them: BmMay. -/
import Derived.Deep.RegionWith
import Derived.Deep.RegionHeld3
import Derived.Lib.Hide
import Derived.Deep.QuietTactic
import Derived.BigQuiet
import Derived.StillTailTactics
import Derived.IntWalk
import Derived.Test.YteebokhpoppgeaaProg
import Derived.WalkKit
import Derived.Test.YteebokhpoppgeaaJh
import Derived.Test.YteebokhpoppgeaaJk
import Derived.Test.YteebokhpoppgeaaJb
import Derived.Test.YteebokhpoppgeaaJa
import Derived.Test.YteebokhpoppgeaaJe
import Derived.Test.YteebokhpoppgeaaJc
import Derived.Test.YteebokhpoppgeaaJo
import Derived.Test.YteebokhpoppgeaaJn
import Derived.Test.YteebokhpoppgeaaJx
import Derived.Test.YteebokhpoppgeaaJg
namespace Go.Proofs.Yteebokhpoppgeaa.nn
open Go.RowKit

theorem endOk_last (S : Bst) : endOk S.op = (decide ((lastB S).k = 11) || (decide ((lastB S).k = 12) && decide ((lastB S).l.length % 2 = 0))) := by
  unfold endOk lastB
  cases S.op with
  | nil => simp [VT.k]
  | cons p r => rfl
theorem tag23_last (S : Bst) : tag23 S.op = (decide ((lastB S).k = 13) && (decide ((lastB S).n = 2) || decide ((lastB S).n = 3))) := by
  unfold tag23 lastB
  cases S.op with
  | nil => simp [VT.k]
  | cons p r => rfl
/-- behind the boxes of the event and of what is open innermost -/
structure Mz (w : World) (e : Ev) (p : VT) (C : Value) (b5 : Nat) (W : World) : Prop where
  eb : Eb w e W
  p : Bk W b5 36 #[.int .i64 p.k, .bool p.g, .int .u64 (p.n : Int), .string p.s, C]
theorem Mz.on {w W W' : World} {e : Ev} {p : VT} {C : Value} {b5 : Nat} (h : Mz w e p C b5 W) (hB : Below W.heap.size W W') : Mz w e p C b5 W' := ⟨h.eb.on hB, h.p.below hB h.p.lt⟩
theorem Mz.low {w W W' : World} {e : Ev} {p : VT} {C : Value} {b5 B : Nat} (h : Mz w e p C b5 W) (hB : Below B W W') (h1 : w.heap.size < B) (h2 : b5 < B) : Mz w e p C b5 W' := ⟨⟨h.eb.b.trans (hB.mono (Nat.le_of_lt h1)), h.eb.c.below hB h1⟩, h.p.below hB h2⟩
set_option maxRecDepth 100000 in
set_option maxHeartbeats 6000000 in
theorem rmay_any (S : Bst) (g : Nat) (O : Nat → Prop) (e : Ev) (w : World) (h : Bm w g O S) (hop : S.op.length ≤ 64) (hpl : (lastB S).l.length ≤ 1048577) (hw : wfE e) (hnn : S.n ≤ 65536) (_ : S.most ≤ 64) :
    Calls Try.prog 21 #[.pointer (some ⟨g, 0, none⟩), evv e] w fun x w' => x = .returned (.int .i64 (mayB S e : Int)) ∧ Below w.heap.size w w' := by
  obtain ⟨ho, hlo, A, c, D, hb, hx⟩ := h
  have hg := hlo g ho
  have h : Bm w g O S := ⟨ho, hlo, A, c, D, hb, hx⟩
  have HE := Lib.hid (Eb.new w e)
  have HG : Hid (∀ W, Eb w e W → W.cell? ⟨g, 0, none⟩ = some (.slice A S.op.length c) ∧ W.cell? ⟨g, 1, none⟩ = some (.bool S.v.isSome) ∧ W.cell? ⟨g, 7, none⟩ = some (.int .i64 (S.n : Int)) ∧ W.cell? ⟨g, 8, none⟩ = some (.int .i64 (S.most : Int))) := Lib.hid fun W hW => ⟨(hb.below hW.b hg).cell 0, (hb.below hW.b hg).cell 1, (hb.below hW.b hg).cell 7, (hb.below hW.b hg).cell 8⟩
  have C1 : Hid (∀ W, Eb w e W → Calls Try.prog 22 #[.pointer (some ⟨g, 0, none⟩)] W fun x w' => ∃ A2 c2, x = .returned (vv (lastB S) (.slice A2 (lastB S).l.length c2)) ∧ Eb w e w') := Lib.hid fun W hW => (rlast_any S g O W (h.below hW.b) (by omega)).mono fun x w' ⟨C, hx, hl, hb'⟩ => by
    obtain ⟨A2, c2, rfl, _⟩ := hl.lst.out
    exact ⟨A2, c2, hx, hW.on hb'⟩
  obtain ⟨ga, gsz, gc⟩ := wf_asked hw
  have C2 : Hid (∀ C W, Eb w e W → Lst W C (asked e).l → Calls Try.prog 33 #[vv (asked e) C] W fun x w' => x = .returned (.bool (oneB (asked e))) ∧ Below W.heap.size W w') := Lib.hid fun C W _ hl => rone_any (asked e) C W hl hw.s (by unfold asked; split <;> simp [VT.l])
  have C3 : Hid (∀ W, Calls Try.prog 34 #[.string e.s] W fun x w' => x = .returned (.bool (big e.s)) ∧ W = w') := Lib.hid fun W => rbig_any e.s W
  have C4 : Hid (∀ W, Calls Try.prog 35 #[vv (bare e) (.slice none 0 0)] W fun x w' => x = .returned (.int .i64 (dep (bare e) : Int)) ∧ Below W.heap.size W w') := Lib.hid fun W => rdepth_any 1 (bare e) (.slice none 0 0) W (by show 0 + 1 ≤ 1; omega) (by decide) .nil_
  obtain ⟨R, hR⟩ : ∃ R, mayB S e = R := ⟨_, rfl⟩
  have hm := hR
  unfold mayB at hm
  rw [endOk_last, tag23_last] at hm
  obtain ⟨p, hp⟩ : ∃ p, lastB S = p := ⟨_, rfl⟩
  obtain ⟨sv, hsv⟩ : ∃ b, S.v.isSome = b := ⟨_, rfl⟩
  obtain ⟨dl, hdl⟩ : ∃ d, S.op.length = d := ⟨_, rfl⟩
  obtain ⟨nn, hnn2⟩ : ∃ d, S.n = d := ⟨_, rfl⟩
  obtain ⟨ms, hms⟩ : ∃ d, S.most = d := ⟨_, rfl⟩
  obtain ⟨dp, hdp⟩ : ∃ d, dep (bare e) = d := ⟨_, rfl⟩
  obtain ⟨ob, hob⟩ : ∃ d, oneB (asked e) = d := ⟨_, rfl⟩
  obtain ⟨bg, hbg⟩ : ∃ d, big e.s = d := ⟨_, rfl⟩
  rw [hp] at C1 hm hpl
  rw [hsv, hdl, hnn2, hms, hdp, hob, hbg] at hm
  rw [hsv, hdl, hnn2, hms] at HG
  rw [hob] at C2
  rw [hbg] at C3
  rw [hdp] at C4
  rw [hdl] at hop
  rw [hnn2] at hnn
  rw [hR]
  have hdp1 : dp ≤ 1 := by
    rw [← hdp, dep_bare]
    split
    · exact Nat.le_refl _
    · split
      · exact Nat.zero_le _
      · exact Nat.le_refl _
  obtain ⟨pl, hpll⟩ : ∃ d, p.l.length = d := ⟨_, rfl⟩
  rw [hpll] at C1 hm hpl
  have hasl : (asked e).l = if e.k = 13 then [emp] else [] := rfl
  rw [hasl] at C2
  obtain ⟨k, gg, n, s⟩ := e
  unfold vv evv at *
  have e1 : (asked ⟨k, gg, n, s⟩).k = k := rfl
  have e2 : (asked ⟨k, gg, n, s⟩).g = gg := rfl
  have e3 : (asked ⟨k, gg, n, s⟩).n = n := rfl
  have e4 : (asked ⟨k, gg, n, s⟩).s = s := rfl
  have e5 : (bare ⟨k, gg, n, s⟩).k = k := rfl
  have e6 : (bare ⟨k, gg, n, s⟩).g = gg := rfl
  have e7 : (bare ⟨k, gg, n, s⟩).n = n := rfl
  have e8 : (bare ⟨k, gg, n, s⟩).s = s := rfl
  rw [e1, e2, e3, e4] at C2
  rw [e5, e6, e7, e8] at C4
  dsimp only at hm C1 C2 C3 C4
  have HM := Lib.hid hm
  clear hw h ho hlo hb hx hg hR hm hp hsv hdl hnn2 hms hdp hob hbg hpll hasl e1 e2 e3 e4 e5 e6 e7 e8 ga gsz gc
  cases sv
  · have hm := HM.out
    rw [if_neg (by simp)] at hm
    have HM1 := Lib.hid hm
    clear hm HM
    obtain ⟨c0, c1, c2, c3⟩ := HE.out.cells
    obtain ⟨g0, g1, g7, g8⟩ := HG.out _ HE.out
    go_enter Try.func21, Try.ntmps21
    go_wp2_with fail
    refine (C1.out _ HE.out).mono ?_
    rintro x w2 ⟨A2, c2', rfl, hk2⟩
    obtain ⟨W3, hW3⟩ : ∃ W3, w2.alloc (.cells #[.int .i64 p.k, .bool p.g, .int .u64 (p.n : Int), .string p.s, .slice A2 pl c2'] 36) = W3 := ⟨_, rfl⟩
    have HZ : Hid (Mz w ⟨k, gg, n, s⟩ p (.slice A2 pl c2') w2.heap.size W3) := Lib.hid ⟨by rw [← hW3]; exact hk2.on ((Below.refl _ _).alloc (Nat.le_refl _) _), by rw [← hW3]; exact heap_alloc_last _ _⟩
    clear hk2 c0 c1 c2 c3 g0 g1 g7 g8 C1
    go_upto_region 4 with fail

    clear hW3
    obtain ⟨c0, c1, c2, c3⟩ := HZ.out.eb.cells
    obtain ⟨p0, p1, p2, p3, p4⟩ := HZ.out.p.c5
    by_cases k15 : k = 15
    · subst k15
      have hm := HM1.out
      rw [if_pos rfl] at hm
      clear HM1 C2 C3 C4 HG HE
      cases gg
      · by_cases hn : n = 0
        · subst hn
          by_cases hs : s.size = 0
          · obtain rfl := ba_nil hs
            have hd : decide (ByteArray.size ⟨#[]⟩ = 0) = true := rfl
            by_cases h11 : p.k = 11
            · have e11 : (p.k == 11) = true := by simpa using h11
              obtain rfl : 0 = R := by rw [← hm, if_pos ⟨⟨rfl, rfl, rfl⟩, by simp [h11]⟩]
              clear hm h11 hs
              go_wp2_with fail
              go_ret
              exact ⟨rfl, HZ.out.eb.b⟩
            · have e11 : (p.k == 11) = false := by simpa using h11
              by_cases h12 : p.k = 12
              · have e12 : (p.k == 12) = true := by simpa using h12
                have hmod : (pl : Int).tmod 2 = ((pl % 2 : Nat) : Int) := by rw [Int.tmod_eq_emod_of_nonneg (by omega)]; omega
                have hmod2 : (pl : Int) % 2 = (pl : Int).tmod 2 := (Int.tmod_eq_emod_of_nonneg (by omega)).symm
                have hw2 : IntKind.i64.wrap (((pl % 2 : Nat) : Int)) = ((pl % 2 : Nat) : Int) := IntWalk.i64_in _ ⟨by omega, by omega⟩
                obtain ⟨r, hr⟩ : ∃ r, pl % 2 = r := ⟨_, rfl⟩
                have hr2 : r = 0 ∨ r = 1 := by omega
                have hRv : R = if r = 0 then 0 else 4 := by rw [← hm, h12, hr]; have hz : (⟨#[]⟩ : ByteArray).size = 0 := rfl; rw [hz]; by_cases h0 : r = 0 <;> simp [h0]
                rw [hr] at hmod hw2
                rw [hmod] at hmod2
                clear hm h11 h12 hs hr
                rcases hr2 with rfl | rfl
                · obtain rfl : R = 0 := hRv
                  go_wp2_with fail
                  go_ret
                  exact ⟨rfl, HZ.out.eb.b⟩
                · obtain rfl : R = 4 := hRv
                  go_wp2_with fail
                  go_ret
                  exact ⟨rfl, HZ.out.eb.b⟩
              · have e12 : (p.k == 12) = false := by simpa using h12
                obtain rfl : 4 = R := by rw [← hm, if_neg (by simp [h11, h12])]
                clear hm h11 h12 hs
                go_wp2_with fail
                go_ret
                exact ⟨rfl, HZ.out.eb.b⟩
          · have hl1 : s.toList ≠ [] := by rw [ByteArray.toList_eq]; intro h; exact hs (by show s.data.size = 0; rw [← Array.length_toList, h]; rfl)
            have hl2 : s.toList.isEmpty = false := by simpa using hl1
            have hl3 : (s.toList == []) = false := by simpa using hl1
            obtain rfl : 4 = R := by rw [← hm, if_neg (by intro hh; exact hs hh.1.2.2)]
            clear hm hs
            go_wp2_with fail
            go_ret
            exact ⟨rfl, HZ.out.eb.b⟩
        · have hn1 : ((n : Int) == 0) = false := by simp; omega
          obtain rfl : 4 = R := by rw [← hm, if_neg (by intro hh; exact hn hh.1.2.1)]
          clear hm hn
          go_wp2_with fail
          go_ret
          exact ⟨rfl, HZ.out.eb.b⟩
      · obtain rfl : 4 = R := by rw [← hm, if_neg (by intro hh; cases hh.1.1)]
        clear hm
        go_wp2_with fail
        go_ret
        exact ⟨rfl, HZ.out.eb.b⟩
    · have e15 : (k == 15) = false := by simpa using k15
      have hm := HM1.out
      rw [if_neg k15] at hm
      have HM2 := Lib.hid hm
      clear HM1 hm k15
      obtain ⟨BS, hBS⟩ : ∃ l : List VT, (if k = 13 then [emp] else []) = l := ⟨_, rfl⟩
      rw [hBS] at C2
      obtain ⟨bx, hbx⟩ : ∃ b, W3.heap.size = b := ⟨_, rfl⟩
      have HBX : Hid (w.heap.size < bx ∧ w2.heap.size < bx) := Lib.hid (by rw [← hbx]; exact ⟨HZ.out.eb.c.lt, HZ.out.p.lt⟩)
      go_upto_region 10 with fail
      obtain ⟨W4, hW4⟩ : ∃ W4, W3.alloc (.cells #[.int .i64 k, .bool gg, .int .u64 (n : Int), .string s, .slice none 0 0] 36) = W4 := ⟨_, rfl⟩
      rw [hW4]
      have HZ4 : Hid (Mz w ⟨k, gg, n, s⟩ p (.slice A2 pl c2') w2.heap.size W4) := Lib.hid (by rw [← hW4]; exact HZ.out.on ((Below.refl _ _).alloc (Nat.le_refl _) _))
      have HK4 : Hid (Bk W4 bx 36 #[.int .i64 k, .bool gg, .int .u64 (n : Int), .string s, .slice none 0 0]) := Lib.hid (by rw [← hW4, ← hbx]; exact heap_alloc_last _ _)
      have HB34 : Hid (Below W3.heap.size W3 W4) := Lib.hid (by rw [← hW4]; exact (Below.refl _ _).alloc (Nat.le_refl _) _)
      clear hW4 c0 c1 c2 c3 p0 p1 p2 p3 p4
      obtain ⟨v0, v1, v2, v3, v4⟩ := HK4.out.c5
      have vf4 := HK4.out.frozen 4
      go_upto_if 50 with fail
      go_cut [7] (fun s7 wx => s7 = .pointer (some ⟨bx, 0, none⟩) ∧ Hid (∃ A9 c9, Mz w ⟨k, gg, n, s⟩ p (.slice A2 pl c2') w2.heap.size wx ∧ Bk wx bx 36 #[.int .i64 k, .bool gg, .int .u64 (n : Int), .string s, .slice A9 BS.length c9] ∧ Lst wx (.slice A9 BS.length c9) BS))
      case first =>
        by_cases h13 : k = 13
        · rw [if_pos h13] at hBS
          subst hBS
          have hk5 := HK4.out.below ((Below.refl W4.heap.size W4).alloc (Nat.le_refl _) (.cells #[.int .i64 0, .bool false, .int .u64 0, .string ⟨#[]⟩, .slice none 0 0] 36)) HK4.out.lt
          obtain ⟨u0, u1, u2, u3, u4⟩ := hk5.c5
          have uf4 := hk5.frozen 4
          have HFIN : Hid (∃ A9 c9, Mz w ⟨k, gg, n, s⟩ p (.slice A2 pl c2') w2.heap.size ((W4.alloc (.cells #[.int .i64 0, .bool false, .int .u64 0, .string ⟨#[]⟩, .slice none 0 0] 36)).setCell ⟨bx, 4, none⟩ (.slice (some ⟨W4.heap.size, 0, none⟩) 1 1)) ∧ Bk ((W4.alloc (.cells #[.int .i64 0, .bool false, .int .u64 0, .string ⟨#[]⟩, .slice none 0 0] 36)).setCell ⟨bx, 4, none⟩ (.slice (some ⟨W4.heap.size, 0, none⟩) 1 1)) bx 36 #[.int .i64 k, .bool gg, .int .u64 (n : Int), .string s, .slice A9 [emp].length c9] ∧ Lst ((W4.alloc (.cells #[.int .i64 0, .bool false, .int .u64 0, .string ⟨#[]⟩, .slice none 0 0] 36)).setCell ⟨bx, 4, none⟩ (.slice (some ⟨W4.heap.size, 0, none⟩) 1 1)) (.slice A9 [emp].length c9) [emp]) := Lib.hid (by
            have hlt := HK4.out.lt
            have hB : Below bx W4 ((W4.alloc (.cells #[.int .i64 0, .bool false, .int .u64 0, .string ⟨#[]⟩, .slice none 0 0] 36)).setCell ⟨bx, 4, none⟩ (.slice (some ⟨W4.heap.size, 0, none⟩) 1 1)) := ((Below.refl bx W4).alloc (by omega) _).setCell (p := ⟨bx, 4, none⟩) (Nat.le_refl _) _
            have hrow : Bk ((W4.alloc (.cells #[.int .i64 0, .bool false, .int .u64 0, .string ⟨#[]⟩, .slice none 0 0] 36)).setCell ⟨bx, 4, none⟩ (.slice (some ⟨W4.heap.size, 0, none⟩) 1 1)) W4.heap.size 36 #[.int .i64 0, .bool false, .int .u64 0, .string ⟨#[]⟩, .slice none 0 0] := by
              unfold Bk
              rw [Below.heap_setCell _ ⟨bx, 4, none⟩ _ _ (by show W4.heap.size ≠ bx; omega)]
              exact heap_alloc_last _ _
            refine ⟨some ⟨W4.heap.size, 0, none⟩, 1, HZ4.out.low hB HBX.out.1 HBX.out.2, hk5.set_ 4 _, .at_ (C := fun _ => .slice none 0 0) rfl (Nat.le_refl _) hrow.lt (fun i hi => ?_) fun i hi => ?_⟩
            · obtain rfl : i = 0 := by simpa using hi
              exact ⟨hrow.cell 0, hrow.cell 1, hrow.cell 2, hrow.cell 3, hrow.cell 4⟩
            · obtain rfl : i = 0 := by simpa using hi
              exact .nil_)
          have hk13 : (k == 13) = true := by simpa using h13
          clear hk5 h13
          go_wp2_with fail
          go_meet
          exact ⟨rfl, HFIN⟩
        · have e13 : (k == 13) = false := by simpa using h13
          rw [if_neg h13] at hBS
          subst hBS
          go_wp2_with fail
          go_meet
          exact ⟨rfl, Lib.hid ⟨none, 0, HZ4.out, HK4.out, .nil_⟩⟩
      case rest =>
        obtain ⟨rfl, HC⟩ := hcut
        obtain ⟨A9, c9, m1, m2, m3⟩ := HC.out
        obtain ⟨bl, hbl⟩ : ∃ l, BS.length = l := ⟨_, rfl⟩
        rw [hbl] at m2 m3
        have HM1 := Lib.hid (And.intro m1 (And.intro m2 m3))
        obtain ⟨v0, v1, v2, v3, v4⟩ := m2.c5
        clear m1 m2 m3 HC HK4 HZ4 HB34 hbl hBS hbx
        have C2' := Lib.hid (C2.out _ wc HM1.out.1.eb HM1.out.2.2)
        clear C2
        obtain ⟨q13, hq13⟩ : ∃ b, decide (p.k = 13) = b := ⟨_, rfl⟩
        obtain ⟨q2, hq2⟩ : ∃ b, decide (p.n = 2) = b := ⟨_, rfl⟩
        obtain ⟨q3, hq3⟩ : ∃ b, decide (p.n = 3) = b := ⟨_, rfl⟩
        obtain ⟨q9, hq9⟩ : ∃ b, decide (k = 9) = b := ⟨_, rfl⟩
        have e13 : (p.k == 13) = q13 := by rw [← hq13]; exact kIs
        have e2 : ((p.n : Int) == 2) = q2 := by rw [← hq2, kIs]; exact decide_eq_decide.2 (by omega)
        have e3 : ((p.n : Int) == 3) = q3 := by rw [← hq3, kIs]; exact decide_eq_decide.2 (by omega)
        have e9 : (k == 9) = q9 := by rw [← hq9]; exact kIs
        have hm2 := HM2.out
        rw [hq13, hq2, hq3] at hm2
        have HM3 : Hid ((!ob || (q13 && (q2 || q3) && q9 && bg)) = true → R = 4) := Lib.hid fun hh => by
          rw [← hm2, if_pos]
          have h9 : q9 = true → k = 9 := fun h => by rw [← hq9] at h; exact of_decide_eq_true h
          cases ob
          · exact .inl rfl
          · right
            cases q13 <;> cases q2 <;> cases q3 <;> cases q9 <;> cases bg <;> simp_all
        have HM4 : Hid ((!ob || (q13 && (q2 || q3) && q9 && bg)) = false → R = if ms < dl + dp ∨ 65536 ≤ nn then 8 else 0) := Lib.hid fun hh => by
          rw [← hm2, if_neg]
          have h9 : k = 9 → q9 = true := fun h => by rw [← hq9]; exact decide_eq_true h
          rintro (h | ⟨h1, h2, h3⟩)
          · rw [h] at hh; cases hh
          · rw [h9 h2, h3] at hh
            cases ob <;> cases q13 <;> cases q2 <;> cases q3 <;> simp_all
        clear hm2 HM2 hq13 hq2 hq3 hq9
        obtain ⟨B, hB⟩ : ∃ B, (!ob || (q13 && (q2 || q3) && q9 && bg)) = B := ⟨_, rfl⟩
        rw [hB] at HM3 HM4
        have HBB := Lib.hid hB
        clear hB
        go_upto_region 12 with fail
        go_cut [81] (fun s81 wx => s81 = .bool B ∧ Hid (Mz w ⟨k, gg, n, s⟩ p (.slice A2 pl c2') w2.heap.size wx ∧ Bk wx bx 36 #[.int .i64 k, .bool gg, .int .u64 (n : Int), .string s, .slice A9 bl c9]))
        case first =>
          clear HM3 HM4
          go_wp2_with fail
          with_reducible refine C2'.out.mono ?_
          rintro x w6 ⟨rfl, hb6⟩
          have HM6 := Lib.hid (And.intro (HM1.out.1.on hb6) (HM1.out.2.1.below hb6 HM1.out.2.1.lt))
          obtain ⟨c0, c1, c2, c3⟩ := HM6.out.1.eb.cells
          obtain ⟨p0, p1, p2, p3, p4⟩ := HM6.out.1.p.c5
          clear hb6 v0 v1 v2 v3 v4 C2' HM1
          cases ob
          · go_wp2_with fail
            go_meet
            exact ⟨congrArg Value.bool HBB.out, HM6⟩
          · cases q13
            · go_wp2_with fail
              go_meet
              exact ⟨congrArg Value.bool HBB.out, HM6⟩
            · cases q2
              · cases q3
                · go_wp2_with fail
                  go_meet
                  exact ⟨congrArg Value.bool HBB.out, HM6⟩
                · cases q9
                  · go_wp2_with fail
                    go_meet
                    exact ⟨congrArg Value.bool HBB.out, HM6⟩
                  · go_wp2_with fail
                    refine (C3.out _).mono ?_
                    rintro x w7 ⟨rfl, rfl⟩
                    cases bg
                    all_goals
                      go_wp2_with fail
                      go_meet
                      exact ⟨congrArg Value.bool HBB.out, HM6⟩
              · cases q9
                · go_wp2_with fail
                  go_meet
                  exact ⟨congrArg Value.bool HBB.out, HM6⟩
                · go_wp2_with fail
                  refine (C3.out _).mono ?_
                  rintro x w7 ⟨rfl, rfl⟩
                  cases bg
                  all_goals
                    go_wp2_with fail
                    go_meet
                    exact ⟨congrArg Value.bool HBB.out, HM6⟩
        case rest =>
          obtain ⟨rfl, HC2⟩ := hcut
          clear v0 v1 v2 v3 v4 C2' C3 HM1
          obtain ⟨m1, m2⟩ := HC2.out
          cases B with
          | true =>
            obtain rfl : R = 4 := HM3.out rfl
            have HD := Lib.hid m1.eb.b
            clear m1 m2 HC2 HM3 HM4 HBB HG HE C4
            go_wp2_with fail
            go_ret
            exact ⟨rfl, HD.out⟩
          | false =>
            have hR := HM4.out rfl
            have vf4 := m2.frozen 4
            obtain ⟨v0, v1, v2, v3, v4⟩ := m2.c5
            clear HM3 HM4 HBB
            go_upto_region 15 with fail
            obtain ⟨W5, hW5⟩ : ∃ W5, wc.setCell ⟨bx, 4, none⟩ (.slice none 0 0) = W5 := ⟨_, rfl⟩
            rw [hW5]
            have HF5 : Hid (Mz w ⟨k, gg, n, s⟩ p (.slice A2 pl c2') w2.heap.size W5 ∧ Bk W5 bx 36 #[.int .i64 k, .bool gg, .int .u64 (n : Int), .string s, .slice none 0 0]) := Lib.hid (by
              rw [← hW5]
              exact ⟨m1.low ((Below.refl bx _).setCell (p := ⟨bx, 4, none⟩) (Nat.le_refl _) _) HBX.out.1 HBX.out.2, m2.set_ 4 _⟩)
            have HS : Hid (∀ W, (Mz w ⟨k, gg, n, s⟩ p (.slice A2 pl c2') w2.heap.size W ∧ Bk W bx 36 #[.int .i64 k, .bool gg, .int .u64 (n : Int), .string s, .slice none 0 0]) → W.cell? ⟨g, 0, none⟩ = some (.slice A dl c) ∧ W.cell? ⟨g, 7, none⟩ = some (.int .i64 (nn : Int)) ∧ W.cell? ⟨g, 8, none⟩ = some (.int .i64 (ms : Int)) ∧ W.cell? ⟨bx, 0, none⟩ = some (.int .i64 k) ∧ W.cell? ⟨bx, 1, none⟩ = some (.bool gg) ∧ W.cell? ⟨bx, 2, none⟩ = some (.int .u64 (n : Int)) ∧ W.cell? ⟨bx, 3, none⟩ = some (.string s) ∧ W.cell? ⟨bx, 4, none⟩ = some (.slice none 0 0) ∧ (Mz w ⟨k, gg, n, s⟩ p (.slice A2 pl c2') w2.heap.size W ∧ Bk W bx 36 #[.int .i64 k, .bool gg, .int .u64 (n : Int), .string s, .slice none 0 0])) := Lib.hid fun W hW => by
              obtain ⟨g0, _, g7, g8⟩ := HG.out W hW.1.eb
              obtain ⟨u0, u1, u2, u3, u4⟩ := hW.2.c5
              exact ⟨g0, g7, g8, u0, u1, u2, u3, u4, hW⟩
            have hst := HS.out W5 HF5.out
            have HSK : Hid (∀ W W', W.cell? ⟨g, 0, none⟩ = some (.slice A dl c) ∧ W.cell? ⟨g, 7, none⟩ = some (.int .i64 (nn : Int)) ∧ W.cell? ⟨g, 8, none⟩ = some (.int .i64 (ms : Int)) ∧ W.cell? ⟨bx, 0, none⟩ = some (.int .i64 k) ∧ W.cell? ⟨bx, 1, none⟩ = some (.bool gg) ∧ W.cell? ⟨bx, 2, none⟩ = some (.int .u64 (n : Int)) ∧ W.cell? ⟨bx, 3, none⟩ = some (.string s) ∧ W.cell? ⟨bx, 4, none⟩ = some (.slice none 0 0) ∧ (Mz w ⟨k, gg, n, s⟩ p (.slice A2 pl c2') w2.heap.size W ∧ Bk W bx 36 #[.int .i64 k, .bool gg, .int .u64 (n : Int), .string s, .slice none 0 0]) → Below W.heap.size W W' → W'.cell? ⟨g, 0, none⟩ = some (.slice A dl c) ∧ W'.cell? ⟨g, 7, none⟩ = some (.int .i64 (nn : Int)) ∧ W'.cell? ⟨g, 8, none⟩ = some (.int .i64 (ms : Int)) ∧ W'.cell? ⟨bx, 0, none⟩ = some (.int .i64 k) ∧ W'.cell? ⟨bx, 1, none⟩ = some (.bool gg) ∧ W'.cell? ⟨bx, 2, none⟩ = some (.int .u64 (n : Int)) ∧ W'.cell? ⟨bx, 3, none⟩ = some (.string s) ∧ W'.cell? ⟨bx, 4, none⟩ = some (.slice none 0 0) ∧ (Mz w ⟨k, gg, n, s⟩ p (.slice A2 pl c2') w2.heap.size W' ∧ Bk W' bx 36 #[.int .i64 k, .bool gg, .int .u64 (n : Int), .string s, .slice none 0 0])) := Lib.hid fun W W' hW hb => HS.out W' ⟨hW.2.2.2.2.2.2.2.2.1.on hb, hW.2.2.2.2.2.2.2.2.2.below hb hW.2.2.2.2.2.2.2.2.2.lt⟩
            have HSB : Hid (∀ W, W.cell? ⟨g, 0, none⟩ = some (.slice A dl c) ∧ W.cell? ⟨g, 7, none⟩ = some (.int .i64 (nn : Int)) ∧ W.cell? ⟨g, 8, none⟩ = some (.int .i64 (ms : Int)) ∧ W.cell? ⟨bx, 0, none⟩ = some (.int .i64 k) ∧ W.cell? ⟨bx, 1, none⟩ = some (.bool gg) ∧ W.cell? ⟨bx, 2, none⟩ = some (.int .u64 (n : Int)) ∧ W.cell? ⟨bx, 3, none⟩ = some (.string s) ∧ W.cell? ⟨bx, 4, none⟩ = some (.slice none 0 0) ∧ (Mz w ⟨k, gg, n, s⟩ p (.slice A2 pl c2') w2.heap.size W ∧ Bk W bx 36 #[.int .i64 k, .bool gg, .int .u64 (n : Int), .string s, .slice none 0 0]) → Below w.heap.size w W) := Lib.hid fun W hW => hW.2.2.2.2.2.2.2.2.1.eb.b
            have HSD : Hid (∀ W, W.cell? ⟨g, 0, none⟩ = some (.slice A dl c) ∧ W.cell? ⟨g, 7, none⟩ = some (.int .i64 (nn : Int)) ∧ W.cell? ⟨g, 8, none⟩ = some (.int .i64 (ms : Int)) ∧ W.cell? ⟨bx, 0, none⟩ = some (.int .i64 k) ∧ W.cell? ⟨bx, 1, none⟩ = some (.bool gg) ∧ W.cell? ⟨bx, 2, none⟩ = some (.int .u64 (n : Int)) ∧ W.cell? ⟨bx, 3, none⟩ = some (.string s) ∧ W.cell? ⟨bx, 4, none⟩ = some (.slice none 0 0) ∧ (Mz w ⟨k, gg, n, s⟩ p (.slice A2 pl c2') w2.heap.size W ∧ Bk W bx 36 #[.int .i64 k, .bool gg, .int .u64 (n : Int), .string s, .slice none 0 0]) → W.drew.cell? ⟨g, 0, none⟩ = some (.slice A dl c) ∧ W.drew.cell? ⟨g, 7, none⟩ = some (.int .i64 (nn : Int)) ∧ W.drew.cell? ⟨g, 8, none⟩ = some (.int .i64 (ms : Int)) ∧ W.drew.cell? ⟨bx, 0, none⟩ = some (.int .i64 k) ∧ W.drew.cell? ⟨bx, 1, none⟩ = some (.bool gg) ∧ W.drew.cell? ⟨bx, 2, none⟩ = some (.int .u64 (n : Int)) ∧ W.drew.cell? ⟨bx, 3, none⟩ = some (.string s) ∧ W.drew.cell? ⟨bx, 4, none⟩ = some (.slice none 0 0) ∧ (Mz w ⟨k, gg, n, s⟩ p (.slice A2 pl c2') w2.heap.size W.drew ∧ Bk W.drew bx 36 #[.int .i64 k, .bool gg, .int .u64 (n : Int), .string s, .slice none 0 0])) := Lib.hid fun W hW => HSK.out W _ hW (Below.refl _ _).drew
            obtain ⟨Y, hY⟩ : ∃ Y, decide (ms < dl + dp ∨ 65536 ≤ nn) = Y := ⟨_, rfl⟩
            have HY := Lib.hid hY
            have HR := Lib.hid hR
            clear hR hY m1 m2 HC2 hW5 vf4 v0 v1 v2 v3 v4 HG HE HBX HF5
            go_cut [102] (fun s102 wx => s102 = .bool Y ∧ Hid (Below w.heap.size w wx))
            case first =>
              have hws : IntKind.i64.wrap ((dl : Int) + (dp : Int)) = (dl : Int) + (dp : Int) := IntWalk.i64_in _ ⟨by omega, by omega⟩
              by_cases h1 : ms < dl + dp
              · have h1' : (ms : Int) < (dl : Int) + (dp : Int) := by omega
                have h1d : decide ((ms : Int) < (dl : Int) + (dp : Int)) = true := decide_eq_true h1'
                have HT : Hid (Y = true) := Lib.hid (by rw [← HY.out]; exact decide_eq_true (.inl h1))
                have HDR := Lib.hid (HSD.out W5 hst)
                obtain ⟨d0, d7, d8, u0, u1, u2, u3, u4, _⟩ := HDR.out
                clear hst HS HSD HSB h1 HR HY
                first
                  | go_region_with ((go_at_call 35; (with_reducible refine (C4.out _).mono ?_); rintro x w9 ⟨rfl, hb9⟩; obtain ⟨y0, y7, y8, z0, z1, z2, z3, z4, yF⟩ := HSK.out _ _ HDR.out hb9))
                  | done
                all_goals
                  go_wp2_with fail
                  go_meet
                  exact ⟨by first | (rw [HT.out]; done) | (rw [HT.out]; rfl) | (rw [HT.out]; simp; omega), Lib.hid yF.1.eb.b⟩
              · have h1' : ¬ (ms : Int) < (dl : Int) + (dp : Int) := by omega
                have h1d : decide ((ms : Int) < (dl : Int) + (dp : Int)) = false := decide_eq_false h1'
                by_cases h2 : (65536 : Int) ≤ (nn : Int)
                · have HT : Hid (Y = true) := Lib.hid (by rw [← HY.out]; exact decide_eq_true (.inr (by omega)))
                  clear h1
                  go_region_held3 (fun W => W.cell? ⟨g, 0, none⟩ = some (.slice A dl c) ∧ W.cell? ⟨g, 7, none⟩ = some (.int .i64 (nn : Int)) ∧ W.cell? ⟨g, 8, none⟩ = some (.int .i64 (ms : Int)) ∧ W.cell? ⟨bx, 0, none⟩ = some (.int .i64 k) ∧ W.cell? ⟨bx, 1, none⟩ = some (.bool gg) ∧ W.cell? ⟨bx, 2, none⟩ = some (.int .u64 (n : Int)) ∧ W.cell? ⟨bx, 3, none⟩ = some (.string s) ∧ W.cell? ⟨bx, 4, none⟩ = some (.slice none 0 0) ∧ (Mz w ⟨k, gg, n, s⟩ p (.slice A2 pl c2') w2.heap.size W ∧ Bk W bx 36 #[.int .i64 k, .bool gg, .int .u64 (n : Int), .string s, .slice none 0 0]))
                      (first | with_reducible exact HSK.out _ _ ‹_› ‹_› | with_reducible exact HSD.out _ ‹_› | with_reducible assumption)
                      (first
                        | (go_at_call 35
                           refine (C4.out _).mono ?_
                           rintro x w9 ⟨rfl, hb9⟩))
                  all_goals
                    go_wp2_with fail
                    go_meet
                    exact ⟨by first | (rw [HT.out]; done) | (rw [HT.out]; rfl) | (rw [HT.out]; simp; omega), Lib.hid (HSB.out _ ‹_›)⟩
                · have HT : Hid (Y = false) := Lib.hid (by rw [← HY.out]; exact decide_eq_false (by omega))
                  clear h1
                  go_region_held3 (fun W => W.cell? ⟨g, 0, none⟩ = some (.slice A dl c) ∧ W.cell? ⟨g, 7, none⟩ = some (.int .i64 (nn : Int)) ∧ W.cell? ⟨g, 8, none⟩ = some (.int .i64 (ms : Int)) ∧ W.cell? ⟨bx, 0, none⟩ = some (.int .i64 k) ∧ W.cell? ⟨bx, 1, none⟩ = some (.bool gg) ∧ W.cell? ⟨bx, 2, none⟩ = some (.int .u64 (n : Int)) ∧ W.cell? ⟨bx, 3, none⟩ = some (.string s) ∧ W.cell? ⟨bx, 4, none⟩ = some (.slice none 0 0) ∧ (Mz w ⟨k, gg, n, s⟩ p (.slice A2 pl c2') w2.heap.size W ∧ Bk W bx 36 #[.int .i64 k, .bool gg, .int .u64 (n : Int), .string s, .slice none 0 0]))
                      (first | with_reducible exact HSK.out _ _ ‹_› ‹_› | with_reducible exact HSD.out _ ‹_› | with_reducible assumption)
                      (first
                        | (go_at_call 35
                           refine (C4.out _).mono ?_
                           rintro x w9 ⟨rfl, hb9⟩))
                  all_goals
                    go_wp2_with fail
                    go_meet
                    exact ⟨by first | (rw [HT.out]; done) | (rw [HT.out]; rfl) | (rw [HT.out]; simp; omega), Lib.hid (HSB.out _ ‹_›)⟩
            case rest =>
              obtain ⟨rfl, HB9⟩ := hcut
              cases Y with
              | true =>
                obtain rfl : R = 8 := by rw [HR.out, if_pos (of_decide_eq_true HY.out)]
                clear hst HS HSK HSD HSB HR HY C4
                go_wp2_with fail
                go_ret
                exact ⟨rfl, HB9.out⟩
              | false =>
                obtain rfl : R = 0 := by rw [HR.out, if_neg (of_decide_eq_false HY.out)]
                clear hst HS HSK HSD HSB HR HY C4
                go_wp2_with fail
                go_ret
                exact ⟨rfl, HB9.out⟩
  · have hm := HM.out
    rw [if_pos rfl] at hm
    subst hm
    obtain ⟨c0, c1, c2, c3⟩ := HE.out.cells
    obtain ⟨g0, g1, g7, g8⟩ := HG.out _ HE.out
    go_enter Try.func21, Try.ntmps21
    go_wp2_with fail
    go_ret
    exact ⟨rfl, HE.out.b⟩
end Go.Proofs.Yteebokhpoppgeaa.nn
