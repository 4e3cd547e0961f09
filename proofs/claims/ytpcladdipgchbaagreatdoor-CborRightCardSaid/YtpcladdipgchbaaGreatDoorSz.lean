/- Joined texts, what is wanted of them: RbPutW, RbVal, RbTree. -/
import Derived.Test.YtpcladdipgchbaaGreatDoorProg
import Derived.WalkKit
import Derived.Lib.Hide
import Derived.WalkSpells
import Derived.Deep.QuietTactic
import Derived.BigQuiet
import Derived.Deep.RegionHeld3
import Derived.Laws.BitsAllLaws
import Derived.Test.YtpcladdipgchbaaGreatDoorShelf
import Derived.Deep.RegionWith
import Derived.IntWalk
import Derived.Deep.CutBlock
import Derived.StillTailTactics
import Derived.Test.YtpcladdipgchbaaGreatDoorSi
import Derived.Test.YtpcladdipgchbaaGreatDoorSf
import Derived.Test.YtpcladdipgchbaaGreatDoorSe
import Derived.Test.YtpcladdipgchbaaGreatDoorSb
import Derived.Test.YtpcladdipgchbaaGreatDoorSd
import Derived.Test.YtpcladdipgchbaaGreatDoorSm
import Derived.Test.YtpcladdipgchbaaGreatDoorSa
import Derived.Test.YtpcladdipgchbaaGreatDoorSc
import Derived.Test.YtpcladdipgchbaaGreatDoorTl
import Derived.Test.YtpcladdipgchbaaGreatDoorSl
import Derived.Test.YtpcladdipgchbaaGreatDoorSn
import Derived.Test.YtpcladdipgchbaaGreatDoorTk
namespace Go.Proofs.YtpcladdipgchbaaGreatDoor.nn
open Go.RowKit

theorem func_one (fn : Fn) (a b : Array Value) : (Value.func fn a b).oneCell' = true := rfl
set_option maxRecDepth 100000 in
set_option maxHeartbeats 6000000 in
theorem put_any (S : Bst) (g : Nat) (O : Nat → Prop) (e : Ev) (w : World) (hR : Rb w g O S) (hG : GoodW S) (hw : wfE e) :
    Calls Tryz.prog 145 #[.pointer (some ⟨g, 0, none⟩), evv e] w fun x w' => x = .returned (.int .i64 (mayB S e : Int)) ∧ Fin w g O (putB S e) w' := by
  obtain ⟨K, sv, r, D, h, hp, hDl⟩ := hR.tops
  obtain ⟨gs, c, rfl, hgs, ht0, ht1⟩ := h.top
  have hg := h.lo _ h.o.1
  have hlen := hG.len
  have hlens := hG.lens
  have HE := Lib.hid (Eb.new w e)
  have HFIN : Hid (∀ W, Eb w e W → mayB S e ≠ 0 → Fin w g O (putB S e) W) := Lib.hid fun W hW hm => ⟨O, Mv.of_below hW.b, by unfold putB; rw [if_pos hm]; exact hR.below hW.b⟩
  have C1 : Hid (∀ W, Eb w e W → Calls Tryz.prog 71 #[.pointer (some ⟨g, 0, none⟩)] W fun x w' => x = .returned (.bool true) ∧ Eb w e w') := Lib.hid fun W hW => (made_yes g D.length c _ W ((h.b.below hW.b hg).cell 2)).mono fun x w' ⟨hx, hb⟩ => ⟨hx, hW.on hb⟩
  have C2 : Hid (∀ W, Eb w e W → Calls Tryz.prog 183 #[.pointer (some ⟨g, 0, none⟩), evv e] W fun x w' => x = .returned (.int .i64 (mayB S e : Int)) ∧ Eb w e w') := Lib.hid fun W hW => by
    rw [← ref_may S e hG.g]
    exact (refusal_any S g O e W (hR.below hW.b) hG hw).mono fun x w' ⟨hx, hb⟩ => ⟨hx, hW.on hb⟩
  have hpl : ∀ x, x ∈ r :: D → x.p.l.length ≤ 1048577 := fun x hx => by
    have h5 : x.p ∈ (r :: D).map Rec.p := List.mem_map_of_mem hx
    rw [hp] at h5
    have := hlens _ h5
    omega
  have hbtm := btm_of _ _ _ hp
  have hvn : mayB S e = 0 → S.v = none := fun hm => by
    cases hv : S.v with
    | none => rfl
    | some x => rw [may_some hv] at hm; cases hm
  have C3 : Hid (mayB S e = 0 → e.k = 15 → ∀ W, Eb w e W → Calls Tryz.prog 184 #[.pointer (some ⟨g, 0, none⟩)] W fun x w' => x = .returned (.tuple #[]) ∧ Fin w g O (putB S e) w') := Lib.hid fun hm k15 W hW => by
    have hv := hvn hm
    rw [hv] at hp
    cases hop : S.op with
    | nil =>
      exfalso
      unfold mayB at hm
      rw [hv, if_neg (by simp), if_pos k15, hop, if_neg (by unfold endOk; simp)] at hm
      cases hm
    | cons p op =>
      rw [hop] at hp
      have hp1 : r.p = p := by simp at hp; exact hp.1
      have hp2 : D.map Rec.p = op ++ [bot none] := by simp at hp; exact hp.2
      have hb2 := btm_of _ _ _ hp2
      refine (end_of g S.n S.most r D (by omega) (fun O K sv t C w h1 h2 => rbadd_any g S.n S.most D O K sv t C w (by omega) (fun x hx => hpl x (by simp [hx])) hb2 h1 h2) O K _ W (h.below hW.b)).mono fun x w' ⟨hx, O', K', sv', D', hm2, hr2, hps⟩ => ⟨hx, O', (Mv.of_below hW.b).trans hm2, K', sv', D', ?_, ?_⟩
      · unfold putB
        rw [if_neg (by rw [hm]; simp), if_pos k15]
        exact hr2
      · unfold putB
        rw [if_neg (by rw [hm]; simp), if_pos k15, hps, hp2, addRb_addB, hop, hp1]
        rfl
  have C4 : Hid (lf e.k = true → ∀ X, Cn w e S g O K (.slice (some ⟨gs, 0, none⟩) (D.length + 1) c) (r :: D) X → Calls Tryz.prog 187 #[evv e] X fun x w' => ∃ A c2, x = .returned (vv (asked e) (.slice A 0 c2)) ∧ Cn w e S g O K (.slice (some ⟨gs, 0, none⟩) (D.length + 1) c) (r :: D) w') := Lib.hid fun hl X hX => (least_any e X).mono fun x w' ⟨C, hx, hl2, hb⟩ => by
    have hk : (asked e).l = [] := by rw [asked_l, if_neg ((lf_iff e.k).1 hl).2.2]
    rw [hk] at hl2
    obtain ⟨A, c2, rfl, _⟩ := hl2.lst.out
    exact ⟨A, c2, hx, hX.on hb⟩
  have C5 : Hid (mayB S e = 0 → e.k ≠ 15 → lf e.k = true → ∀ A c2 X, Cn w e S g O K (.slice (some ⟨gs, 0, none⟩) (D.length + 1) c) (r :: D) X → Calls Tryz.prog 186 #[.pointer (some ⟨g, 0, none⟩), vv (asked e) (.slice A 0 c2)] X fun x w' => x = .returned (.tuple #[]) ∧ Fin w g O (putB S e) w') := Lib.hid fun hm k15 hl A c2 X hX => by
    have hv := hvn hm
    rw [hv] at hp
    have hk : (asked e).l = [] := by rw [asked_l, if_neg ((lf_iff e.k).1 hl).2.2]
    have hab : asked e = bare e := by unfold asked; rw [if_neg ((lf_iff e.k).1 hl).2.2]; rfl
    refine (rbadd_any g (S.n + 1) S.most (r :: D) O K _ (asked e) (.slice A 0 c2) X (by rw [List.length_cons]; omega) hpl hbtm hX.r (by rw [hk]; exact .nil_)).mono fun x w' ⟨hx, O', K', sv', D', hm2, hr2, hps⟩ => ⟨hx, O', hX.m.trans hm2, K', sv', D', ?_, ?_⟩
    · unfold putB
      rw [if_neg (by rw [hm]; simp), if_neg k15, if_pos hl]
      exact hr2
    · unfold putB
      rw [if_neg (by rw [hm]; simp), if_neg k15, if_pos hl, hps, hp, addRb_addB, hab]
  have C6 : Hid (∀ X, Cn w e S g O K (.slice (some ⟨gs, 0, none⟩) (D.length + 1) c) (r :: D) X → Calls Tryz.prog 185 #[evv e] X fun x w' => ∃ q, x = .returned (.agg #[.pointer (some ⟨q, 0, none⟩), .func (.func (tkK e.k)) #[.pointer (some ⟨q, 0, none⟩)] #[]]) ∧ X.heap.size ≤ q ∧ Bk w' q 104 #[.int .i64 e.k, .bool false, .int .u64 (e.n : Int), .string ⟨#[]⟩, .slice none 0 0] ∧ Below X.heap.size X w' ∧ Cn w e S g O K (.slice (some ⟨gs, 0, none⟩) (D.length + 1) c) (r :: D) w') := Lib.hid fun X hX => (begun_any e X).mono fun x w' ⟨q, hx, h1, h2, h3⟩ => ⟨q, hx, h1, h2, h3, hX.on h3⟩
  have HC0 : Hid (∀ W, Eb w e W → Cn w e S g O K (.slice (some ⟨gs, 0, none⟩) (D.length + 1) c) (r :: D) (W.setCell ⟨g, 1, none⟩ (.int .i64 ((S.n + 1 : Nat) : Int)))) := Lib.hid fun W hW => Cn.of hW h
  have HG1 : Hid (∀ W, Eb w e W → W.cell? ⟨g, 1, none⟩ = some (.int .i64 (S.n : Int)) ∧ W.frozen? ⟨g, 1, none⟩ = false) := Lib.hid fun W hW => ⟨(h.b.below hW.b hg).cell 1, (h.b.below hW.b hg).frozen 1⟩
  have HGC : Hid (∀ X, Cn w e S g O K (.slice (some ⟨gs, 0, none⟩) (D.length + 1) c) (r :: D) X → X.cell? ⟨g, 2, none⟩ = some (.slice (some ⟨gs, 0, none⟩) (D.length + 1) c) ∧ X.cell? ⟨w.heap.size, 0, none⟩ = some (.int .i64 e.k) ∧ X.cell? ⟨w.heap.size, 1, none⟩ = some (.bool e.g) ∧ X.cell? ⟨w.heap.size, 2, none⟩ = some (.int .u64 (e.n : Int)) ∧ X.cell? ⟨w.heap.size, 3, none⟩ = some (.string e.s)) := Lib.hid fun X hX => ⟨hX.r.b.cell 2, hX.c.cell 0, hX.c.cell 1, hX.c.cell 2, hX.c.cell 3⟩
  have HOB : Hid (mayB S e = 0 → (e.k = 11 ∨ e.k = 12 ∨ e.k = 13) → bare e = .mk e.k false e.n ⟨#[]⟩ []) := Lib.hid fun hm hk => by
    have hv := hvn hm
    have ho : oneB (asked e) = true := by
      unfold mayB at hm
      rw [hv, if_neg (by simp), if_neg (by omega)] at hm
      cases hh : oneB (asked e) with
      | true => rfl
      | false => rw [if_pos (.inl hh)] at hm; cases hm
    have hgs : e.g = false ∧ e.s = ⟨#[]⟩ := by
      unfold asked at ho
      exact open_plain hk ho
    unfold bare
    rw [hgs.1, hgs.2]
  have HPUSH : Hid (mayB S e = 0 → (e.k = 11 ∨ e.k = 12 ∨ e.k = 13) → ∀ (wy w4 X w6 : World) (q : Nat) (sv' : Value) (o : Obj), Cn w e S g O K (.slice (some ⟨gs, 0, none⟩) (D.length + 1) c) (r :: D) wy → Cn w e S g O K (.slice (some ⟨gs, 0, none⟩) (D.length + 1) c) (r :: D) w4 → wy.heap.size ≤ q → Below wy.heap.size wy w4 → Bk w4 q 104 #[.int .i64 e.k, .bool false, .int .u64 (e.n : Int), .string ⟨#[]⟩, .slice none 0 0] → X.heap = (w4.alloc o).heap → X.os = w4.os → X.tape = w4.tape → X.output = w4.output →
      w6.ownsRow 0 108 2 sv' (D.length + 1 + 1) (stC (r :: D) ++ [.pointer (some ⟨q, 0, none⟩), .func (.func (tkK e.k)) #[.pointer (some ⟨q, 0, none⟩)] #[]]) → X.grownBy w6 (Value.slice (some ⟨gs, 0, none⟩) (D.length + 1) c).ownBlock → (sv'.ownBlock = (Value.slice (some ⟨gs, 0, none⟩) (D.length + 1) c).ownBlock ∨ sv'.ownBlock = some X.heap.size) → Fin w g O (putB S e) (w6.setCell ⟨g, 2, none⟩ sv')) := Lib.hid fun hm hk wy w4 X w6 q sv' o hy h4 hq0 hB hq hX x1 x2 x3 ho hg6 hat => by
    have hv := hvn hm
    have hb := HOB.out hm hk
    rw [hv] at hp
    have hl : ¬ lf e.k = true := fun hl => by have := (lf_iff e.k).1 hl; omega
    refine Cn.pushed (D := r :: D) h4 hX x1 x2 x3 hy hq0 hB (by rw [hb]; exact hq) (by rw [stC_push]; exact ho) hg6 hat hp ?_
    unfold putB
    rw [if_neg (by rw [hm]; simp), if_neg (by omega), if_neg hl]
  have HS : Hid (∀ (w4 X : World) (o : Obj), Cn w e S g O K (.slice (some ⟨gs, 0, none⟩) (D.length + 1) c) (r :: D) w4 → X.heap = (w4.alloc o).heap → X.ownsRow 0 108 2 (.slice (some ⟨gs, 0, none⟩) (D.length + 1) c) (D.length + 1) (stC (r :: D)) ∧
      ∀ w6, X.grownBy w6 (Value.slice (some ⟨gs, 0, none⟩) (D.length + 1) c).ownBlock → w6.cell? ⟨g, 2, none⟩ = some (.slice (some ⟨gs, 0, none⟩) (D.length + 1) c) ∧ w6.frozen? ⟨g, 2, none⟩ = false) := Lib.hid fun w4 X o h4 hX => by
    have hxk : ∀ b, b < w4.heap.size → X.heap[b]? = w4.heap[b]? := fun b hb => by rw [hX]; exact Below.heap_alloc _ _ _ hb
    refine ⟨own_same5 h4.r.s fun b hb => hxk b (h4.r.lo b (h4.r.so b hb).1), fun w6 hg6 => ?_⟩
    have hg4 := h4.r.lo _ h4.r.o.1
    have hb : Bk w6 g 111 #[.int .i64 (S.most : Int), .int .i64 ((S.n + 1 : Nat) : Int), .slice (some ⟨gs, 0, none⟩) (D.length + 1) c] := by
      unfold Bk
      rw [hg6.block g (by rw [hX]; simp; omega) (fun e2 => by have h1 := (h4.r.so g e2.symm).2; rw [h4.r.o.2] at h1; omega), hxk g hg4]
      exact h4.r.b
    exact ⟨hb.cell 2, hb.frozen 2⟩
  have hnn : S.n ≤ 65536 := by
    obtain ⟨L, _, h4⟩ := hG.g
    exact h4
  obtain ⟨nn, hnn2⟩ : ∃ nn, S.n = nn := ⟨_, rfl⟩
  obtain ⟨m, hmD⟩ : ∃ m, D.length = m := ⟨_, rfl⟩
  obtain ⟨R, hRR⟩ : ∃ R, mayB S e = R := ⟨_, rfl⟩
  obtain ⟨S', hS'⟩ : ∃ S', putB S e = S' := ⟨_, rfl⟩
  rw [hRR, hS'] at HFIN C3 C5 HPUSH
  rw [hRR] at C2
  rw [hRR, hS']
  obtain ⟨P, hP⟩ : ∃ P : World → Prop, P = Cn w e S g O K (.slice (some ⟨gs, 0, none⟩) (D.length + 1) c) (r :: D) := ⟨_, rfl⟩
  have HON : Hid (∀ X X', P X → Below X.heap.size X X' → P X') := Lib.hid (by rw [hP]; exact fun X X' h hB => h.on hB)
  rw [← hP] at C4 C5 C6 HC0 HGC HPUSH HS
  obtain ⟨XS, hXS⟩ : ∃ XS, stC (r :: D) = XS := ⟨_, rfl⟩
  rw [hXS] at HPUSH HS
  rw [hmD] at HGC HPUSH HS hDl
  rw [hnn2] at HG1 HC0 hnn
  rw [show ((nn + 1 : Nat) : Int) = (nn : Int) + 1 by omega] at HC0
  have hwr : IntKind.i64.wrap ((nn : Int) + 1) = ((nn + 1 : Nat) : Int) := by rw [IntWalk.i64_in _ ⟨by omega, by omega⟩]; omega
  have hlm : m + 1 + 1 ≤ 1099511627776 := by omega
  have e1 : (asked e).k = e.k := rfl
  have e2 : (asked e).g = e.g := rfl
  have e3 : (asked e).n = e.n := rfl
  have e4 : (asked e).s = e.s := rfl
  have hlk := lf_iff e.k
  unfold vv at C4 C5
  rw [e1, e2, e3, e4] at C4 C5
  obtain ⟨k, gg, n, s⟩ := e
  unfold evv at *
  dsimp only at C2 C3 C4 C5 C6 HGC HPUSH hlk
  obtain ⟨fk, hfk⟩ : ∃ f, tkK k = f := ⟨_, rfl⟩
  rw [hfk] at C6 HPUSH
  clear hfk
  clear hR hG hw h hp hDl hgs ht0 ht1 hg hlen hlens hpl hbtm hvn HOB hnn2 hmD hRR hS' hP hXS e1 e2 e3 e4 hnn
  go_enter Tryz.func145, Tryz.ntmps145
  go_wp2_with fail
  refine (C1.out _ HE.out).mono ?_
  rintro x w1 ⟨rfl, hk1⟩
  have HK1 := Lib.hid hk1
  obtain ⟨c0, c1, c2, c3⟩ := hk1.cells
  clear hk1
  go_wp2_with fail
  refine (C2.out _ HK1.out).mono ?_
  rintro x w2 ⟨rfl, hk2⟩
  have HK2 := Lib.hid hk2
  have c0 := hk2.cells.1
  obtain ⟨g1, gf1⟩ := HG1.out _ hk2
  clear hk2 C1 C2 HK1 HE c1 c2 c3
  by_cases hR0 : R = 0
  · subst hR0
    have HCN := Lib.hid (HC0.out _ HK2.out)
    by_cases k15 : k = 15
    · subst k15
      have H3 := Lib.hid (C3.out rfl rfl _ HK2.out)
      clear C3 C4 C5 C6 HPUSH HS HC0 HFIN
      go_wp2_with fail
      refine H3.out.mono ?_
      rintro x w3 ⟨rfl, hz⟩
      have HZ := Lib.hid hz
      clear hz
      go_wp2_with fail
      go_ret
      exact ⟨rfl, HZ.out⟩
    · by_cases kk : k = 11 ∨ k = 12 ∨ k = 13
      · have HPU := Lib.hid (HPUSH.out rfl kk)
        clear C3 C4 C5 HPUSH HC0 HFIN hlk
        have hadd : ∀ (W : World) (x : Value), (w2.setCell ⟨g, 1, none⟩ x) = W → True := fun _ _ _ => trivial
        clear hadd
        rcases kk with rfl | rfl | rfl
        all_goals
          go_upto_region 15 with fail
          obtain ⟨X, hX⟩ : ∃ X, w2.setCell ⟨g, 1, none⟩ (.int .i64 ((nn : Int) + 1)) = X := ⟨_, rfl⟩
          rw [hX] at HCN ⊢
          clear hX g1 gf1 c0
          obtain ⟨d5, d0, d1, d2, d3⟩ := HGC.out _ HCN.out
          have HCD : Hid (P X.drew) := Lib.hid (HON.out _ _ HCN.out (Below.drew (Below.refl _ _)))
          have H6 := Lib.hid (C6.out _ HCD.out)
          go_region_law (first
            | (go_simp; go_at_call 185; refine H6.out.mono ?_; rintro x w4 ⟨q, rfl, hq1, hq2, hB4, hc4⟩; obtain ⟨f5, f0, f1, f2, f3⟩ := HGC.out _ hc4; obtain ⟨i5, i0, i1, i2, i3⟩ := HGC.out _ (HON.out _ _ hc4 ((Below.refl _ _).alloc (Nat.le_refl _) (.cells #[.pointer (some ⟨q, 0, none⟩), .func (.func fk) #[.pointer (some ⟨q, 0, none⟩)] #[]] 108))); go_simp)
            | (refine step_open rfl (.tmp 47) (.tmp 50) rfl (.slice (some ⟨gs, 0, none⟩) (m + 1) c) (m + 1) XS w4.heap.size _ _ rfl rfl (HS.out w4 _ _ hc4 rfl).1 (heap_alloc_last _ _) rfl (func_one _ _ _) hlm ?_; intro v6 w6 ho6 hg6 hat6; obtain ⟨g6, c6, rfl, _, _⟩ := own_blk ho6 (Nat.succ_pos _); obtain ⟨z2, zf2⟩ := (HS.out w4 _ _ hc4 rfl).2 w6 hg6))
          all_goals
            go_wp2_with fail
            go_ret
            exact ⟨rfl, HPU.out X.drew w4 (w4.alloc (.cells #[.pointer (some ⟨q, 0, none⟩), .func (.func fk) #[.pointer (some ⟨q, 0, none⟩)] #[]] 108)) w6 q _ (.cells #[.pointer (some ⟨q, 0, none⟩), .func (.func fk) #[.pointer (some ⟨q, 0, none⟩)] #[]] 108) HCD.out hc4 hq1 hB4 hq2 rfl rfl rfl rfl ho6 hg6 hat6⟩
      · have hl : lf k = true := hlk.2 ⟨by omega, by omega, by omega⟩
        have e15 : (k == 15) = false := by simp; omega
        have e11 : (k == 11) = false := by simp; omega
        have e12 : (k == 12) = false := by simp; omega
        have e13 : (k == 13) = false := by simp; omega
        have H4 := Lib.hid (C4.out hl)
        have H5 := Lib.hid (C5.out rfl k15 hl)
        clear C3 C4 C5 C6 HPUSH HS HC0 HFIN hlk kk k15 hl
        go_upto_region 8 with fail
        obtain ⟨X, hX⟩ : ∃ X, w2.setCell ⟨g, 1, none⟩ (.int .i64 ((nn : Int) + 1)) = X := ⟨_, rfl⟩
        rw [hX] at HCN ⊢
        obtain ⟨_, d0, d1, d2, d3⟩ := HGC.out _ HCN.out
        clear hX
        go_wp2_with fail
        refine (H4.out _ HCN.out).mono ?_
        rintro x w3 ⟨A, c2, rfl, h3⟩
        have HP3 := Lib.hid h3
        clear h3 d0 d1 d2 d3
        go_wp2_with fail
        refine (H5.out A c2 _ HP3.out).mono ?_
        rintro x w4 ⟨rfl, hz⟩
        have HZ := Lib.hid hz
        clear hz
        go_wp2_with fail
        go_ret
        exact ⟨rfl, HZ.out⟩
  · have hR1 : ((R : Int) != 0) = true := by simp; omega
    have HF := Lib.hid (HFIN.out _ HK2.out hR0)
    clear C3 C4 C5 C6 HPUSH HS HC0 HFIN hR0
    go_wp2_with fail
    go_ret
    exact ⟨rfl, HF.out⟩
end Go.Proofs.YtpcladdipgchbaaGreatDoor.nn
namespace Go.Proofs.YtpcladdipgchbaaGreatDoor.nn
open Go.RowKit

/-- what lies at the bottom of a build -/
structure Bo (w : World) (g gs m c qb : Nat) (Ab : Option Addr) (cb : Nat) (S : Bst) : Prop where
  lg : g < w.heap.size
  lgs : gs < w.heap.size
  lq : qb < w.heap.size
  c2 : w.cell? ⟨g, 2, none⟩ = some (.slice (some ⟨gs, 0, none⟩) (m + 1) c)
  c1 : w.cell? ⟨g, 1, none⟩ = some (.int .i64 (S.n : Int))
  s0 : w.cell? ⟨gs, 0, none⟩ = some (.pointer (some ⟨qb, 0, none⟩))
  l : w.cell? ⟨qb, 4, none⟩ = some (.slice Ab S.v.toList.length cb)
  v : Lst w (.slice Ab S.v.toList.length cb) S.v.toList
theorem Bo.on {w w' : World} {g gs m c qb : Nat} {Ab : Option Addr} {cb : Nat} {S : Bst} (h : Bo w g gs m c qb Ab cb S) (hB : Below w.heap.size w w') : Bo w' g gs m c qb Ab cb S :=
  ⟨Nat.lt_of_lt_of_le h.lg hB.size, Nat.lt_of_lt_of_le h.lgs hB.size, Nat.lt_of_lt_of_le h.lq hB.size, (hB.cell (p := ⟨g, 2, none⟩) h.lg).trans h.c2, (hB.cell (p := ⟨g, 1, none⟩) h.lg).trans h.c1, (hB.cell (p := ⟨gs, 0, none⟩) h.lgs).trans h.s0, (hB.cell (p := ⟨qb, 4, none⟩) h.lq).trans h.l, h.v.keep hB (Nat.le_refl _)⟩
theorem Rb.bo {w : World} {g : Nat} {O : Nat → Prop} {S : Bst} (h : Rb w g O S) : ∃ gs m c qb Ab cb, Bo w g gs m c qb Ab cb S := by
  obtain ⟨K, sv, r, D, h1, h2, hDl⟩ := h.tops
  obtain ⟨gs, c, rfl, hgs, _, _⟩ := h1.top
  obtain ⟨D', rb, hD⟩ : ∃ D' rb, r :: D = D' ++ [rb] := ⟨(r :: D).dropLast, (r :: D).getLast (by simp), (List.dropLast_concat_getLast (by simp)).symm⟩
  have hr := h1.r
  rw [hD] at hr h2
  have hb := hr.last
  have hp : rb.p = bot S.v := by
    rw [List.map_append] at h2
    have := (List.append_inj' h2 rfl).2
    simpa using this
  obtain ⟨A, cb, hv⟩ := vo_form hb.v
  have hl : rb.p.l = S.v.toList := by rw [hp]; rfl
  have hvo := hb.v
  have hbb := hb.b
  rw [hv, hl] at hvo hbb
  have hs0 : w.cell? ⟨gs, 0, none⟩ = some (.pointer (some ⟨rb.q, 0, none⟩)) := by
    have := h1.s.cellAt 0 (by omega)
    rw [this, hD]
    exact stC_first D' rb
  exact ⟨gs, D.length, c, rb.q, A, cb, h1.lo _ h1.o.1, hgs, h1.lo _ hb.o.1, h1.b.cell 2, h1.b.cell 1, hs0, hbb.cell 4, hvo.lsf.lst⟩
set_option maxRecDepth 100000 in
set_option maxHeartbeats 1000000 in
theorem done_any {w : World} {g gs m c qb : Nat} {Ab : Option Addr} {cb : Nat} {S : Bst} (h : Bo w g gs m c qb Ab cb S) : Calls Tryz.prog 72 #[.pointer (some ⟨g, 0, none⟩)] w fun e w' => e = .returned (.bool S.v.isSome) ∧ Below w.heap.size w w' := by
  have HM : Hid (∀ W, Bo W g gs m c qb Ab cb S → Calls Tryz.prog 71 #[.pointer (some ⟨g, 0, none⟩)] W fun e w' => e = .returned (.bool true) ∧ Below W.heap.size W w' ∧ Bo w' g gs m c qb Ab cb S) := Lib.hid fun W hW => (made_yes g m c (some ⟨gs, 0, none⟩) W hW.c2).mono fun e w' ⟨he, hb⟩ => ⟨he, hb, hW.on hb⟩
  have HB := Lib.hid h
  clear h
  obtain ⟨v, hv⟩ : ∃ v, S.v = v := ⟨_, rfl⟩
  have HV := Lib.hid hv
  rw [hv]
  clear hv
  cases v with
  | none =>
    go_enter Tryz.func72, Tryz.ntmps72
    go_wp2_with fail
    refine (HM.out _ HB.out).mono ?_
    rintro e w1 ⟨rfl, hb, h1⟩
    have HB1 := Lib.hid hb
    have c2 := h1.c2
    have s0 := h1.s0
    have l := h1.l
    rw [HV.out] at l
    have hl0 : (none : Option VT).toList.length = 0 := rfl
    rw [hl0] at l
    clear hb h1
    go_wp2_with fail
    go_ret
    exact ⟨rfl, HB1.out⟩
  | some t =>
    go_enter Tryz.func72, Tryz.ntmps72
    go_wp2_with fail
    refine (HM.out _ HB.out).mono ?_
    rintro e w1 ⟨rfl, hb, h1⟩
    have HB1 := Lib.hid hb
    have c2 := h1.c2
    have s0 := h1.s0
    have l := h1.l
    rw [HV.out] at l
    have hl0 : (some t : Option VT).toList.length = 1 := rfl
    rw [hl0] at l
    clear hb h1
    go_wp2_with fail
    go_ret
    exact ⟨rfl, HB1.out⟩
/-- what Value answers -/
def ValAns (S : Bst) (w : World) (x : Ending) (w' : World) : Prop := ∃ C, x = .returned (.tuple #[vv (S.v.getD emp) C, .int .i64 (if S.v.isSome then 0 else 3)]) ∧ Lsb w.heap.size w' C (S.v.getD emp).l ∧ Below w.heap.size w w'
set_option maxRecDepth 100000 in
set_option maxHeartbeats 2000000 in
theorem value_any {w : World} {g gs m c qb : Nat} {Ab : Option Addr} {cb : Nat} {S : Bst} (h : Bo w g gs m c qb Ab cb S) (hn : ∀ t, S.v = some t → cnt t ≤ 1099511627776) : Calls Tryz.prog 41 #[.pointer (some ⟨g, 0, none⟩)] w (ValAns S w) := by
  have HM : Hid (∀ W, Bo W g gs m c qb Ab cb S → Calls Tryz.prog 71 #[.pointer (some ⟨g, 0, none⟩)] W fun e w' => e = .returned (.bool true) ∧ Below W.heap.size W w' ∧ Bo w' g gs m c qb Ab cb S) := Lib.hid fun W hW => (made_yes g m c (some ⟨gs, 0, none⟩) W hW.c2).mono fun e w' ⟨he, hb⟩ => ⟨he, hb, hW.on hb⟩
  have HD : Hid (∀ W, Bo W g gs m c qb Ab cb S → Calls Tryz.prog 72 #[.pointer (some ⟨g, 0, none⟩)] W fun e w' => e = .returned (.bool S.v.isSome) ∧ Below W.heap.size W w' ∧ Bo w' g gs m c qb Ab cb S) := Lib.hid fun W hW => (done_any hW).mono fun e w' ⟨he, hb⟩ => ⟨he, hb, hW.on hb⟩
  obtain ⟨W1, hW1⟩ : ∃ W1, w.alloc (.cells #[.int .i64 0, .bool false, .int .u64 0, .string ⟨#[]⟩, .slice none 0 0] 25) = W1 := ⟨_, rfl⟩
  have HB : Hid (Below w.heap.size w W1) := Lib.hid (by rw [← hW1]; exact (Below.refl _ _).alloc (Nat.le_refl _) _)
  have HK : Hid (Bk W1 w.heap.size 25 #[.int .i64 0, .bool false, .int .u64 0, .string ⟨#[]⟩, .slice none 0 0]) := Lib.hid (by rw [← hW1]; exact heap_alloc_last _ _)
  have HB0 : Hid (Bo W1 g gs m c qb Ab cb S) := Lib.hid (h.on HB.out)
  unfold ValAns
  cases hv : S.v with
  | none =>
    rw [hv] at HD
    have e0 : (none : Option VT).isSome = false := rfl
    rw [e0] at HD
    clear hn h
    go_enter Tryz.func41, Tryz.ntmps41
    go_wp2_with fail
    refine (HM.out _ HB0.out).mono ?_
    rintro e w1 ⟨rfl, hb1, h1⟩
    have H1 := Lib.hid (And.intro hb1 h1)
    clear hb1 h1
    go_wp2_with fail
    refine (HD.out _ H1.out.2).mono ?_
    rintro e w2 ⟨rfl, hb2, h2⟩
    have hk := (HK.out.below H1.out.1 HK.out.lt).below hb2 (Nat.lt_of_lt_of_le HK.out.lt H1.out.1.size)
    obtain ⟨f0, f1, f2, f3, f4⟩ := hk.c5
    obtain ⟨ff0, ff1, ff2, ff3, ff4⟩ := hk.f5
    have HB2 : Hid (Below w.heap.size w w2) := Lib.hid ((HB.out.trans (H1.out.1.mono HB.out.size)).trans (hb2.mono (Nat.le_trans HB.out.size H1.out.1.size)))
    clear hb2 h2 hk HK hW1
    go_wp2_with fail
    exact bodyPost_ret (v := .tuple #[.agg #[.int .i64 0, .bool false, .int .u64 0, .string ⟨#[]⟩, .slice none 0 0], .int .i64 3]) (by simp [results, Tryz.results41, go_sem, f0, f1, f2, f3, f4]) rfl ⟨.slice none 0 0, rfl, .nil_, below_set5 HB2.out (Nat.le_refl _) _ _ _ _ _⟩
  | some t =>
    rw [hv] at HD
    have e0 : (some t : Option VT).isSome = true := rfl
    rw [e0] at HD
    have hct := hn t hv
    have HA : Hid (∀ W C, Lst W C t.l → Calls Tryz.prog 73 #[vv t C, .slice none 0 0] W fun x w' => ∃ A' c', x = .returned (.tuple #[vv t (.slice A' t.l.length c'), .int .i64 0]) ∧ Lsb W.heap.size w' (.slice A' t.l.length c') t.l ∧ Below W.heap.size W w') := Lib.hid fun W C hC => (vat0_any W t C none [] 0 W (Below.refl _ _) hC (.inl rfl) (by simp) (Nat.le_refl _) hct).mono fun x w' ⟨C', h1, h2, h3⟩ => by
      have h2' : Lsb W.heap.size w' C' t.l := h2
      obtain ⟨A', c', rfl, _⟩ := h2'.lst.out
      exact ⟨A', c', h1, h2', h3⟩
    have HL : Hid (∀ W, Bo W g gs m c qb Ab cb S → ∃ b off AC cC, Ab = some ⟨b, off, none⟩ ∧ Row W b off t (.slice AC t.l.length cC) ∧ Lst W (.slice AC t.l.length cC) t.l ∧ W.cell? ⟨qb, 4, none⟩ = some (.slice Ab 1 cb)) := Lib.hid fun W hW => by
      have h5 := hW.v
      have h6 := hW.l
      rw [hv] at h5 h6
      have e1 : (some t : Option VT).toList = [t] := rfl
      rw [e1] at h5 h6
      obtain ⟨A2, c2, e2, _, h7⟩ := h5.out
      injection e2 with e2 e3 e4
      subst e2
      rcases h7 with ⟨_, h8, _⟩ | ⟨b, off, C, h8, _, hr, hk⟩
      · cases h8
      · have hr0 := hr 0 (by simp)
        have hk0 := hk 0 (by simp)
        simp only [List.getElem_cons_zero, Nat.zero_mul, Nat.add_zero] at hr0 hk0
        obtain ⟨AC, cC, hc, _⟩ := hk0.out
        rw [hc] at hr0 hk0
        exact ⟨b, off, AC, cC, h8, hr0, hk0, h6⟩
    clear hn h hct
    unfold vv at HA
    go_enter Tryz.func41, Tryz.ntmps41
    go_wp2_with fail
    refine (HM.out _ HB0.out).mono ?_
    rintro e w1 ⟨rfl, hb1, h1⟩
    have H1 := Lib.hid (And.intro hb1 h1)
    clear hb1 h1
    go_wp2_with fail
    refine (HD.out _ H1.out.2).mono ?_
    rintro e w2 ⟨rfl, hb2, h2⟩
    have HK2 : Hid (Bk w2 w.heap.size 25 #[.int .i64 0, .bool false, .int .u64 0, .string ⟨#[]⟩, .slice none 0 0]) := Lib.hid ((HK.out.below H1.out.1 HK.out.lt).below hb2 (Nat.lt_of_lt_of_le HK.out.lt H1.out.1.size))
    have HB2 : Hid (Below w.heap.size w w2) := Lib.hid ((HB.out.trans (H1.out.1.mono HB.out.size)).trans (hb2.mono (Nat.le_trans HB.out.size H1.out.1.size)))
    obtain ⟨b, off, AC, cC, rfl, hr, hl, hq⟩ := HL.out _ h2
    have c2 := h2.c2
    have s0 := h2.s0
    have r0 := hr.k
    have r1 := hr.g
    have r2 := hr.n
    have r3 := hr.s
    have r4 := hr.l
    have HL2 := Lib.hid hl
    clear hb2 h2 HK hW1 hr hl HL HD HM
    go_wp2_with fail
    refine (HA.out _ _ HL2.out).mono ?_
    rintro e w3 ⟨A3, c3, rfl, hl3, hb3⟩
    have hk := HK2.out.below hb3 HK2.out.lt
    obtain ⟨f0, f1, f2, f3, f4⟩ := hk.c5
    obtain ⟨ff0, ff1, ff2, ff3, ff4⟩ := hk.f5
    have HB3 : Hid (Below w.heap.size w w3) := Lib.hid (HB2.out.trans (hb3.mono HB2.out.size))
    have HL3 := Lib.hid hl3
    clear hb3 hk hl3 r0 r1 r2 r3 r4 c2 s0 hq
    go_wp2_with fail
    refine bodyPost_ret (v := .tuple #[.agg #[.int .i64 t.k, .bool t.g, .int .u64 (t.n : Int), .string t.s, .slice A3 t.l.length c3], .int .i64 0]) (by simp [results, Tryz.results41, go_sem, f0, f1, f2, f3, f4]) rfl ⟨.slice A3 t.l.length c3, rfl, ?_, below_set5 HB3.out (Nat.le_refl _) _ _ _ _ _⟩
    have hlt : w.heap.size < w2.heap.size := HK2.out.lt
    exact (HL3.out.keep (by simp only [setCell_sz]; exact Nat.le_refl _) fun b hb _ => by rw [off_g (by omega), off_g (by omega), off_g (by omega), off_g (by omega), off_g (by omega)]).low (Nat.le_of_lt hlt)
end Go.Proofs.YtpcladdipgchbaaGreatDoor.nn
namespace Go.Proofs.YtpcladdipgchbaaGreatDoor.nn
open Go.RowKit

theorem good_new (d : Int) : GoodW (newB d) := ⟨⟨[], ⟨⟨rfl, fun t ht => (by cases ht), fun _ => ⟨trivial, rfl⟩⟩, Nat.zero_le _⟩⟩, fun p hp => (by cases hp), by show (min (max d 0) 64).toNat ≤ 64; omega⟩
theorem good_cnt {S : Bst} (h : GoodW S) : ∀ t, S.v = some t → cnt t ≤ 65536 := by
  intro t ht
  obtain ⟨L, ⟨_, h2, _⟩, h4⟩ := h.g
  have := (h2 t ht).2.2.2
  have h5 : cnt t = S.n := this
  omega
/-- the state behind the first i events -/
def stB (L : List Ev) (i : Nat) : Bst := (runB (newB 64) (L.take i)).1
structure Ts (w : World) (g : Nat) (L : List Ev) (i : Nat) (W : World) : Prop where
  r : ∃ O, Rb W g O (stB L i) ∧ ∀ b, O b → w.heap.size < b
  e : (runB (newB 64) (L.take i)).2.2 = 0
  b : Below w.heap.size w W
  k : Bk W w.heap.size 25 #[.int .i64 0, .bool false, .int .u64 0, .string ⟨#[]⟩, .slice none 0 0]
end Go.Proofs.YtpcladdipgchbaaGreatDoor.nn
