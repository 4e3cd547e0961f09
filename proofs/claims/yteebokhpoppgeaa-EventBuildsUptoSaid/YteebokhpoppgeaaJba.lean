/- Joined texts, what is wanted of them: BmPutD, BmPut, BmTree. -/
import Derived.Deep.RegionLaw
import Derived.Lib.Hide
import Derived.Deep.QuietTactic
import Derived.BigQuiet
import Derived.StillTailTactics
import Derived.IntWalk
import Derived.Deep.RegionHeld3
import Derived.Test.YteebokhpoppgeaaProg
import Derived.WalkKit
import Derived.Test.YteebokhpoppgeaaJo
import Derived.Test.YteebokhpoppgeaaJa
import Derived.Test.YteebokhpoppgeaaJz
import Derived.Test.YteebokhpoppgeaaJh
import Derived.Test.YteebokhpoppgeaaJb
import Derived.Test.YteebokhpoppgeaaJe
import Derived.Test.YteebokhpoppgeaaJy
import Derived.Test.YteebokhpoppgeaaJx
import Derived.Test.YteebokhpoppgeaaJk
import Derived.Test.YteebokhpoppgeaaJq
import Derived.Test.YteebokhpoppgeaaJn
import Derived.Test.YteebokhpoppgeaaJc
import Derived.Test.YteebokhpoppgeaaJp
import Derived.Test.YteebokhpoppgeaaJg
import Derived.Test.YteebokhpoppgeaaJu
import Derived.Test.YteebokhpoppgeaaJr
namespace Go.Proofs.Yteebokhpoppgeaa.nn
open Go.RowKit

set_option maxRecDepth 100000 in
set_option maxHeartbeats 4000000 in
theorem rput_open (op : List VT) (N M g : Nat) (O : Nat → Prop) (e : Ev) (w : World) (h : Bm w g O ⟨op, none, N, M⟩) (hG : GoodW ⟨op, none, N, M⟩) (hw : wfE e) (hm : mayB ⟨op, none, N, M⟩ e = 0) (hk : e.k ≠ 15) (hlf : lf e.k = false) :
    Calls Try.prog 7 #[.pointer (some ⟨g, 0, none⟩), evv e] w fun x w' => x = .returned (.int .i64 0) ∧ ∃ O', Mv No O w O' w' ∧ Bm w' g O' ⟨bare e :: op, none, N + 1, M⟩ := by
  have HE := Lib.hid (Eb.new w e)
  have CM := Lib.hid (may_at _ g O e w h hG hw)
  rw [hm] at CM
  have hlen : op.length ≤ 64 := hG.len
  have hlens := hG.lens
  have hN : N ≤ 65536 := good_n hG
  obtain ⟨A, c, D, hx⟩ := h.bmx
  have hgl := hx.lo g hx.o
  have e15 : (e.k == 15) = false := by simpa using hk
  have hadd : IntKind.i64.wrap ((N : Int) + 1) = (N : Int) + 1 := IntWalk.i64_in _ ⟨by omega, by omega⟩
  have CF : Hid (∀ W, Calls Try.prog 24 #[.agg #[.int .i64 e.k, .bool e.g, .int .u64 (e.n : Int), .string e.s, .slice none 0 0]] W fun x w' => x = .returned (.bool false) ∧ Below W.heap.size W w') := Lib.hid fun W => by
    have := rleaf_any (bare e) (.slice none 0 0) W
    rw [show (bare e).k = e.k from rfl, hlf] at this
    exact this
  have HGC : Hid (∀ W, Eb w e W → W.cell? ⟨g, 7, none⟩ = some (.int .i64 (N : Int)) ∧ W.frozen? ⟨g, 7, none⟩ = false ∧ Bk (W.setCell ⟨g, 7, none⟩ (.int .i64 ((N : Int) + 1))) w.heap.size 31 #[.int .i64 e.k, .bool e.g, .int .u64 (e.n : Int), .string e.s] ∧ Bmx (W.setCell ⟨g, 7, none⟩ (.int .i64 ((N : Int) + 1))) g O A c D ⟨op, none, N + 1, M⟩ ∧ Mv No O w O (W.setCell ⟨g, 7, none⟩ (.int .i64 ((N : Int) + 1)))) := Lib.hid fun W hW => by
    have h1 := hx.b.below hW.b hgl
    rw [show (N : Int) + 1 = ((N + 1 : Nat) : Int) by omega]
    exact ⟨h1.cell 7, h1.frozen 7, (off_g (by omega)).trans hW.c, (hx.below hW.b).more, (Mv.of_below hW.b).cell hx.o _⟩
  unfold evv at *
  clear h hG hw hm hk hlf hx
  go_enter Try.func7, Try.ntmps7
  go_wp2_with fail
  with_reducible refine (CM.out _ HE.out).mono ?_
  rintro x w2 ⟨rfl, k2⟩
  obtain ⟨e0, e1, e2, e3⟩ := k2.cells
  obtain ⟨g7, gf7, hb3, hx3, hm3⟩ := HGC.out _ k2
  have H3 := Lib.hid (And.intro hb3 (And.intro hx3 hm3))
  clear k2 CM hb3 hx3 hm3 HGC
  go_upto_region 10 with fail
  obtain ⟨W3, hW3⟩ : ∃ W3, w2.setCell ⟨g, 7, none⟩ (.int .i64 ((N : Int) + 1)) = W3 := ⟨_, rfl⟩
  rw [hW3] at H3 ⊢
  clear e0 e1 e2 e3 g7 gf7 hW3
  obtain ⟨e0, e1, e2, e3⟩ := H3.out.1.c4
  obtain ⟨b7, hb7⟩ : ∃ b, W3.heap.size = b := ⟨_, rfl⟩
  have HB7 : Hid (Bk (W3.alloc (.cells #[.int .i64 e.k, .bool e.g, .int .u64 (e.n : Int), .string e.s, .slice none 0 0] 36)) b7 36 #[.int .i64 e.k, .bool e.g, .int .u64 (e.n : Int), .string e.s, .slice none 0 0]) := Lib.hid (by rw [← hb7]; exact .new _ _ _)
  have HG7 : Hid (g < b7) := Lib.hid (by rw [← hb7]; exact H3.out.2.1.lo g H3.out.2.1.o)
  go_upto_region 11 with fail
  obtain ⟨W4, hW4⟩ : ∃ W4, W3.alloc (.cells #[.int .i64 e.k, .bool e.g, .int .u64 (e.n : Int), .string e.s, .slice none 0 0] 36) = W4 := ⟨_, rfl⟩
  rw [hW4] at HB7 ⊢
  have H4 : Hid (Bmx W4 g O A c D ⟨op, none, N + 1, M⟩ ∧ Mv No O w O W4) := Lib.hid (by rw [← hW4]; exact ⟨H3.out.2.1.al _, H3.out.2.2.trans (Mv.al0 _ _ _ _)⟩)
  clear hW4 hb7 H3 e0 e1 e2 e3
  obtain ⟨v0, v1, v2, v3, v4⟩ := HB7.out.c5
  go_wp2_with fail
  with_reducible refine (CF.out _).mono ?_
  rintro x w5 ⟨rfl, hb5⟩
  have H5 := Lib.hid (And.intro (H4.out.1.below hb5) (H4.out.2.trans (Mv.of_below hb5)))
  have HB5 := Lib.hid (HB7.out.below hb5 HB7.out.lt)
  clear v0 v1 v2 v3 v4 hb5 H4 HB7 CF
  obtain ⟨v0, v1, v2, v3, v4⟩ := HB5.out.c5
  obtain ⟨m, hm⟩ : ∃ m, op.length = m := ⟨_, rfl⟩
  have hx5 := H5.out.1
  have hg5 := hx5.lo g hx5.o
  have hb75 := HB5.out.lt
  have HPE : Hid (∀ W A2 c2, Below w5.heap.size w5 W → Vo (Oth O g A) w5.heap.size W (.slice A2 (m + 1) c2) (op.reverse ++ [bare e]) → ∃ O', Mv No O w O' (W.setCell ⟨g, 0, none⟩ (.slice A2 (m + 1) c2)) ∧ Bm (W.setCell ⟨g, 0, none⟩ (.slice A2 (m + 1) c2)) g O' ⟨bare e :: op, none, N + 1, M⟩) := Lib.hid fun W A2 c2 hB hv => by
    obtain ⟨h1, h2⟩ := push_end H5.out.1 (by omega) hB hv
    exact ⟨_, H5.out.2.trans h2, h1⟩
  have HPD : Hid (∀ W A2 c2, Below w5.heap.size w5 W → Vo (Oth O g A) w5.heap.size W (.slice A2 (m + 1) c2) (op.reverse ++ [bare e]) → ∃ O', Mv No O w O' (W.setCell ⟨g, 0, none⟩ (.slice A2 (m + 1) c2)).drew ∧ Bm (W.setCell ⟨g, 0, none⟩ (.slice A2 (m + 1) c2)).drew g O' ⟨bare e :: op, none, N + 1, M⟩) := Lib.hid fun W A2 c2 hB hv => by
    obtain ⟨O', h1, h2⟩ := HPE.out W A2 c2 hB hv
    exact ⟨O', h1.trans (Mv.drew _ _ _), h2.keep (Nat.le_refl _) fun _ _ => rfl⟩
  have HF : Hid (∀ W, Below w5.heap.size w5 W → (W.cell? ⟨g, 0, none⟩ = some (.slice A m c) ∧ W.frozen? ⟨g, 0, none⟩ = false) ∧ (W.cell? ⟨b7, 0, none⟩ = some (.int .i64 e.k) ∧ W.cell? ⟨b7, 1, none⟩ = some (.bool e.g) ∧ W.cell? ⟨b7, 2, none⟩ = some (.int .u64 (e.n : Int)) ∧ W.cell? ⟨b7, 3, none⟩ = some (.string e.s) ∧ W.cell? ⟨b7, 4, none⟩ = some (.slice none 0 0)) ∧ Below w5.heap.size w5 W) := Lib.hid fun W hW => by
    have h1 := hx5.b.below hW hg5
    have h2 := HB5.out.below hW hb75
    have h3 := h1.cell 0
    refine ⟨⟨?_, h1.frozen 0⟩, ⟨h2.cell 0, h2.cell 1, h2.cell 2, h2.cell 3, h2.cell 4⟩, hW⟩
    rw [h3, ← hm]
    rfl
  obtain ⟨⟨a0, a1⟩, ⟨a2, a3, a4, a5, a6⟩, hb0⟩ := HF.out w5 (Below.refl _ _)
  obtain ⟨⟨b0, b1⟩, ⟨b2, b3, b4, b5, b6⟩, hb1⟩ := HF.out _ (hb0.alloc (Nat.le_refl _) (.cells #[] 36))
  obtain ⟨⟨c0, c1⟩, ⟨c2, c3, c4, c5, c6⟩, hb2⟩ := HF.out _ (hb0.alloc (Nat.le_refl _) (.cells #[.int .i64 e.k, .bool e.g, .int .u64 (e.n : Int), .string e.s, .slice none 0 0] 36))
  have HS1 : Hid (∀ W, Below w5.heap.size w5 W → Srv (Oth O g A) W A op.reverse) := Lib.hid fun W hW => ((hx5.below hW).r).srv
  have HS2 : Hid (∀ W, Below w5.heap.size w5 W → Lsf (Oth O g A) W (.slice none 0 0) []) := Lib.hid fun W hW => .nil_
  have HFB : Hid (∀ b, Oth O g A b → b < w5.heap.size) := Lib.hid fun b hb => hx5.lo b hb.1
  have HMP : Hid (m = op.reverse.length) := Lib.hid (by simp [hm])
  have HPL : Hid (op.length ≤ 64 ∧ op.length = m) := Lib.hid ⟨hlen, hm⟩
  have hz1 : g < w5.heap.size := hg5
  clear hlens hx5 hm HB5 H5 v0 v1 v2 v3 v4 hlen hadd e15
  go_upto_region 13 with fail
  go_cut [66] (fun _ wx => Hid (∃ O', Mv No O w O' wx ∧ Bm wx g O' ⟨bare e :: op, none, N + 1, M⟩))
  case first =>
    go_region_law (first
          | (refine step_vals rfl (.tmp 58) (.tmp 62) rfl (Oth O g A) w5.heap.size _ [] op.reverse A m c rfl rfl HMP.out ?_ (HS1.out _ ?_) HFB.out ?_ (by have := HPL.out; simp <;> omega) ?_; (repeat (first | exact Vo.lit _ (by simp <;> omega) (by simp <;> omega) | refine Vo.drew ?_ | refine Vo.al ?_ (fun b hb => Nat.lt_of_lt_of_le (HFB.out b hb) (by simp <;> omega)) _)); (repeat (first | exact Below.refl _ _ | refine Below.drew ?_ | refine Below.alloc ?_ (by simp <;> omega) _)); (simp <;> omega); intro v1 w1 hvo1 hg1 hbw1; obtain ⟨⟨d0, d1⟩, ⟨d2, d3, d4, d5, d6⟩, hb3⟩ := HF.out w1 (Below.trans (by (repeat (first | exact Below.refl _ _ | refine Below.drew ?_ | refine Below.alloc ?_ (by simp <;> omega) _))) hbw1))
          | (refine step_vals rfl (.tmp 63) (.tmp 65) rfl (Oth O g A) w5.heap.size v1 op.reverse [bare e] _ _ _ rfl rfl rfl ?_ ?_ HFB.out ?_ (by have := HPL.out; simp <;> omega) ?_; (repeat (first | exact hvo1 | refine Vo.drew ?_ | refine Vo.al ?_ (fun b hb => Nat.lt_of_lt_of_le (HFB.out b hb) (by have := hb3.size; simp <;> omega)) _)); (first | exact Srv.one (C := .slice none 0 0) (heap_alloc_last _ _) (HS2.out _ (hb3.alloc hb3.size _)) | (refine Srv.one (T := 36) (C := .slice none 0 0) ((hg1.block _ (by simp <;> omega) (by show some _ ≠ some _; simp <;> omega)).trans ?_) (HS2.out _ hb3); (first | exact heap_alloc_last _ _ | exact bm_last2 _ _ _ | exact (Below.heap_alloc _ _ _ (by simp)).trans (heap_alloc_last _ _)))); (have := hb3.size; simp <;> omega); intro v2 w2 hvo2 hg2 hbw2; obtain ⟨A2, c2, rfl, hc2⟩ := hvo2.form (n := m + 1) (by have := HPL.out; simp <;> omega); obtain ⟨⟨e0, e1⟩, ⟨e2, e3, e4, e5, e6⟩, hb4⟩ := HF.out w2 (Below.trans (by (repeat (first | exact hb3 | refine Below.drew ?_ | refine Below.alloc ?_ (by have := hb3.size; simp <;> omega) _))) hbw2)))
    all_goals
      go_wp2_with fail
      go_meet
      first
        | exact Lib.hid (HPE.out _ _ _ hb4 hvo2)
        | exact Lib.hid (HPD.out _ _ _ hb4 hvo2)
  case rest =>
    have HZ := hcut
    go_wp2_with fail
    go_ret
    exact ⟨rfl, HZ.out⟩
end Go.Proofs.Yteebokhpoppgeaa.nn
namespace Go.Proofs.Yteebokhpoppgeaa.nn
open Go.RowKit

theorem rput_any (S : Bst) (g : Nat) (O : Nat → Prop) (e : Ev) (w : World) (h : Bm w g O S) (hG : GoodW S) (hw : wfE e) :
    Calls Try.prog 7 #[.pointer (some ⟨g, 0, none⟩), evv e] w fun x w' => x = .returned (.int .i64 (mayB S e : Int)) ∧ ∃ O', Mv No O w O' w' ∧ Bm w' g O' (putB S e) := by
  by_cases hm : mayB S e = 0
  · have hv := may_none hm
    obtain ⟨op, v, N, M⟩ := S
    obtain rfl : v = none := hv
    by_cases hk : e.k = 15
    · have hend : endOk op = true := by
        have := hm
        unfold mayB at this
        rw [if_neg (by simp), if_pos hk] at this
        by_cases hc : (e.g = false ∧ e.n = 0 ∧ e.s.size = 0) ∧ endOk op = true
        · exact hc.2
        · rw [if_neg hc] at this; cases this
      cases op with
      | nil => cases hend
      | cons p r =>
        have hp : putB ⟨p :: r, none, N, M⟩ e = ⟨(addB r p).1, (addB r p).2, N, M⟩ := by unfold putB; rw [if_neg (by rw [hm]; simp), if_pos hk]; rfl
        rw [hp, hm]
        exact rput_end p r N M g O e w h hG hw hm hk
    · cases hl : lf e.k with
      | true =>
        have hp : putB ⟨op, none, N, M⟩ e = ⟨(addB op (bare e)).1, (addB op (bare e)).2, N + 1, M⟩ := by unfold putB; rw [if_neg (by rw [hm]; simp), if_neg hk, if_pos hl]
        rw [hp, hm]
        exact rput_leaf op N M g O e w h hG hw hm hk hl
      | false =>
        have hp : putB ⟨op, none, N, M⟩ e = ⟨bare e :: op, none, N + 1, M⟩ := by unfold putB; rw [if_neg (by rw [hm]; simp), if_neg hk, if_neg (by rw [hl]; simp)]
        rw [hp, hm]
        exact rput_open op N M g O e w h hG hw hm hk hl
  · have hp : putB S e = S := by unfold putB; rw [if_pos hm]
    rw [hp]
    exact (rput_no S g O e w h hG hw hm).mono fun x w' ⟨h1, h2⟩ => ⟨h1, O, Mv.of_below h2, h.below h2⟩
end Go.Proofs.Yteebokhpoppgeaa.nn
namespace Go.Proofs.Yteebokhpoppgeaa.nn
open Go.RowKit

structure Us (w : World) (g : Nat) (L : List Ev) (i : Nat) (W : World) : Prop where
  r : ∃ O, Bm W g O (stB L i) ∧ ∀ b, O b → w.heap.size < b
  e : (runB (newB 64) (L.take i)).2.2 = 0
  b : Below w.heap.size w W
  k : Bk W w.heap.size 36 #[.int .i64 0, .bool false, .int .u64 0, .string ⟨#[]⟩, .slice none 0 0]
end Go.Proofs.Yteebokhpoppgeaa.nn
