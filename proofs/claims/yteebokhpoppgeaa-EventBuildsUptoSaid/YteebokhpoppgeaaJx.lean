/- Joined texts, what is wanted of them: BmAdd, BmNew. -/
import Derived.Deep.DeepCutAuto
import Derived.Deep.LoopGhost
import Derived.Deep.RegionWith
import Derived.Lib.MinMax
import Derived.Lib.Hide
import Derived.Deep.QuietTactic
import Derived.BigQuiet
import Derived.StillTailTactics
import Derived.IntWalk
import Derived.Deep.RegionHeld3
import Derived.Test.YteebokhpoppgeaaProg
import Derived.WalkKit
import Derived.Test.YteebokhpoppgeaaJk
import Derived.Test.YteebokhpoppgeaaJa
import Derived.Test.YteebokhpoppgeaaJc
import Derived.Test.YteebokhpoppgeaaJn
import Derived.Test.YteebokhpoppgeaaJg
import Derived.Test.YteebokhpoppgeaaJe
namespace Go.Proofs.Yteebokhpoppgeaa.nn
open Go.RowKit

theorem bm_open {p v : VT} {r : List VT} (h : p.k ≠ 13) : addB (p :: r) v = (p.snoc v :: r, none) := by unfold addB; rw [if_neg h]
theorem bm_tag {p v : VT} {r : List VT} (h : p.k = 13) : addB (p :: r) v = addB r (p.snoc v) := by rw [addB, if_pos h]

/-- the loop of add: what is open yet, the value that goes in -/
structure Ad (w : World) (g : Nat) (O : Nat → Prop) (A : Option Addr) (c : Nat) (D : Value) (S : Bst) (t : VT) (op : List VT) (t' : VT) (C' : Value) (O' : Nat → Prop) (W : World) : Prop where
  m : Mv No O w O' W
  x : Bmx W g O' A c D ⟨op, S.v, S.n, S.most⟩
  v : Bk W w.heap.size 36 (vc t' C')
  n : ¬ O' w.heap.size
  l : Lsf (Oth O' g A) W C' t'.l
  a : addB op t' = addB S.op t
  p : ∀ p, p ∈ op → p.l.length ≤ 1048577
/-- behind the appends: the box k holds the slice, all that was there but the box is as it was -/
structure Q6 (F : Nat → Prop) (W1 : World) (k : Nat) (p : VT) (v : Value) (l : List VT) (W : World) : Prop where
  m : Below k W1 W
  kept : ∀ b, b < W1.heap.size → b ≠ k → W.heap[b]? = W1.heap[b]?
  b : Bk W k 36 (vc p v)
  l : Lsf (fun b => F b ∨ W1.heap.size ≤ b) W v l
theorem Q6.drew {F : Nat → Prop} {W1 : World} {k : Nat} {p : VT} {v : Value} {l : List VT} {W : World} (h : Q6 F W1 k p v l W) : Q6 F W1 k p v l W.drew :=
  ⟨h.m.drew, h.kept, h.b, h.l.keep (Nat.le_refl _) fun _ _ _ => rfl⟩
theorem Q6.of {F : Nat → Prop} {W1 w2 : World} {k : Nat} {p : VT} {v0 v : Value} {l : List VT} (hv : Vo F W1.heap.size w2 v l) (hB : Below W1.heap.size W1 w2) (hk : k < W1.heap.size) (hp : Bk W1 k 36 (vc p v0)) (hF : ∀ b, F b → b ≠ k) : Q6 F W1 k p v l (w2.setCell ⟨k, 4, none⟩ v) := by
  refine ⟨(hB.mono (Nat.le_of_lt hk)).setCell (Nat.le_refl _) _, fun b hb hne => (Below.heap_setCell w2 ⟨k, 4, none⟩ v b hne).trans (hB.block b hb), (hp.below hB hk).set_ 4 v, hv.lsf.keep (by simp [World.setCell]) fun b hb _ => Below.heap_setCell w2 ⟨k, 4, none⟩ v b ?_⟩
  rcases hb with hb | hb
  · exact hF b hb
  · show b ≠ k
    omega
theorem Bmx.keep {w w' : World} {g : Nat} {O : Nat → Prop} {A : Option Addr} {c : Nat} {D : Value} {S : Bst} (h : Bmx w g O A c D S) (hs : w.heap.size ≤ w'.heap.size) (hb : ∀ b, O b → w'.heap[b]? = w.heap[b]?) : Bmx w' g O A c D S := by
  obtain ⟨h1, h2, h3, h4, h5⟩ := h
  have ho : ∀ b, Oth O g A b → b < w.heap.size → w'.heap[b]? = w.heap[b]? := fun b hb1 _ => hb b hb1.1
  refine ⟨h1, fun b hb1 => Nat.lt_of_lt_of_le (h2 b hb1) hs, (hb g h1).trans h3, ?_, h5.keep hs ho⟩
  rcases h4 with h4 | ⟨go, C, h6, h7, h8, h9, h10, h11⟩
  · exact .inl h4
  · refine .inr ⟨go, C, h6, h7, h8, h9, fun o => (World.frozen?_of_block (a := ⟨go, o, none⟩) (hb go h7)).trans (h10 o), fun i hi => ?_⟩
    obtain ⟨r, k⟩ := h11 i hi
    have e : w'.heap[go]? = w.heap[go]? := hb go h7
    exact ⟨⟨(World.cell?_of_block e).trans r.k, (World.cell?_of_block e).trans r.g, (World.cell?_of_block e).trans r.n, (World.cell?_of_block e).trans r.s, (World.cell?_of_block e).trans r.l⟩, k.keep hs ho⟩
theorem Bmx.al {w : World} {g : Nat} {O : Nat → Prop} {A : Option Addr} {c : Nat} {D : Value} {S : Bst} (h : Bmx w g O A c D S) (o : Obj) : Bmx (w.alloc o) g O A c D S := h.keep (by simp) fun b hb => Below.heap_alloc _ _ _ (h.lo b hb)
/-- what add answers -/
def AdAns (S : Bst) (t : VT) (g : Nat) (O : Nat → Prop) (w : World) (e : Ending) (w' : World) : Prop := e = .returned (.tuple #[]) ∧ ∃ O', Mv No O w O' w' ∧ Bm w' g O' ⟨(addB S.op t).1, (addB S.op t).2, S.n, S.most⟩
theorem bm_below5 {B g o : Nat} {w W : World} (h : Below B w W) (hg : B ≤ g) (a b c d e : Value) : Below B w (set5 W g o a b c d e) := by
  unfold set5
  exact ((((h.setCell (p := ⟨g, o, none⟩) hg a).setCell (p := ⟨g, o + 1, none⟩) hg b).setCell (p := ⟨g, o + 2, none⟩) hg c).setCell (p := ⟨g, o + 3, none⟩) hg d).setCell (p := ⟨g, o + 4, none⟩) hg e
set_option maxRecDepth 100000 in
set_option maxHeartbeats 40000000 in
theorem radd_any (S : Bst) (g : Nat) (O : Nat → Prop) (A : Option Addr) (c : Nat) (D : Value) (t : VT) (C : Value) (w : World) (h : Bmx w g O A c D S) (hv : S.v = none) (hC : Lsf (Oth O g A) w C t.l) (hn : S.op.length ≤ 1048577) (hp : ∀ p, p ∈ S.op → p.l.length ≤ 1048577) :
    Calls Try.prog 23 #[.pointer (some ⟨g, 0, none⟩), vv t C] w (AdAns S t g O w) := by
  have HA0 : Hid (Ad w g O A c D S t S.op t C O (w.alloc (.cells (vc t C) 36))) := Lib.hid ⟨Mv.al0 _ _ _ _, h.al _, heap_alloc_last _ _, fun ho => by have := h.lo _ ho; omega, hC.al (fun b hb => h.lo b hb.1) _, rfl, hp⟩
  have hgl := h.lo g h.o
  unfold vv
  clear h hC hp
  go_enter Try.func23, Try.ntmps23
  go_wp2_with fail
  go_loopg [4] S.op.length (fun k _ wr => ∃ (op : List VT) (t' : VT) (C' : Value) (O' : Nat → Prop), k = op.length ∧ op.length ≤ 1048577 ∧ Hid (Ad w g O A c D S t op t' C' O' wr))
  case atStart => exact ⟨S.op, t, C, O, rfl, hn, HA0⟩
  case round =>
    obtain ⟨op, t', C', O', hg, hop, hI⟩ := hrel
    have hvb := hI.out.v.lt
    have hx := hI.out.x.b
    rw [hv] at hx
    have hgr := Nat.lt_of_lt_of_le hgl (Nat.le_trans hI.out.m.size (Nat.le_refl _))
    obtain ⟨AC, mC, cC, rfl⟩ : ∃ A m c, C' = .slice A m c := by obtain ⟨a, b, e, _⟩ := hI.out.l.lst.out; exact ⟨a, _, b, e⟩
    have v0 : wr.cell? ⟨w.heap.size, 0, none⟩ = some (.int .i64 t'.k) := hI.out.v.cell 0
    have v1 : wr.cell? ⟨w.heap.size, 1, none⟩ = some (.bool t'.g) := hI.out.v.cell 1
    have v2 : wr.cell? ⟨w.heap.size, 2, none⟩ = some (.int .u64 (t'.n : Int)) := hI.out.v.cell 2
    have v3 : wr.cell? ⟨w.heap.size, 3, none⟩ = some (.string t'.s) := hI.out.v.cell 3
    have v4 : wr.cell? ⟨w.heap.size, 4, none⟩ = some (.slice AC mC cC) := hI.out.v.cell 4
    have g0 : wr.cell? ⟨g, 0, none⟩ = some (.slice A op.length c) := hx.cell 0
    have gf0 : wr.frozen? ⟨g, 0, none⟩ = false := hx.frozen 0
    have g1 : wr.cell? ⟨g, 1, none⟩ = some (.bool false) := hx.cell 1
    have gf1 : wr.frozen? ⟨g, 1, none⟩ = false := hx.frozen 1
    have g2 : wr.cell? ⟨g, 2, none⟩ = some (.int .i64 0) := hx.cell 2
    have gf2 : wr.frozen? ⟨g, 2, none⟩ = false := hx.frozen 2
    have g3 : wr.cell? ⟨g, 3, none⟩ = some (.bool false) := hx.cell 3
    have gf3 : wr.frozen? ⟨g, 3, none⟩ = false := hx.frozen 3
    have g4 : wr.cell? ⟨g, 4, none⟩ = some (.int .u64 0) := hx.cell 4
    have gf4 : wr.frozen? ⟨g, 4, none⟩ = false := hx.frozen 4
    have g5 : wr.cell? ⟨g, 5, none⟩ = some (.string ⟨#[]⟩) := hx.cell 5
    have gf5 : wr.frozen? ⟨g, 5, none⟩ = false := hx.frozen 5
    have g6 : wr.cell? ⟨g, 6, none⟩ = some D := hx.cell 6
    have gf6 : wr.frozen? ⟨g, 6, none⟩ = false := hx.frozen 6
    have hgv : g ≠ w.heap.size := by omega
    have HX := Lib.hid hx
    clear hx
    cases op with
    | nil =>
      simp only [List.length_nil] at g0
      go_wp2_with fail
      go_end0
      have ha : addB S.op t = ([], some t') := hI.out.a.symm
      refine ⟨rfl, O', (((((hI.out.m.cell hI.out.x.o _).cell hI.out.x.o _).cell hI.out.x.o _).cell hI.out.x.o _).cell hI.out.x.o _).cell hI.out.x.o _, hI.out.x.o, fun b hb => by simp only [setCell_sz]; exact hI.out.x.lo b hb, A, c, .slice AC mC cC, ?_, ?_, ?_⟩
      · rw [ha]
        exact (((((HX.out.set_ 2 _).set_ 3 _).set_ 4 _).set_ 5 _).set_ 6 _).set_ 1 _
      · rw [ha]
        exact .inl rfl
      · rw [ha]
        refine hI.out.l.keep (by simp only [setCell_sz]; exact Nat.le_refl _) fun b hb _ => ?_
        rw [off_g hb.2.1, off_g hb.2.1, off_g hb.2.1, off_g hb.2.1, off_g hb.2.1, off_g hb.2.1]
    | cons p r =>
      obtain ⟨go, Cp, rfl, ho, hne, hcap, hfz, hr, hl⟩ := hI.out.x.r.top
      have hgo := hI.out.x.lo go ho
      obtain ⟨Ap, mp, cp, rfl⟩ : ∃ A m c, Cp = .slice A m c := by obtain ⟨a, b, e, _⟩ := hl.lst.out; exact ⟨a, _, b, e⟩
      have r0 := hr.k
      have r1 := hr.g
      have r2 := hr.n
      have r3 := hr.s
      have r4 := hr.l
      obtain ⟨n0, hn0⟩ : ∃ n0, r.length = n0 := ⟨_, rfl⟩
      simp only [List.length_cons] at g0 hop hg
      rw [hn0] at r0 r1 r2 r3 r4 g0 hop hcap hg
      have hsub : IntKind.i64.wrap (((n0 + 1 : Nat) : Int) - 1) = (n0 : Int) := by rw [IntWalk.i64_in _ ⟨by omega, by omega⟩]; omega
      have HN0 := Lib.hid hn0
      have HL := Lib.hid hl
      clear hr hl hn0
      go_wp2_with fail
      go_upto_region 6 with fail
      obtain ⟨W1, hW1⟩ : ∃ W1, wr.alloc (.cells #[.int .i64 p.k, .bool p.g, .int .u64 (p.n : Int), .string p.s, .slice Ap mp cp] 36) = W1 := ⟨_, rfl⟩
      rw [hW1]
      have hz1 : wr.heap.size < W1.heap.size := by rw [← hW1]; simp
      have hpb : Bk W1 wr.heap.size 36 (vc p (.slice Ap mp cp)) := by rw [← hW1]; exact heap_alloc_last _ _
      have HBW : Hid (Below wr.heap.size wr W1) := Lib.hid (by rw [← hW1]; exact (Below.refl _ _).alloc (Nat.le_refl _) _)
      have hk1 : ∀ b, b < wr.heap.size → W1.heap[b]? = wr.heap[b]? := fun b hb => by rw [← hW1]; exact Below.heap_alloc _ _ _ hb
      have HF : Hid (∀ W, Below W1.heap.size W1 W → (W.cell? ⟨wr.heap.size, 4, none⟩ = some (.slice Ap mp cp) ∧ W.frozen? ⟨wr.heap.size, 4, none⟩ = false) ∧ (W.cell? ⟨w.heap.size, 0, none⟩ = some (.int .i64 t'.k) ∧ W.cell? ⟨w.heap.size, 1, none⟩ = some (.bool t'.g) ∧ W.cell? ⟨w.heap.size, 2, none⟩ = some (.int .u64 (t'.n : Int)) ∧ W.cell? ⟨w.heap.size, 3, none⟩ = some (.string t'.s) ∧ W.cell? ⟨w.heap.size, 4, none⟩ = some (.slice AC mC cC)) ∧ Below W1.heap.size W1 W) := Lib.hid fun W hW => by
        have h1 := hpb.below hW hz1
        have h2 : Bk W w.heap.size 36 (vc t' (.slice AC mC cC)) := (hW.block _ (by omega)).trans ((hk1 _ hvb).trans hI.out.v)
        exact ⟨⟨h1.cell 4, h1.frozen 4⟩, ⟨h2.cell 0, h2.cell 1, h2.cell 2, h2.cell 3, h2.cell 4⟩, hW⟩
      obtain ⟨⟨a0, a1⟩, ⟨a2, a3, a4, a5, a6⟩, hb0⟩ := HF.out W1 (Below.refl _ _)
      obtain ⟨⟨b0, b1⟩, ⟨b2, b3, b4, b5, b6⟩, hb1⟩ := HF.out _ (hb0.alloc (Nat.le_refl _) (.cells #[] 36))
      obtain ⟨⟨c0, c1⟩, ⟨c2, c3, c4, c5, c6⟩, hb2⟩ := HF.out _ (hb0.alloc (Nat.le_refl _) (.cells #[.int .i64 t'.k, .bool t'.g, .int .u64 (t'.n : Int), .string t'.s, .slice AC mC cC] 36))
      have hl1 : Lsf (Oth O' g (some ⟨go, 0, none⟩)) W1 (.slice Ap mp cp) p.l := HL.out.keep (Nat.le_of_lt hz1) fun b hb hlt => hk1 b hlt
      have hl2 : Lsf (Oth O' g (some ⟨go, 0, none⟩)) W1 (.slice AC mC cC) t'.l := hI.out.l.keep (Nat.le_of_lt hz1) fun b hb hlt => hk1 b hlt
      have hFB : ∀ b, Oth O' g (some ⟨go, 0, none⟩) b → b < W1.heap.size := fun b hb => Nat.lt_trans (hI.out.x.lo b hb.1) hz1
      have hFk : ∀ b, Oth O' g (some ⟨go, 0, none⟩) b → b ≠ wr.heap.size := fun b hb => by have := hI.out.x.lo b hb.1; omega
      have hmp : mp = p.l.length := by obtain ⟨_, _, e, _⟩ := hl1.src; injection e
      have hpl : p.l.length ≤ 1048577 := hI.out.p p (by simp)
      have HS1 : Hid (∀ W, Below W1.heap.size W1 W → Srv (Oth O' g (some ⟨go, 0, none⟩)) W Ap p.l) := Lib.hid fun W hW => by
        obtain ⟨A3, c3, e, hs⟩ := (hl1.keep hW.size fun b _ hlt => hW.block b hlt).src
        injection e with e1
        subst e1
        exact hs
      have HS2 : Hid (∀ W, Below W1.heap.size W1 W → Lsf (Oth O' g (some ⟨go, 0, none⟩)) W (.slice AC mC cC) t'.l) := Lib.hid fun W hW => hl2.keep hW.size fun b _ hlt => hW.block b hlt
      have HP := Lib.hid hpb
      have HK1 := Lib.hid hk1
      have HFB := Lib.hid hFB
      have HFK := Lib.hid hFk
      have HMP := Lib.hid hmp
      have HPL := Lib.hid hpl
      clear hl1 hl2 hFB hFk hmp hpl hpb hW1 hk1
      go_cut [34] (fun s34 wx => ∃ A2 c2, s34 = .slice A2 (mp + 1) c2 ∧ Hid (Q6 (Oth O' g (some ⟨go, 0, none⟩)) W1 wr.heap.size p (.slice A2 (mp + 1) c2) (p.l ++ [t']) wx))
      case first =>
        go_region_law (first
          | (refine step_vals rfl (.tmp 28) (.tmp 30) rfl (Oth O' g (some ⟨go, 0, none⟩)) W1.heap.size _ [] p.l Ap mp cp rfl rfl HMP.out ?_ (HS1.out _ ?_) HFB.out ?_ (by have := HPL.out; simp <;> omega) ?_; (repeat (first | exact Vo.lit _ (by simp <;> omega) (by simp <;> omega) | refine Vo.drew ?_ | refine Vo.al ?_ (fun b hb => Nat.lt_of_lt_of_le (HFB.out b hb) (by simp <;> omega)) _)); (repeat (first | exact Below.refl _ _ | refine Below.drew ?_ | refine Below.alloc ?_ (by simp <;> omega) _)); (simp <;> omega); intro v1 w1 hvo1 hg1 hbw1; obtain ⟨⟨d0, d1⟩, ⟨d2, d3, d4, d5, d6⟩, hb3⟩ := HF.out w1 (Below.trans (by (repeat (first | exact Below.refl _ _ | refine Below.drew ?_ | refine Below.alloc ?_ (by simp <;> omega) _))) hbw1))
          | (refine step_vals rfl (.tmp 31) (.tmp 33) rfl (Oth O' g (some ⟨go, 0, none⟩)) W1.heap.size v1 p.l [t'] _ _ _ rfl rfl rfl ?_ ?_ HFB.out ?_ (by have := HPL.out; simp <;> omega) ?_; (repeat (first | exact hvo1 | refine Vo.drew ?_ | refine Vo.al ?_ (fun b hb => Nat.lt_of_lt_of_le (HFB.out b hb) (by have := hb3.size; simp <;> omega)) _)); (first | exact Srv.one (C := .slice AC mC cC) (heap_alloc_last _ _) (HS2.out _ (hb3.alloc hb3.size _)) | (refine Srv.one (T := 36) (C := .slice AC mC cC) ((hg1.block _ (by simp <;> omega) (by show some _ ≠ some _; simp <;> omega)).trans ?_) (HS2.out _ hb3); (first | exact heap_alloc_last _ _ | exact bm_last2 _ _ _ | exact (Below.heap_alloc _ _ _ (by simp)).trans (heap_alloc_last _ _)))); (have := hb3.size; simp <;> omega); intro v2 w2 hvo2 hg2 hbw2; obtain ⟨A2, c2, rfl, hc2⟩ := hvo2.form (n := mp + 1) (by have := HMP.out; simp <;> omega); obtain ⟨⟨e0, e1⟩, ⟨e2, e3, e4, e5, e6⟩, hb4⟩ := HF.out w2 (Below.trans (by (repeat (first | exact hb3 | refine Below.drew ?_ | refine Below.alloc ?_ (by have := hb3.size; simp <;> omega) _))) hbw2)))
        all_goals
          go_wp2_with fail
          go_meet
          first
            | exact ⟨_, _, rfl, Lib.hid (Q6.of hvo2 hb4 hz1 HP.out HFK.out)⟩
            | exact ⟨_, _, rfl, Lib.hid (Q6.of hvo2 hb4 hz1 HP.out HFK.out).drew⟩
      case rest =>
        obtain ⟨A2, c2, rfl, HQ⟩ := hcut
        have HKC : Hid (∀ b, b < wr.heap.size → wc.heap[b]? = wr.heap[b]?) := Lib.hid fun b hb => (HQ.out.kept b (by omega) (by omega)).trans (HK1.out b hb)
        have HZC : Hid (W1.heap.size ≤ wc.heap.size) := Lib.hid HQ.out.m.size
        have hbb := HQ.out.b
        have b0 : wc.cell? ⟨wr.heap.size, 0, none⟩ = some (.int .i64 p.k) := hbb.cell 0
        have b1 : wc.cell? ⟨wr.heap.size, 1, none⟩ = some (.bool p.g) := hbb.cell 1
        have b2 : wc.cell? ⟨wr.heap.size, 2, none⟩ = some (.int .u64 (p.n : Int)) := hbb.cell 2
        have b3 : wc.cell? ⟨wr.heap.size, 3, none⟩ = some (.string p.s) := hbb.cell 3
        have b4 : wc.cell? ⟨wr.heap.size, 4, none⟩ = some (.slice A2 (mp + 1) c2) := hbb.cell 4
        have HGC : Hid (Bk wc g 38 (bmC (some ⟨go, 0, none⟩) c D ⟨p :: r, none, S.n, S.most⟩)) := Lib.hid ((HKC.out g hgr).trans HX.out)
        have x0 : wc.cell? ⟨g, 0, none⟩ = some (.slice (some ⟨go, 0, none⟩) (n0 + 1) c) := by have := HGC.out.cell 0; rw [this]; simp [bmC, HN0.out]
        have xf0 : wc.frozen? ⟨g, 0, none⟩ = false := HGC.out.frozen 0
        have HVC : Hid (Bk wc w.heap.size 36 (vc t' (.slice AC mC cC))) := Lib.hid ((HKC.out _ hvb).trans hI.out.v)
        have y0 : wc.cell? ⟨w.heap.size, 0, none⟩ = some (.int .i64 t'.k) := HVC.out.cell 0
        have yf0 : wc.frozen? ⟨w.heap.size, 0, none⟩ = false := HVC.out.frozen 0
        have y1 : wc.cell? ⟨w.heap.size, 1, none⟩ = some (.bool t'.g) := HVC.out.cell 1
        have yf1 : wc.frozen? ⟨w.heap.size, 1, none⟩ = false := HVC.out.frozen 1
        have y2 : wc.cell? ⟨w.heap.size, 2, none⟩ = some (.int .u64 (t'.n : Int)) := HVC.out.cell 2
        have yf2 : wc.frozen? ⟨w.heap.size, 2, none⟩ = false := HVC.out.frozen 2
        have y3 : wc.cell? ⟨w.heap.size, 3, none⟩ = some (.string t'.s) := HVC.out.cell 3
        have yf3 : wc.frozen? ⟨w.heap.size, 3, none⟩ = false := HVC.out.frozen 3
        have y4 : wc.cell? ⟨w.heap.size, 4, none⟩ = some (.slice AC mC cC) := HVC.out.cell 4
        have yf4 : wc.frozen? ⟨w.heap.size, 4, none⟩ = false := HVC.out.frozen 4
        have kgo : ∀ o, wc.cell? ⟨go, o, none⟩ = wr.cell? ⟨go, o, none⟩ := fun o => World.cell?_of_block (a := ⟨go, o, none⟩) (HKC.out go hgo)
        have fgo : ∀ o, wc.frozen? ⟨go, o, none⟩ = false := fun o => (World.frozen?_of_block (a := ⟨go, o, none⟩) (HKC.out go hgo)).trans (hfz o)
        have z0 := (kgo _).trans r0
        have z1 := (kgo _).trans r1
        have z2 := (kgo _).trans r2
        have z3 := (kgo _).trans r3
        have z4 := (kgo _).trans r4
        have f0 := fgo (n0 * 5)
        have f1 := fgo (n0 * 5 + 1)
        have f2 := fgo (n0 * 5 + 2)
        have f3 := fgo (n0 * 5 + 3)
        have f4 := fgo (n0 * 5 + 4)
        clear hbb kgo fgo v0 v1 v2 v3 v4 g0 gf0 g1 gf1 g2 gf2 g3 gf3 g4 gf4 g5 gf5 g6 gf6 r0 r1 r2 r3 r4 a0 a1 a2 a3 a4 a5 a6 hb0 hb1 hb2 HF HS1 HS2
        by_cases hk : p.k = 13
        · rw [hk] at b0
          go_wp2_with fail
          have hx : Bk wr g 38 (bmC (some ⟨go, 0, none⟩) c D ⟨p :: r, none, S.n, S.most⟩) := HX.out
          have hll : Lsf (Oth O' g (some ⟨go, 0, none⟩)) wr D [] := by have := hI.out.x.l; rw [hv] at this; exact this
          have hN := add_next hI.out.x.o ho hI.out.x.lo (Nat.le_of_lt hz1) HZC.out hx hI.out.x.r hll HKC.out HN0.out HQ.out.l HVC.out hI.out.n (by omega) hgv
          have hB : Below wr.heap.size wr wc := HBW.out.trans HQ.out.m
          obtain ⟨Wf, hWf⟩ : ∃ Wf, set5 (wc.setCell ⟨g, 0, none⟩ (.slice (some ⟨go, 0, none⟩) n0 c)) w.heap.size 0 (.int .i64 p.k) (.bool p.g) (.int .u64 (p.n : Int)) (.string p.s) (.slice A2 (mp + 1) c2) = Wf := ⟨_, rfl⟩
          have hBf : Below 0 wc Wf := by rw [← hWf]; exact bm_below5 ((Below.refl 0 wc).setCell (p := ⟨g, 0, none⟩) (Nat.zero_le _) _) (Nat.zero_le _) _ _ _ _ _
          have hszf : Wf.heap.size = wc.heap.size := by rw [← hWf, set5_size, setCell_sz]
          have hkf : ∀ b, b ≠ w.heap.size → b ≠ g → Wf.heap[b]? = wc.heap[b]? := fun b h1 h2 => by rw [← hWf, set5_other _ _ _ _ _ _ _ _ _ h1, off_g h2]
          rw [hWf] at hN
          unfold set5 at hWf
          simp only [Nat.zero_add] at hWf
          rw [hk] at hWf
          have hMf : Mv No O w (fun b => O' b ∨ (W1.heap.size ≤ b ∧ b < wc.heap.size)) Wf := by
            refine hI.out.m.fin (fun _ => .inl) (fun b h => ?_) (by rw [hszf]; exact hB.size) (hBf.os.trans hB.os) (hBf.tape.trans hB.tape) (hBf.output.trans hB.output) fun b hb hn => ?_
            · rcases h with h | h
              · exact .inl h
              · exact .inr ⟨by omega, by rw [hszf]; exact h.2⟩
            · exact (hkf b (by omega) (fun e => hn (by rw [e]; exact hI.out.x.o))).trans (HKC.out b (by omega))
          have hRf : Hid (Ad w g O (some ⟨go, 0, none⟩) c D S t r (p.snoc t') (.slice A2 (mp + 1) c2) (fun b => O' b ∨ (W1.heap.size ≤ b ∧ b < wc.heap.size)) Wf) := Lib.hid ⟨hMf, by rw [hv]; exact hN.1, hN.2.1, by
            rintro (h | h)
            · exact hI.out.n h
            · omega, hN.2.2, by rw [← hI.out.a, bm_tag hk], fun q hq => hI.out.p q (by simp [hq])⟩
          go_roundg r.length
          case measure => have := HN0.out; omega
          case rel =>
            rw [hWf]
            exact ⟨r, p.snoc t', .slice A2 (mp + 1) c2, _, rfl, by have := HN0.out; omega, hRf⟩
        · have hkk : (p.k != 13) = true := by simpa using hk
          go_wp2_with fail
          go_region
          all_goals
            go_wp2_with fail
            go_end0
            have hx : Bk wr g 38 (bmC (some ⟨go, 0, none⟩) c D ⟨p :: r, none, S.n, S.most⟩) := HX.out
            have hll : Lsf (Oth O' g (some ⟨go, 0, none⟩)) wr D [] := by have := hI.out.x.l; rw [hv] at this; exact this
            have hN := add_end hI.out.x.o ho hne hI.out.x.lo (Nat.le_of_lt hz1) HZC.out hx hI.out.x.r hll HKC.out HN0.out HQ.out.l
            have hB : Below wr.heap.size wr wc := HBW.out.trans HQ.out.m
            have ha : addB S.op t = (p.snoc t' :: r, none) := by rw [← hI.out.a, bm_open hk]
            obtain ⟨Wf, hWf⟩ : ∃ Wf, set5 wc go (n0 * 5) (.int .i64 p.k) (.bool p.g) (.int .u64 (p.n : Int)) (.string p.s) (.slice A2 (mp + 1) c2) = Wf := ⟨_, rfl⟩
            have hBf : Below 0 wc Wf := by rw [← hWf]; exact bm_below5 (Below.refl 0 wc) (Nat.zero_le _) _ _ _ _ _
            have hszf : Wf.heap.size = wc.heap.size := by rw [← hWf, set5_size]
            have hkf : ∀ b, b ≠ go → Wf.heap[b]? = wc.heap[b]? := fun b h1 => by rw [← hWf, set5_other _ _ _ _ _ _ _ _ _ h1]
            rw [hWf] at hN
            have hMf : Mv No O w (fun b => O' b ∨ (W1.heap.size ≤ b ∧ b < wc.heap.size)) Wf := by
              refine hI.out.m.fin (fun _ => .inl) (fun b h => ?_) (by rw [hszf]; exact hB.size) (hBf.os.trans hB.os) (hBf.tape.trans hB.tape) (hBf.output.trans hB.output) fun b hb hn => ?_
              · rcases h with h | h
                · exact .inl h
                · exact .inr ⟨by omega, by rw [hszf]; exact h.2⟩
              · exact (hkf b (fun e => hn (by rw [e]; exact ho))).trans (HKC.out b (by omega))
            have hRf : AdAns S t g O w (.returned (.tuple #[])) Wf := ⟨rfl, _, hMf, by rw [ha]; exact hN⟩
            have hRd : AdAns S t g O w (.returned (.tuple #[])) Wf.drew := ⟨rfl, _, hMf.trans (Mv.drew _ _ _), by rw [ha]; exact hN.keep (Nat.le_refl _) fun _ _ => rfl⟩
            unfold set5 at hWf
            rw [hWf]
            first
              | exact hRf
              | exact hRd
end Go.Proofs.Yteebokhpoppgeaa.nn
namespace Go.Proofs.Yteebokhpoppgeaa.nn
open Go.RowKit

/-- what the document's New answers -/
def RnAns (d : Int) (w : World) (x : Ending) (w' : World) : Prop := ∃ g O, x = .returned (.pointer (some ⟨g, 0, none⟩)) ∧ Bm w' g O (newB d) ∧ (∀ b, O b → w.heap.size ≤ b) ∧ Below w.heap.size w w'
set_option maxRecDepth 100000 in
set_option maxHeartbeats 1000000 in
theorem rnew_any (d : Int) (w : World) : Calls Try.prog 5 #[.int .i64 d] w (RnAns d w) := by
  obtain ⟨x, hx⟩ : ∃ x, max d 0 = x := ⟨_, rfl⟩
  obtain ⟨M, hM⟩ : ∃ M : Nat, min x 64 = (M : Int) := ⟨(min x 64).toNat, by omega⟩
  have HN : Hid (newB d = ⟨[], none, 0, M⟩) := Lib.hid (by unfold newB; rw [hx, hM]; rfl)
  have HF : Hid (RnAns d w (.returned (.pointer (some ⟨w.heap.size, 0, none⟩))) (w.alloc (.cells #[.slice none 0 0, .bool false, .int .i64 0, .bool false, .int .u64 0, .string ⟨#[]⟩, .slice none 0 0, .int .i64 0, .int .i64 (M : Int)] 38))) := Lib.hid
    ⟨w.heap.size, fun b => b = w.heap.size, rfl, ⟨rfl, fun b hb => by rw [hb]; simp, none, 0, .slice none 0 0, by rw [HN.out]; exact heap_alloc_last _ _, by rw [HN.out]; exact .inl rfl, by rw [HN.out]; exact .nil_⟩, fun b hb => by rw [hb]; exact Nat.le_refl _, (Below.refl _ _).alloc (Nat.le_refl _) _⟩
  clear HN
  go_enter Try.func5, Try.ntmps5
  go_wp2_with fail
  go_ret
  exact HF.out
end Go.Proofs.Yteebokhpoppgeaa.nn
