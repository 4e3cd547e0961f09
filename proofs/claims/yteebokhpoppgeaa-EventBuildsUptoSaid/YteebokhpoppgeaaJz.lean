/- Joined texts, what is wanted of them: BmPutA, BmPutB, BmPutC. -/
import Derived.Deep.DeepCutAuto
import Derived.Lib.Hide
import Derived.Deep.QuietTactic
import Derived.BigQuiet
import Derived.StillTailTactics
import Derived.IntWalk
import Derived.Deep.RegionHeld3
import Derived.Test.YteebokhpoppgeaaProg
import Derived.WalkKit
import Derived.Test.YteebokhpoppgeaaJh
import Derived.Test.YteebokhpoppgeaaJk
import Derived.Test.YteebokhpoppgeaaJb
import Derived.Test.YteebokhpoppgeaaJq
import Derived.Test.YteebokhpoppgeaaJo
import Derived.Test.YteebokhpoppgeaaJa
import Derived.Test.YteebokhpoppgeaaJg
import Derived.Test.YteebokhpoppgeaaJp
import Derived.Test.YteebokhpoppgeaaJe
import Derived.Test.YteebokhpoppgeaaJc
import Derived.Test.YteebokhpoppgeaaJn
import Derived.Test.YteebokhpoppgeaaJy
import Derived.Test.YteebokhpoppgeaaJx
namespace Go.Proofs.Yteebokhpoppgeaa.nn
open Go.RowKit

theorem Bmx.below {w w' : World} {g : Nat} {O : Nat → Prop} {A : Option Addr} {c : Nat} {D : Value} {S : Bst} (h : Bmx w g O A c D S) (hB : Below w.heap.size w w') : Bmx w' g O A c D S := h.keep hB.size fun b hb => hB.block b (h.lo b hb)
theorem Bm.bmx {w : World} {g : Nat} {O : Nat → Prop} {S : Bst} (h : Bm w g O S) : ∃ A c D, Bmx w g O A c D S := by
  obtain ⟨h1, h2, A, c, D, h3, h4, h5⟩ := h
  exact ⟨A, c, D, h1, h2, h3, h4, h5⟩
/-- one value more is counted -/
theorem Bmx.more {w : World} {g : Nat} {O : Nat → Prop} {A : Option Addr} {c : Nat} {D : Value} {S : Bst} (h : Bmx w g O A c D S) : Bmx (w.setCell ⟨g, 7, none⟩ (.int .i64 ((S.n + 1 : Nat) : Int))) g O A c D ⟨S.op, S.v, S.n + 1, S.most⟩ := by
  obtain ⟨h1, h2, h3, h4, h5⟩ := h
  have hs : (w.setCell ⟨g, 7, none⟩ (.int .i64 ((S.n + 1 : Nat) : Int))).heap.size = w.heap.size := setCell_sz _ _ _
  have hot : ∀ b, b ≠ g → (w.setCell ⟨g, 7, none⟩ (.int .i64 ((S.n + 1 : Nat) : Int))).heap[b]? = w.heap[b]? := fun b hb => off_g hb
  obtain ⟨W, hW⟩ : ∃ W, w.setCell ⟨g, 7, none⟩ (.int .i64 ((S.n + 1 : Nat) : Int)) = W := ⟨_, rfl⟩
  have hb := h3.set_ 7 (.int .i64 ((S.n + 1 : Nat) : Int))
  rw [hW] at hs hot hb ⊢
  refine ⟨h1, fun b hb => by rw [hs]; exact h2 b hb, hb, ?_, h5.keep (Nat.le_of_eq hs.symm) fun b hb _ => hot b hb.2.1⟩
  rcases h4 with h4 | ⟨go, C, e, h6, h7, h8, h9, h10⟩
  · exact .inl h4
  · refine .inr ⟨go, C, e, h6, h7, h8, fun o => (World.frozen?_of_block (a := ⟨go, o, none⟩) (hot go h7)).trans (h9 o), fun i hi => ?_⟩
    obtain ⟨r, k⟩ := h10 i hi
    have e3 := hot go h7
    exact ⟨⟨(World.cell?_of_block e3).trans r.k, (World.cell?_of_block e3).trans r.g, (World.cell?_of_block e3).trans r.n, (World.cell?_of_block e3).trans r.s, (World.cell?_of_block e3).trans r.l⟩, k.keep (Nat.le_of_eq hs.symm) fun b hb _ => hot b hb.2.1⟩
/-- the innermost is taken off -/
theorem Bmx.pop {w : World} {g go c : Nat} {O : Nat → Prop} {D : Value} {p : VT} {r : List VT} {N M n0 : Nat} (h : Bmx w g O (some ⟨go, 0, none⟩) c D ⟨p :: r, none, N, M⟩) (hn : r.length = n0) (hgo : O go) : Bmx (w.setCell ⟨g, 0, none⟩ (.slice (some ⟨go, 0, none⟩) n0 c)) g O (some ⟨go, 0, none⟩) c D ⟨r, none, N, M⟩ := by
  obtain ⟨h1, h2, h3, h4, h5⟩ := h
  subst hn
  have hs : (w.setCell ⟨g, 0, none⟩ (.slice (some ⟨go, 0, none⟩) r.length c)).heap.size = w.heap.size := setCell_sz _ _ _
  have hot : ∀ b, b ≠ g → (w.setCell ⟨g, 0, none⟩ (.slice (some ⟨go, 0, none⟩) r.length c)).heap[b]? = w.heap[b]? := fun b hb => off_g hb
  have hb := h3.set_ 0 (.slice (some ⟨go, 0, none⟩) r.length c)
  obtain ⟨W, hW⟩ : ∃ W, w.setCell ⟨g, 0, none⟩ (.slice (some ⟨go, 0, none⟩) r.length c) = W := ⟨_, rfl⟩
  rw [hW] at hs hot hb ⊢
  exact ⟨h1, fun b hb => by rw [hs]; exact h2 b hb, hb, h4.tail (fun _ h => h) (Nat.le_of_eq hs.symm) (fun b _ hne _ => hot b hne) (h2 go hgo), h5.keep (Nat.le_of_eq hs.symm) fun b hb _ => hot b hb.2.1⟩
theorem Opn.srv {w : World} {g : Nat} {O : Nat → Prop} {A : Option Addr} {c : Nat} {l : List VT} (h : Opn w g O A c l) : Srv (Oth O g A) w A l := by
  rcases h with h | ⟨go, C, e, h6, h7, h8, h9, h10⟩
  · exact .inl h
  · exact .inr ⟨go, 0, C, e, fun i hi => by rw [Nat.zero_add]; exact h10 i hi⟩
/-- one more is open -/
theorem push_end {w W : World} {g c n c2 : Nat} {O : Nat → Prop} {A A2 : Option Addr} {D : Value} {op : List VT} {t : VT} {N M : Nat} (h : Bmx w g O A c D ⟨op, none, N, M⟩) (hn : n = op.length + 1) (hB : Below w.heap.size w W) (hv : Vo (Oth O g A) w.heap.size W (.slice A2 n c2) (op.reverse ++ [t])) :
    Bm (W.setCell ⟨g, 0, none⟩ (.slice A2 n c2)) g (fun b => O b ∨ (w.heap.size ≤ b ∧ b < W.heap.size)) ⟨t :: op, none, N, M⟩ ∧ Mv No O w (fun b => O b ∨ (w.heap.size ≤ b ∧ b < W.heap.size)) (W.setCell ⟨g, 0, none⟩ (.slice A2 n c2)) := by
  obtain ⟨h1, h2, h3, h4, h5⟩ := h
  have hg := h2 g h1
  have hz := hB.size
  have hs : (W.setCell ⟨g, 0, none⟩ (.slice A2 n c2)).heap.size = W.heap.size := setCell_sz _ _ _
  have hot : ∀ b, b ≠ g → (W.setCell ⟨g, 0, none⟩ (.slice A2 n c2)).heap[b]? = W.heap[b]? := fun b hb => off_g hb
  have hb := (h3.below hB hg).set_ 0 (.slice A2 n c2)
  have hBs : Below 0 W (W.setCell ⟨g, 0, none⟩ (.slice A2 n c2)) := (Below.refl 0 W).setCell (p := ⟨g, 0, none⟩) (Nat.zero_le _) _
  have hkeep : ∀ b, b < w.heap.size → b ≠ g → (W.setCell ⟨g, 0, none⟩ (.slice A2 n c2)).heap[b]? = w.heap[b]? := fun b hlt hne => (hot b hne).trans (hB.block b hlt)
  have hlen : (op.reverse ++ [t]).length = n := by simp [hn]
  obtain ⟨C, own, hC⟩ := hv
  rw [hlen] at own
  obtain ⟨gq, cap, cur, e, hq, hbq, hcap, _, _, ht⟩ : ∃ gq cap cur, Value.slice A2 n c2 = .slice (some ⟨gq, 0, none⟩) n cap ∧ w.heap.size ≤ gq ∧ W.heap[gq]? = some (.cells cur 36 (0, 0)) ∧ n ≤ cap ∧ True ∧ True ∧ cur.toList.take (n * 5) = rcs C 0 (op.reverse ++ [t]) := by
    rcases own.2 with ⟨_, h0⟩ | ⟨gq, cap, cur, e, hq, hbq, hcap, _, _, ht⟩
    · omega
    · exact ⟨gq, cap, cur, e, hq, hbq, hcap, trivial, trivial, ht⟩
  injection e with e1 e2 e3
  subst e1 e3
  have hgq : gq < W.heap.size := (Array.getElem?_eq_some_iff.1 hbq).1
  have hOth : ∀ b, Oth O g A b → b < w.heap.size → Oth (fun b => O b ∨ (w.heap.size ≤ b ∧ b < W.heap.size)) g (some ⟨gq, 0, none⟩) b := fun b hb hlt => ⟨.inl hb.1, hb.2.1, fun a ha => by injection ha with ha; subst ha; show gq ≠ b; omega⟩
  obtain ⟨W', hW⟩ : ∃ W', W.setCell ⟨g, 0, none⟩ (.slice (some ⟨gq, 0, none⟩) n c2) = W' := ⟨_, rfl⟩
  rw [hW] at hs hot hb hBs hkeep ⊢
  refine ⟨⟨.inl h1, fun b hb => ?_, some ⟨gq, 0, none⟩, c2, D, ?_, ?_, ?_⟩, ?_⟩
  · rw [hs]
    rcases hb with hb | hb
    · have := h2 b hb; omega
    · exact hb.2
  · subst hn
    exact hb
  · have hrev : (t :: op).reverse = op.reverse ++ [t] := by simp
    show Opn W' g _ _ c2 (t :: op).reverse
    rw [hrev]
    have hbq' : W'.heap[gq]? = some (.cells cur 36 (0, 0)) := (hot gq (by omega)).trans hbq
    have hbk : Bk W' gq 36 cur := hbq'
    have hcell : ∀ j u, (rcs C 0 (op.reverse ++ [t]))[j]? = some u → W'.cell? ⟨gq, j, none⟩ = some u := fun j u hu => by
      rw [cell_of_row W' gq j cur _ (0, 0) hbq']
      have hj : j < (op.reverse ++ [t]).length * 5 := by have := (List.getElem?_eq_some_iff.1 hu).1; rw [rcs_len] at this; exact this
      rw [hlen] at hj
      rw [← ht, List.getElem?_take_of_lt (by omega)] at hu
      rw [← hu]
      simp
    refine .inr ⟨gq, C, rfl, .inr ⟨hq, hgq⟩, by omega, by rw [hlen]; exact hcap, fun o => hbk.frozen o, fun i hi => ⟨?_, ?_⟩⟩
    · obtain ⟨r0, r1, r2, r3, r4⟩ := rcs_at C _ 0 i hi
      rw [Nat.zero_add] at r4
      exact ⟨hcell _ _ r0, hcell _ _ r1, hcell _ _ r2, hcell _ _ r3, hcell _ _ r4⟩
    · refine ((hC i hi).keep (w' := W') (by omega) fun b hb hlt => hot b hb.2.1).wide fun b hb _ => hOth b hb (h2 b hb.1)
  · exact (h5.keep (w' := W') (by omega) fun b hb hlt => hkeep b hlt hb.2.1).wide fun b hb hlt => hOth b hb (h2 b hb.1)
  · refine ⟨hBs.os.trans hB.os, hBs.tape.trans hB.tape, hBs.output.trans hB.output, by omega, fun b hb => .inl hb, fun b hb => ?_, fun b hlt hO _ => hkeep b hlt fun e => hO (by rw [e]; exact h1)⟩
    rcases hb with hb | hb
    · exact .inl hb
    · exact .inr ⟨hb.1, by omega⟩
set_option maxRecDepth 100000 in
set_option maxHeartbeats 2000000 in
theorem rlastx_any (p : VT) (r : List VT) (v : Option VT) (N M g : Nat) (O : Nat → Prop) (A : Option Addr) (c : Nat) (D : Value) (w : World) (h : Bmx w g O A c D ⟨p :: r, v, N, M⟩) (hn : (p :: r).length ≤ 1048577) :
    Calls Try.prog 22 #[.pointer (some ⟨g, 0, none⟩)] w fun e w' => ∃ C, e = .returned (vv p C) ∧ Lsf (Oth O g A) w C p.l ∧ Below w.heap.size w w' := by
  obtain ⟨h1, h2, h3, h4, h5⟩ := h
  have hg := h2 g h1
  obtain ⟨W1, hW1⟩ : ∃ W1, w.alloc (.cells #[.int .i64 0, .bool false, .int .u64 0, .string ⟨#[]⟩, .slice none 0 0] 36) = W1 := ⟨_, rfl⟩
  have hb : Bk W1 w.heap.size 36 (vc zt (.slice none 0 0)) := by rw [← hW1]; exact heap_alloc_last _ _
  have HB := Lib.hid hb
  have HBF : Hid (Below w.heap.size w W1) := Lib.hid (by rw [← hW1]; exact (Below.refl _ _).alloc (Nat.le_refl _) _)
  have bc0 : W1.cell? ⟨w.heap.size, 0, none⟩ = some (.int .i64 0) := hb.cell 0
  have bf0 : W1.frozen? ⟨w.heap.size, 0, none⟩ = false := hb.frozen 0
  have bc1 : W1.cell? ⟨w.heap.size, 1, none⟩ = some (.bool false) := hb.cell 1
  have bf1 : W1.frozen? ⟨w.heap.size, 1, none⟩ = false := hb.frozen 1
  have bc2 : W1.cell? ⟨w.heap.size, 2, none⟩ = some (.int .u64 0) := hb.cell 2
  have bf2 : W1.frozen? ⟨w.heap.size, 2, none⟩ = false := hb.frozen 2
  have bc3 : W1.cell? ⟨w.heap.size, 3, none⟩ = some (.string ⟨#[]⟩) := hb.cell 3
  have bf3 : W1.frozen? ⟨w.heap.size, 3, none⟩ = false := hb.frozen 3
  have bc4 : W1.cell? ⟨w.heap.size, 4, none⟩ = some (.slice none 0 0) := hb.cell 4
  have bf4 : W1.frozen? ⟨w.heap.size, 4, none⟩ = false := hb.frozen 4
  have a0 : W1.cell? ⟨g, 0, none⟩ = some (.slice A (p :: r).length c) := (HBF.out.cell (p := ⟨g, 0, none⟩) hg).trans (h3.cell 0)
  have hle : w.heap.size ≤ w.heap.size := Nat.le_refl _
  clear hb h3 h5
  obtain ⟨go, C, rfl, ho, hne, hc, hf, hr, hl⟩ := h4.top
  have hgo := h2 go ho
  have hr1 := hr.below HBF.out hgo
  have HL := Lib.hid hl
  obtain ⟨A', m, c', rfl⟩ : ∃ A' m c', C = .slice A' m c' := by
    obtain ⟨A', c', e, _⟩ := hl.lst.out
    exact ⟨A', _, c', e⟩
  have r0 := hr1.k
  have r1 := hr1.g
  have r2 := hr1.n
  have r3 := hr1.s
  have r4 := hr1.l
  obtain ⟨n0, hn0⟩ : ∃ n0, r.length = n0 := ⟨_, rfl⟩
  simp only [List.length_cons] at a0 hn
  rw [hn0] at r0 r1 r2 r3 r4 a0 hn hc
  have hsub : IntKind.i64.wrap (((n0 + 1 : Nat) : Int) - 1) = (n0 : Int) := by rw [IntWalk.i64_in _ ⟨by omega, by omega⟩]; omega
  unfold vv
  clear h4 hr hl hr1 hn0 hf
  go_enter Try.func22, Try.ntmps22
  go_wp2_with fail
  go_region
  all_goals
    go_wp2_with fail
    exact bodyPost_ret (v := .agg #[.int .i64 p.k, .bool p.g, .int .u64 (p.n : Int), .string p.s, .slice A' m c']) (by simp [results, Try.results22, go_sem, bc0, bc1, bc2, bc3, bc4]) rfl ⟨_, rfl, HL.out, (below_set5 HBF.out hle _ _ _ _ _).drew⟩
end Go.Proofs.Yteebokhpoppgeaa.nn
namespace Go.Proofs.Yteebokhpoppgeaa.nn
open Go.RowKit

theorem lastB_len {S : Bst} (h : GoodW S) : (lastB S).l.length ≤ 1048577 := by
  unfold lastB
  cases ho : S.op with
  | nil => exact Nat.zero_le _
  | cons p r => have := h.lens p (by rw [ho]; simp); show p.l.length ≤ 1048577; omega
theorem may_none {S : Bst} {e : Ev} (h : mayB S e = 0) : S.v = none := by
  cases hv : S.v with
  | none => rfl
  | some x => rw [may_some hv] at h; cases h
theorem good_n {S : Bst} (h : GoodW S) : S.n ≤ 65536 := by
  obtain ⟨L, _, h4⟩ := h.g
  exact h4
/-- May, asked at any world behind the event's box -/
theorem may_at (S : Bst) (g : Nat) (O : Nat → Prop) (e : Ev) (w : World) (h : Bm w g O S) (hG : GoodW S) (hw : wfE e) : ∀ W, Eb w e W → Calls Try.prog 21 #[.pointer (some ⟨g, 0, none⟩), evv e] W fun x w' => x = .returned (.int .i64 (mayB S e : Int)) ∧ Eb w e w' := fun W hW =>
  (rmay_any S g O e W (h.below hW.b) hG.len (lastB_len hG) hw (good_n hG) hG.m).mono fun _ _ ⟨hx, hb⟩ => ⟨hx, hW.on hb⟩
set_option maxRecDepth 100000 in
set_option maxHeartbeats 1000000 in
theorem rput_no (S : Bst) (g : Nat) (O : Nat → Prop) (e : Ev) (w : World) (h : Bm w g O S) (hG : GoodW S) (hw : wfE e) (hm : mayB S e ≠ 0) :
    Calls Try.prog 7 #[.pointer (some ⟨g, 0, none⟩), evv e] w fun x w' => x = .returned (.int .i64 (mayB S e : Int)) ∧ Below w.heap.size w w' := by
  have HE := Lib.hid (Eb.new w e)
  have CM := Lib.hid (may_at S g O e w h hG hw)
  obtain ⟨R, hR⟩ : ∃ R, mayB S e = R := ⟨_, rfl⟩
  rw [hR] at CM hm ⊢
  have hm1 : ((R : Int) != 0) = true := by simp; omega
  unfold evv at *
  clear h hG hw hR hm
  go_enter Try.func7, Try.ntmps7
  go_wp2_with fail
  with_reducible refine (CM.out _ HE.out).mono ?_
  rintro x w2 ⟨rfl, k2⟩
  have HK := Lib.hid k2.b
  clear k2
  go_wp2_with fail
  go_ret
  exact ⟨rfl, HK.out⟩
set_option maxRecDepth 100000 in
set_option maxHeartbeats 2000000 in
theorem rput_end (p : VT) (r : List VT) (N M g : Nat) (O : Nat → Prop) (e : Ev) (w : World) (h : Bm w g O ⟨p :: r, none, N, M⟩) (hG : GoodW ⟨p :: r, none, N, M⟩) (hw : wfE e) (hm : mayB ⟨p :: r, none, N, M⟩ e = 0) (hk : e.k = 15) :
    Calls Try.prog 7 #[.pointer (some ⟨g, 0, none⟩), evv e] w fun x w' => x = .returned (.int .i64 0) ∧ ∃ O', Mv No O w O' w' ∧ Bm w' g O' ⟨(addB r p).1, (addB r p).2, N, M⟩ := by
  have HE := Lib.hid (Eb.new w e)
  have CM := Lib.hid (may_at _ g O e w h hG hw)
  rw [hm] at CM
  have hlen := hG.len
  have hlens := hG.lens
  obtain ⟨A, c, D, hx⟩ := h.bmx
  have hgl := hx.lo g hx.o
  obtain ⟨go, _, rfl, hgo, hne, hcap, _, _, _⟩ := hx.r.top
  have CL : Hid (∀ W, Eb w e W → Calls Try.prog 22 #[.pointer (some ⟨g, 0, none⟩)] W fun x w' => ∃ Ac cc, x = .returned (vv p (.slice Ac p.l.length cc)) ∧ Lsf (Oth O g (some ⟨go, 0, none⟩)) W (.slice Ac p.l.length cc) p.l ∧ Below W.heap.size W w' ∧ Eb w e w') := Lib.hid fun W hW =>
    (rlastx_any p r none N M g O (some ⟨go, 0, none⟩) c D W (hx.below hW.b) (by have : (p :: r).length ≤ 64 := hlen; omega)).mono fun x w' ⟨C, h1, h2, h3⟩ => by
      obtain ⟨Ac, cc, rfl, _⟩ := h2.lst.out
      exact ⟨Ac, cc, h1, h2, h3, hW.on h3⟩
  have HX := Lib.hid hx
  have HW : Hid (∀ W, Below w.heap.size w W → ∀ Ac cc, Lsf (Oth O g (some ⟨go, 0, none⟩)) W (.slice Ac p.l.length cc) p.l → Calls Try.prog 23 #[.pointer (some ⟨g, 0, none⟩), vv p (.slice Ac p.l.length cc)] (W.setCell ⟨g, 0, none⟩ (.slice (some ⟨go, 0, none⟩) r.length c)) fun x w' => x = .returned (.tuple #[]) ∧ ∃ O', Mv No O w O' w' ∧ Bm w' g O' ⟨(addB r p).1, (addB r p).2, N, M⟩) := Lib.hid fun W hW Ac cc hl => by
    have h1 := (hx.below hW).pop rfl hgo
    refine (radd_any ⟨r, none, N, M⟩ g O (some ⟨go, 0, none⟩) c D p (.slice Ac p.l.length cc) _ h1 rfl (hl.keep (by rw [setCell_sz]; exact Nat.le_refl _) fun b hb _ => off_g hb.2.1) (by have : (p :: r).length ≤ 64 := hlen; simp at this; show r.length ≤ 1048577; omega) (fun q hq => by have := hlens q (by simp at hq ⊢; exact .inr (.inl hq)); omega)).mono fun x w' ⟨ha, O', hmv, hbm⟩ => ⟨ha, O', ?_, hbm⟩
    exact ((Mv.of_below hW).cell hx.o _).trans hmv
  obtain ⟨n0, hn0⟩ : ∃ n0, r.length = n0 := ⟨_, rfl⟩
  have HG0 : Hid (∀ W, Below w.heap.size w W → W.cell? ⟨g, 0, none⟩ = some (.slice (some ⟨go, 0, none⟩) (n0 + 1) c) ∧ W.frozen? ⟨g, 0, none⟩ = false) := Lib.hid fun W hW => by
    have h1 := hx.b.below hW hgl
    refine ⟨?_, h1.frozen 0⟩
    have h2 := h1.cell 0
    rw [h2]
    simp [bmC, hn0]
  have hn64 : n0 + 1 ≤ 64 := by have : (p :: r).length ≤ 64 := hlen; simp at this; omega
  have hcap' : n0 + 1 ≤ c := by omega
  rw [hn0] at HW
  obtain ⟨pl, hpl⟩ : ∃ n, p.l.length = n := ⟨_, rfl⟩
  rw [hpl] at CL HW
  unfold vv evv at *
  have H15 := Lib.hid hk
  clear h hG hw hm hlen hlens hx hn0 hcap hpl hk
  go_enter Try.func7, Try.ntmps7
  go_wp2_with fail
  with_reducible refine (CM.out _ HE.out).mono ?_
  rintro x w2 ⟨rfl, k2⟩
  have HK := Lib.hid k2
  obtain ⟨e0, e1, e2, e3⟩ := k2.cells
  rw [H15.out] at e0
  clear k2 CM
  go_wp2_with fail
  with_reducible refine (CL.out _ HK.out).mono ?_
  rintro x w3 ⟨Ac, cc, rfl, hl, hb3, k3⟩
  have HL := Lib.hid (hl.keep (w' := w3) hb3.size fun b hb hlt => hb3.block b hlt)
  have HK3 := Lib.hid k3.b
  obtain ⟨b6, hb6⟩ : ∃ b, w3.heap.size = b := ⟨_, rfl⟩
  have hgb : g < b6 := by have := HK3.out.size; omega
  have h4 : Below w.heap.size w (w3.alloc (.cells #[.int .i64 p.k, .bool p.g, .int .u64 (p.n : Int), .string p.s, .slice Ac pl cc] 36)) := HK3.out.alloc HK3.out.size _
  have hbk4 : Bk (w3.alloc (.cells #[.int .i64 p.k, .bool p.g, .int .u64 (p.n : Int), .string p.s, .slice Ac pl cc] 36)) b6 36 #[.int .i64 p.k, .bool p.g, .int .u64 (p.n : Int), .string p.s, .slice Ac pl cc] := by rw [← hb6]; exact .new _ _ _
  have hl4 := HL.out.al (fun b hb => by have := HX.out.lo b hb.1; have := HK3.out.size; omega) (.cells #[.int .i64 p.k, .bool p.g, .int .u64 (p.n : Int), .string p.s, .slice Ac pl cc] 36)
  clear hl hb3 k3 e0 e1 e2 e3 CL HK
  go_upto_region 6 with fail
  obtain ⟨W4, hW4⟩ : ∃ W4, w3.alloc (.cells #[.int .i64 p.k, .bool p.g, .int .u64 (p.n : Int), .string p.s, .slice Ac pl cc] 36) = W4 := ⟨_, rfl⟩
  rw [hW4] at h4 hbk4 hl4 ⊢
  obtain ⟨Wd, hWd⟩ : ∃ Wd, (W4.setCell ⟨g, 0, none⟩ (.slice (some ⟨go, 0, none⟩) n0 c)).drew = Wd := ⟨_, rfl⟩
  have HC : Hid (Calls Try.prog 23 #[.pointer (some ⟨g, 0, none⟩), .agg #[.int .i64 p.k, .bool p.g, .int .u64 (p.n : Int), .string p.s, .slice Ac pl cc]] Wd fun x w' => x = .returned (.tuple #[]) ∧ ∃ O', Mv No O w O' w' ∧ Bm w' g O' ⟨(addB r p).1, (addB r p).2, N, M⟩) := Lib.hid (by
    rw [← hWd]
    exact HW.out W4.drew h4.drew Ac cc (hl4.keep (Nat.le_refl _) fun _ _ _ => rfl))
  have HB6 : Hid (Bk Wd b6 36 #[.int .i64 p.k, .bool p.g, .int .u64 (p.n : Int), .string p.s, .slice Ac pl cc]) := Lib.hid (by
    rw [← hWd]
    exact (off_g (W := W4) (g := g) (j := 0) (by omega)).trans hbk4)
  obtain ⟨g0, gf0⟩ := HG0.out W4 h4
  have hsub : IntKind.i64.wrap (((n0 + 1 : Nat) : Int) - 1) = (n0 : Int) := by rw [IntWalk.i64_in _ ⟨by omega, by omega⟩]; omega
  have i1 : (n0 : Int) ≤ (c : Int) := by omega
  have i2 : (0 : Int) ≤ (n0 : Int) := by omega
  have i3 : n0 ≤ c := by omega
  have HD := Lib.hid hWd
  clear hbk4 hl4 h4 hW4 HW HG0 HL hWd hb6 HX HK3
  go_cut [6] (fun s6 wx => s6 = .pointer (some ⟨b6, 0, none⟩) ∧ wx = Wd)
  case first =>
    go_region
    all_goals
      go_wp2_with fail
      go_meet
      exact ⟨rfl, HD.out⟩
  case rest =>
    obtain ⟨rfl, hww⟩ := hcut
    obtain rfl : Wd = wc := hww.symm
    obtain ⟨p0, p1, p2, p3, p4⟩ := HB6.out.c5
    clear g0 gf0 HD
    go_wp2_with fail
    with_reducible refine HC.out.mono ?_
    rintro x w9 ⟨rfl, O', h1, h2⟩
    have HF := Lib.hid (And.intro h1 h2)
    clear h1 h2
    go_wp2_with fail
    go_ret
    exact ⟨rfl, O', HF.out⟩
end Go.Proofs.Yteebokhpoppgeaa.nn
namespace Go.Proofs.Yteebokhpoppgeaa.nn
open Go.RowKit

set_option maxRecDepth 100000 in
set_option maxHeartbeats 4000000 in
theorem rput_leaf (op : List VT) (N M g : Nat) (O : Nat → Prop) (e : Ev) (w : World) (h : Bm w g O ⟨op, none, N, M⟩) (hG : GoodW ⟨op, none, N, M⟩) (hw : wfE e) (hm : mayB ⟨op, none, N, M⟩ e = 0) (hk : e.k ≠ 15) (hlf : lf e.k = true) :
    Calls Try.prog 7 #[.pointer (some ⟨g, 0, none⟩), evv e] w fun x w' => x = .returned (.int .i64 0) ∧ ∃ O', Mv No O w O' w' ∧ Bm w' g O' ⟨(addB op (bare e)).1, (addB op (bare e)).2, N + 1, M⟩ := by
  have HE := Lib.hid (Eb.new w e)
  have CM := Lib.hid (may_at _ g O e w h hG hw)
  rw [hm] at CM
  have hlen : op.length ≤ 64 := hG.len
  have hlens := hG.lens
  have hN : N ≤ 65536 := good_n hG
  obtain ⟨A, c, D, hx⟩ := h.bmx
  have hgl := hx.lo g hx.o
  have e15 : (e.k == 15) = false := by simpa using hk
  have hadd : IntKind.i64.wrap ((N : Int) + 1) = (N : Int) + 1 := IntWalk.i64_in _ ⟨by omega, by omega⟩
  have CF : Hid (∀ W, Calls Try.prog 24 #[.agg #[.int .i64 e.k, .bool e.g, .int .u64 (e.n : Int), .string e.s, .slice none 0 0]] W fun x w' => x = .returned (.bool true) ∧ Below W.heap.size W w') := Lib.hid fun W => by
    have := rleaf_any (bare e) (.slice none 0 0) W
    rw [show (bare e).k = e.k from rfl, hlf] at this
    exact this
  have HGC : Hid (∀ W, Eb w e W → W.cell? ⟨g, 7, none⟩ = some (.int .i64 (N : Int)) ∧ W.frozen? ⟨g, 7, none⟩ = false ∧ Bk (W.setCell ⟨g, 7, none⟩ (.int .i64 ((N : Int) + 1))) w.heap.size 31 #[.int .i64 e.k, .bool e.g, .int .u64 (e.n : Int), .string e.s] ∧ Bmx (W.setCell ⟨g, 7, none⟩ (.int .i64 ((N : Int) + 1))) g O A c D ⟨op, none, N + 1, M⟩ ∧ Mv No O w O (W.setCell ⟨g, 7, none⟩ (.int .i64 ((N : Int) + 1)))) := Lib.hid fun W hW => by
    have h1 := hx.b.below hW.b hgl
    rw [show (N : Int) + 1 = ((N + 1 : Nat) : Int) by omega]
    exact ⟨h1.cell 7, h1.frozen 7, (off_g (by omega)).trans hW.c, (hx.below hW.b).more, (Mv.of_below hW.b).cell hx.o _⟩
  have CA : Hid (∀ W, Bmx W g O A c D ⟨op, none, N + 1, M⟩ → Calls Try.prog 23 #[.pointer (some ⟨g, 0, none⟩), .agg #[.int .i64 e.k, .bool e.g, .int .u64 (e.n : Int), .string e.s, .slice none 0 0]] W fun x w' => x = .returned (.tuple #[]) ∧ ∃ O', Mv No O W O' w' ∧ Bm w' g O' ⟨(addB op (bare e)).1, (addB op (bare e)).2, N + 1, M⟩) := Lib.hid fun W hW =>
    radd_any ⟨op, none, N + 1, M⟩ g O A c D (bare e) (.slice none 0 0) W hW rfl .nil_ (by show op.length ≤ 1048577; omega) fun q hq => by have := hlens q (by simp at hq ⊢; exact .inl hq); omega
  unfold evv at *
  clear h hG hw hm hk hlf hx
  go_enter Try.func7, Try.ntmps7
  go_wp2_with fail
  with_reducible refine (CM.out _ HE.out).mono ?_
  rintro x w2 ⟨rfl, k2⟩
  obtain ⟨e0, e1, e2, e3⟩ := k2.cells
  obtain ⟨g7, gf7, hb3, hx3, hm3⟩ := HGC.out _ k2
  have H3 := Lib.hid (And.intro hb3 (And.intro hx3 hm3))
  clear k2 CM hb3 hx3 hm3 HGC
  go_upto_region 10 with fail
  obtain ⟨W3, hW3⟩ : ∃ W3, w2.setCell ⟨g, 7, none⟩ (.int .i64 ((N : Int) + 1)) = W3 := ⟨_, rfl⟩
  rw [hW3] at H3 ⊢
  clear e0 e1 e2 e3 g7 gf7 hW3
  obtain ⟨e0, e1, e2, e3⟩ := H3.out.1.c4
  obtain ⟨b7, hb7⟩ : ∃ b, W3.heap.size = b := ⟨_, rfl⟩
  have HB7 : Hid (Bk (W3.alloc (.cells #[.int .i64 e.k, .bool e.g, .int .u64 (e.n : Int), .string e.s, .slice none 0 0] 36)) b7 36 #[.int .i64 e.k, .bool e.g, .int .u64 (e.n : Int), .string e.s, .slice none 0 0]) := Lib.hid (by rw [← hb7]; exact .new _ _ _)
  have HG7 : Hid (g < b7) := Lib.hid (by rw [← hb7]; exact H3.out.2.1.lo g H3.out.2.1.o)
  go_upto_region 11 with fail
  obtain ⟨W4, hW4⟩ : ∃ W4, W3.alloc (.cells #[.int .i64 e.k, .bool e.g, .int .u64 (e.n : Int), .string e.s, .slice none 0 0] 36) = W4 := ⟨_, rfl⟩
  rw [hW4] at HB7 ⊢
  have H4 : Hid (Bmx W4 g O A c D ⟨op, none, N + 1, M⟩ ∧ Mv No O w O W4) := Lib.hid (by rw [← hW4]; exact ⟨H3.out.2.1.al _, H3.out.2.2.trans (Mv.al0 _ _ _ _)⟩)
  clear hW4 hb7 H3 e0 e1 e2 e3
  obtain ⟨v0, v1, v2, v3, v4⟩ := HB7.out.c5
  go_wp2_with fail
  with_reducible refine (CF.out _).mono ?_
  rintro x w5 ⟨rfl, hb5⟩
  have H5 := Lib.hid (And.intro (H4.out.1.below hb5) (H4.out.2.trans (Mv.of_below hb5)))
  have HB5 := Lib.hid (HB7.out.below hb5 HB7.out.lt)
  clear v0 v1 v2 v3 v4 hb5 H4 HB7 CF
  obtain ⟨v0, v1, v2, v3, v4⟩ := HB5.out.c5
  go_wp2_with fail
  with_reducible refine (CA.out _ H5.out.1).mono ?_
  rintro x w9 ⟨rfl, O', h1, h2⟩
  have HF := Lib.hid (And.intro (H5.out.2.trans h1) h2)
  clear h1 h2
  go_wp2_with fail
  go_ret
  exact ⟨rfl, O', HF.out⟩
end Go.Proofs.Yteebokhpoppgeaa.nn
