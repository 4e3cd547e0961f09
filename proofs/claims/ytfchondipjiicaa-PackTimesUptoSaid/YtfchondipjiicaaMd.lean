/- Joined texts, what is wanted of them: VaCheck, PkP, PackTimesW, OpenS, OpenT. -/
import Derived.Below
import Derived.Laws.OwnMore
import Derived.Deep.AppendLies
import Derived.Deep.Draws
import Derived.Maps.AppendAt
import Derived.RegionTactic
import Derived.OwnWalk
import Derived.Deep.RegionLaw
import Derived.WalkKit
import Derived.Test.YtfchondipjiicaaProg
import Derived.Laws.BytesArg
import Derived.Lib.UnsafeStr
import Derived.Lib.AppendStr
import Derived.Lib.Hide
import Derived.Lib.MinMax
import Derived.Deep.QuietTactic
import Derived.BigQuiet
import Derived.IntWalk
import Derived.Laws.Rows
import Derived.WalkSpells
import Derived.Deep.RegionHeld3
import Derived.Laws.BitsAllLaws
import Derived.Test.YtfchondipjiicaaShelf
import Derived.Deep.RegionWith
import Derived.Lib.BitFns
import Derived.Deep.CutBlock
import Derived.Deep.DeepCutAuto
import Derived.KernelRfl
import Derived.Deep.WholeRow
import Derived.Great.Walk
import Derived.StillTailTactics
import Derived.Lib.Builder
import Derived.Shelf.RegionOpen
import Derived.RowKit
import Derived.Laws.AppendOwn
import Derived.RangeFuncNested
import Derived.RangeFuncBound
import Derived.RangeFuncCalls
import Derived.RangeFuncLeaves
import Derived.Shelf.Abstract
import Derived.OwnWalkIn
import Derived.TacticsInMore
import Derived.Test.YtfchondipjiicaaRows
import Derived.ProofKit
import Derived.SizedLaws
import Derived.ChangeMaps5
import Derived.Deep.Slices
import Derived.Deep.Fields
import Derived.Test.YtfchondipjiicaaMc
namespace Go.Proofs.Ytfchondipjiicaa.nn
open Go.RowKit

attribute [local go_sem] Oper.semAt_some
theorem Mv.alloc0 (E O : Nat → Prop) (W : World) (o : Obj) : Mv E O W O (W.alloc o) :=
  ⟨rfl, rfl, rfl, by simp, fun _ h => h, fun _ h => .inl h, fun b hb _ _ => Below.heap_alloc _ _ _ hb⟩
/-- the five cells of a value in a block -/
def Vb (W : World) (B : Nat) (t : VT) (C : Value) : Prop := W.heap[B]? = some (.cells #[.int .i64 t.k, .bool t.g, .int .u64 (t.n : Int), .string t.s, C] 25 (0, 0))
theorem Vb.new (W : World) (t : VT) (C : Value) : Vb (W.alloc (.cells #[.int .i64 t.k, .bool t.g, .int .u64 (t.n : Int), .string t.s, C] 25)) W.heap.size t C := World.alloc_heap_new W _
theorem Vb.row {W : World} {B : Nat} {t : VT} {C : Value} (h : Vb W B t C) : Row W B 0 t C :=
  ⟨cell_of_row W B 0 _ _ _ h, cell_of_row W B 1 _ _ _ h, cell_of_row W B 2 _ _ _ h, cell_of_row W B 3 _ _ _ h, cell_of_row W B 4 _ _ _ h⟩
/-- between two rounds of Check's loop -/
structure CI (w : World) (t : VT) (C : Value) (pre : List (List Nat × VT)) (W : World) : Prop where
  n : Boxed W (w.heap.size + 2) 3 (.int .i64 (pre.length : Int))
  r : Boxed W (w.heap.size + 3) 4 (.bool (pre.all fun x => rg1 x.2))
  e : Boxed W (w.heap.size + 1) 27 (.int .i64 0)
  v : Vb W w.heap.size t C
  m : pre.length ≤ 65536
  b : Below w.heap.size w W
structure CX (w : World) (c : Code) (pre : List (List Nat × VT)) (W : World) : Prop where
  c : c = .ret
  e : Boxed W (w.heap.size + 1) 27 (.int .i64 2)
  m : 65536 < pre.length
  b : Below w.heap.size w W
theorem CI.mv {w : World} {t : VT} {C : Value} {D : Nat} {pre : List (List Nat × VT)} {O O' : Nat → Prop} {W W' : World} (h : CI w t C pre W) (hD : D = w.heap.size + 5) (hb : Wb (D + 2) O W) (hm : Mv (EE D) O W O' W') : CI w t C pre W' :=
  ⟨mv_box h.n hm hb (by omega), mv_box h.r hm hb (by omega), mv_box h.e hm hb (by omega), mv_box h.v hm hb (by omega), h.m, mv_below2 h.b hm hb (by omega) (Nat.le_refl _)⟩
theorem CX.mv {w : World} {D : Nat} {c : Code} {pre : List (List Nat × VT)} {O O' : Nat → Prop} {W W' : World} (h : CX w c pre W) (hD : D = w.heap.size + 5) (hb : Wb (D + 2) O W) (hm : Mv (EE D) O W O' W') : CX w c pre W' :=
  ⟨h.c, mv_box h.e hm hb (by omega), h.m, mv_below2 h.b hm hb (by omega) (Nat.le_refl _)⟩
theorem check_end (t : VT) (w : World) (D n : Nat) (W : World) (a : Act) (g1 : Boxed W (w.heap.size + 1) 27 (.int .i64 (n : Int))) (g2 : W.heap[D]? = some (.deferred (some []))) (hD : D = w.heap.size + 5) (g3 : Below w.heap.size w W)
    (h1 : Hid (chk t = n)) (h2 : a.defers = [{ target := .collected D, args := #[] }]) (h3 : a.tmps[2]? = some (.pointer (some ⟨w.heap.size + 1, 0, none⟩))) :
    bodyPostM Fence.wide 3 Try.prog Try.f14 (fun e w' => e = .returned (.int .i64 (chk t : Int)) ∧ Below w.heap.size w w') .ret a W := by
  obtain ⟨tmps, defers⟩ := a
  simp only at h2 h3
  subst h2
  refine ⟨by simp, .inl ⟨_, _, rfl, run_takeDeferred g2, ?_⟩⟩
  have g4 : (W.putObj D (.deferred none)).cell? ⟨w.heap.size + 1, 0, none⟩ = some (.int .i64 (n : Int)) :=
    (World.cell?_of_block (World.putObj_heap_other (by show w.heap.size + 1 ≠ D; omega))).trans (Boxed.cell g1)
  refine ⟨.int .i64 (n : Int), ?_, by rw [h1.out], g3.trans (belowK_b (w := w) (Nat.le_refl _) _ _ _ _ (by omega) g2 rfl rfl)⟩
  have h5 : tmps[2]?.getD undef = .pointer (some ⟨w.heap.size + 1, 0, none⟩) := by rw [h3]; rfl
  simp [results, Try.results14, go_sem, h5, g4]
set_option maxRecDepth 100000 in
set_option maxHeartbeats 4000000 in
theorem vcheck_any (t : VT) (C : Value) (w : World) (hN : cnt t ≤ 1099511627776) (hS : smx t ≤ maxLen) (hC : Lst w C t.l) (hwf : wfT t) :
    Calls Try.prog 14 #[vv t C] w fun e w' => e = .returned (.int .i64 (chk t : Int)) ∧ Below w.heap.size w w' := by
  have HA := Lib.hid (fun W => all_any t C W)
  obtain ⟨W1, hW1⟩ : ∃ W1, w.alloc (.cells #[.int .i64 t.k, .bool t.g, .int .u64 (t.n : Int), .string t.s, C] 25) = W1 := ⟨_, rfl⟩
  obtain ⟨W2, hW2⟩ : ∃ W2, W1.alloc (.cells #[.int .i64 0] 27) = W2 := ⟨_, rfl⟩
  obtain ⟨W3, hW3⟩ : ∃ W3, W2.alloc (.cells #[.int .i64 0] 3) = W3 := ⟨_, rfl⟩
  obtain ⟨W4, hW4⟩ : ∃ W4, W3.alloc (.cells #[.bool true] 4) = W4 := ⟨_, rfl⟩
  obtain ⟨W5, hW5⟩ : ∃ W5, W4.alloc (.cells #[.int .i64 t.k, .bool t.g, .int .u64 (t.n : Int), .string t.s, C] 25) = W5 := ⟨_, rfl⟩
  have z1 : W1.heap.size = w.heap.size + 1 := by rw [← hW1]; simp
  have z2 : W2.heap.size = w.heap.size + 2 := by rw [← hW2]; simp [z1]
  have z3 : W3.heap.size = w.heap.size + 3 := by rw [← hW3]; simp [z2]
  have z4 : W4.heap.size = w.heap.size + 4 := by rw [← hW4]; simp [z3]
  have z5 : W5.heap.size = w.heap.size + 5 := by rw [← hW5]; simp [z4]
  have B1 : Below w.heap.size w W1 := by rw [← hW1]; exact (Below.refl _ _).alloc (Nat.le_refl _) _
  have B2 : Below W1.heap.size W1 W2 := by rw [← hW2]; exact (Below.refl _ _).alloc (Nat.le_refl _) _
  have B3 : Below W2.heap.size W2 W3 := by rw [← hW3]; exact (Below.refl _ _).alloc (Nat.le_refl _) _
  have B4 : Below W3.heap.size W3 W4 := by rw [← hW4]; exact (Below.refl _ _).alloc (Nat.le_refl _) _
  have B5 : Below W4.heap.size W4 W5 := by rw [← hW5]; exact (Below.refl _ _).alloc (Nat.le_refl _) _
  have hb5 : Below w.heap.size w W5 := B1.trans ((B2.mono (by omega)).trans ((B3.mono (by omega)).trans ((B4.mono (by omega)).trans (B5.mono (by omega)))))
  have V1 : Vb W1 w.heap.size t C := by rw [← hW1]; exact Vb.new w t C
  have V5 : Vb W5 w.heap.size t C := (B5.block _ (by omega)).trans ((B4.block _ (by omega)).trans ((B3.block _ (by omega)).trans ((B2.block _ (by omega)).trans V1)))
  have E2 : Boxed W2 (w.heap.size + 1) 27 (.int .i64 0) := by rw [← hW2, ← z1]; exact Boxed.new W1 _ _
  have E5 : Boxed W5 (w.heap.size + 1) 27 (.int .i64 0) := (B5.block _ (by omega)).trans ((B4.block _ (by omega)).trans ((B3.block _ (by omega)).trans E2))
  have N3 : Boxed W3 (w.heap.size + 2) 3 (.int .i64 0) := by rw [← hW3, ← z2]; exact Boxed.new W2 _ _
  have N5 : Boxed W5 (w.heap.size + 2) 3 (.int .i64 0) := (B5.block _ (by omega)).trans ((B4.block _ (by omega)).trans N3)
  have R4 : Boxed W4 (w.heap.size + 3) 4 (.bool true) := by rw [← hW4, ← z3]; exact Boxed.new W3 _ _
  have R5 : Boxed W5 (w.heap.size + 3) 4 (.bool true) := (B5.block _ (by omega)).trans R4
  have Q5 : Row W5 (w.heap.size + 4) 0 t C := by rw [← hW5, ← z4]; exact (Vb.new W4 t C).row
  have hG := gives_all w t C W5 (w.heap.size + 4) (by omega) Q5 hb5 hC (by omega)
  have hI0 : CI w t C [] W5 := ⟨N5, R5, E5, V5, Nat.zero_le _, hb5⟩
  have HG := Lib.hid (And.intro hG (And.intro hI0 z5))
  have F1 := Lib.hid hW1
  have F2 := Lib.hid hW2
  have F3 := Lib.hid hW3
  have F4 := Lib.hid hW4
  have F5 := Lib.hid hW5
  have HC := Lib.hid hC
  have HWF := Lib.hid (And.intro hwf hS)
  clear hG N3 N5 R4 R5 E2 E5 V1 V5 Q5 B1 B2 B3 B4 B5 hb5 hC hW1 hW2 hW3 hW4 hW5 z1 z2 z3 z4 z5 hI0 hwf hS
  unfold vv at HA ⊢
  refine callsIn_wide.1 (callsIn_of_wp_marks (n := 3) Try.func14 rfl trivial (wpIn_wide.2 ?_) rfl)
  simp only [Try.ntmps14, List.size_toArray, List.length_cons, List.length_nil, Nat.reduceAdd, Nat.reduceSub, Array.replicate_succ, Array.replicate_zero, List.push_toArray, List.append_toArray, List.nil_append, List.cons_append]
  go_wp2_with fail
  refine (HA.out _).mono ?_
  rintro e w' ⟨rfl, rfl⟩
  go_wp2_with fail
  rw [F1.out, F2.out, F3.out, F4.out, F5.out]
  obtain ⟨hG, hI0, z5⟩ := HG.out
  clear HA F1 F2 F3 F4 F5 HG
  refine (wpIn_wide (n := 3)).1 ?_
  refine rf_law (gf := 38) (lb := #[.pointer (some ⟨w.heap.size + 4, 0, none⟩)]) rfl (enters_of Try.func38 (by kernel_rfl) rfl) hG (by omega) (fun _ _ _ _ h => args2 h)
    (fun pre _ W => CI w t C pre W) (CX w)
    (fun pre O W O' W' h hb hm => h.mv z5 hb hm) (fun c pre W O' W' h hm => h.mv z5 (Wb.no _ _) hm) hI0
    (fun x _ a' W => ∃ v A' n' c' Bx, a' = { tmps := #[.agg #[.int .i64 t.k, .bool t.g, .int .u64 (t.n : Int), .string t.s, C], .pointer (some ⟨w.heap.size, 0, none⟩), .pointer (some ⟨w.heap.size + 1, 0, none⟩), .pointer (some ⟨w.heap.size + 2, 0, none⟩), .pointer (some ⟨w.heap.size + 3, 0, none⟩), undef, .pointer (some ⟨Bx, 0, none⟩), .agg #[.int .i64 t.k, .bool t.g, .int .u64 (t.n : Int), .string t.s, C], .func (.func 38) #[] #[.pointer (some ⟨w.heap.size + 4, 0, none⟩)], v, vv x.2 (.slice A' n' c'), undef, undef, undef, undef, undef, undef, undef, undef, undef, undef, undef, undef, undef, undef, undef, undef], defers := [] } ∧ W5.heap.size + 2 ≤ Bx ∧ Vb W Bx x.2 (.slice A' n' c') ∧ Lst w (.slice A' n' c') x.2.l)
    (fun x O a' W o h hb => by
      obtain ⟨v, A', n', c', Bx, h1, h2, h3, h4⟩ := h
      exact ⟨v, A', n', c', Bx, h1, h2, (World.putObj_heap_other (by omega)).trans h3, h4⟩) ?assign ?body ?done ?stop
  case assign =>
    intro l pre x O W args K hI hb hs ha hK
    obtain ⟨v, C', rfl, hp, ho, hl⟩ := ha
    obtain ⟨A', c', hC', _⟩ := hl.out
    obtain ⟨n', hn'⟩ : ∃ n', x.2.l.length = n' := ⟨_, rfl⟩
    rw [hn'] at hC'
    subst hC'
    obtain ⟨W', hW'⟩ : ∃ W', W.alloc (.cells #[.int .i64 x.2.k, .bool x.2.g, .int .u64 (x.2.n : Int), .string x.2.s, .slice A' n' c'] 25) = W' := ⟨_, rfl⟩
    have hV : Vb W' W.heap.size x.2 (.slice A' n' c') := by rw [← hW']; exact Vb.new W x.2 _
    have hB : Below W.heap.size W W' := by rw [← hW']; exact (Below.refl _ _).alloc (Nat.le_refl _) _
    have hm : Mv (EE W5.heap.size) O W O W' := by rw [← hW']; exact Mv.alloc0 _ _ _ _
    have := hK _ W' ⟨hB.mono (by omega), fun b h => hB.block b (hb b h).2⟩ (hB.block _ (by omega)) (hB.block _ (by omega)) (hI.mv z5 hb hm) ⟨v, A', n', c', W.heap.size, rfl, hs, hV, hl⟩
    have HT := Lib.hid this
    have HW' := Lib.hid hW'
    clear hK hI hb hs hp ho hG hI0 z5 this hV hB hm hl hn' hW'
    unfold vv
    gi_wp2
    have HT2 := HT.out
    rw [← HW'.out] at HT2
    simpa [vv] using HT2
  case body =>
    rintro l pre x O a' W hI hb hs ⟨v, A', n', c', Bx, rfl, hBx, hV, hl⟩ ⟨q, hq⟩
    have hmem : x ∈ rws [] t := by rw [hq]; simp
    have hsm := smx_rws [] t x hmem
    have hwx := wf_rws [] t HWF.out.1 x hmem
    have HR := Lib.hid (fun W' (h : Below w.heap.size w W') => isRight_any x.2 (.slice A' n' c') W' (Nat.le_trans hsm.1 HWF.out.2) hwx (by omega) (hl.keep h (Nat.le_refl _)))
    obtain ⟨I, hIx⟩ : ∃ I, rg1 x.2 = I := ⟨_, rfl⟩
    rw [hIx] at HR
    obtain ⟨m, hm⟩ : ∃ m, pre.length = m := ⟨_, rfl⟩
    obtain ⟨R, hR⟩ : ∃ R, pre.all (fun x => rg1 x.2) = R := ⟨_, rfl⟩
    have hn := hI.n
    have hr := hI.r
    rw [hm] at hn
    rw [hR] at hr
    have hle : m ≤ 65536 := by rw [← hm]; exact hI.m
    have c2 := hn.cell
    have f2 := hn.frozen
    have f1 := hI.e.frozen
    have c1 := hI.e.cell
    have c3 := hr.cell
    have f3 := hr.frozen
    have HK := Lib.hid (And.intro hm (And.intro hR (And.intro hIx (And.intro hI (And.intro hb (And.intro hs (And.intro hBx (And.intro hV z5))))))))
    have hne1 : ¬ Bx = w.heap.size + 2 := by omega
    have x0 : ∀ u, (W.setCell ⟨w.heap.size + 2, 0, none⟩ u).cell? ⟨Bx, 0, none⟩ = some (.int .i64 x.2.k) := fun u => (World.cell?_of_block (Below.heap_setCell _ _ _ _ hne1)).trans hV.row.k
    have x1 : ∀ u, (W.setCell ⟨w.heap.size + 2, 0, none⟩ u).cell? ⟨Bx, 1, none⟩ = some (.bool x.2.g) := fun u => (World.cell?_of_block (Below.heap_setCell _ _ _ _ hne1)).trans hV.row.g
    have x2 : ∀ u, (W.setCell ⟨w.heap.size + 2, 0, none⟩ u).cell? ⟨Bx, 2, none⟩ = some (.int .u64 (x.2.n : Int)) := fun u => (World.cell?_of_block (Below.heap_setCell _ _ _ _ hne1)).trans hV.row.n
    have x3 : ∀ u, (W.setCell ⟨w.heap.size + 2, 0, none⟩ u).cell? ⟨Bx, 3, none⟩ = some (.string x.2.s) := fun u => (World.cell?_of_block (Below.heap_setCell _ _ _ _ hne1)).trans hV.row.s
    have x4 : ∀ u, (W.setCell ⟨w.heap.size + 2, 0, none⟩ u).cell? ⟨Bx, 4, none⟩ = some (.slice A' n' c') := fun u => (World.cell?_of_block (Below.heap_setCell _ _ _ _ hne1)).trans hV.row.l
    clear hm hR hIx hI hb hs hBx hV z5 hsm hwx hmem hq hG hI0 hl hn hr hne1
    unfold vv at HR ⊢
    by_cases hbr : m = 65536
    · subst hbr
      gi_wp2
      obtain ⟨hm, hR, hIx, hI, hb, hs, hBx, hV, z5⟩ := HK.out
      have k1 := kr_set (n₀ := w.heap.size) (.int .i64 65537) hb (B := w.heap.size + 2) (by omega) (by omega)
      have hb1 := hb.keep k1.1.b.size
      have k2 := kr_set (n₀ := w.heap.size) (.int .i64 2) hb1 (B := w.heap.size + 1) (by omega) (by omega)
      refine ⟨⟨k2.2.1.trans k1.2.1, k2.2.2.trans k1.2.2⟩, rfl, ?_, by simp [hm], hI.b.trans (k1.1.b.trans k2.1.b)⟩
      exact Boxed.set _ (hI.e.other (by omega) _)
    · have hgt : (m : Int) + 1 ≤ 65536 := by omega
      have hz0 : 0 ≤ (m : Int) := by omega
      obtain ⟨z, hz⟩ : ∃ z : Int, (m : Int) = z := ⟨_, rfl⟩
      have HZ := Lib.hid hz
      rw [hz] at c2 hgt hz0
      clear hz hbr hle
      cases R
      · gi_wp2
        refine ⟨trivial, ?_⟩
        gi_wp2
        obtain ⟨hm, hR, hIx, hI, hb, hs, hBx, hV, z5⟩ := HK.out
        have k1 := kr_set (n₀ := w.heap.size) (.int .i64 (z + 1)) hb (B := w.heap.size + 2) (by omega) (by omega)
        have hb1 := hb.keep k1.1.b.size
        have k2 := kr_set (n₀ := w.heap.size) (.bool false) hb1 (B := w.heap.size + 3) (by omega) (by omega)
        refine ⟨⟨k1.1.trans k2.1, k2.2.1.trans k1.2.1, k2.2.2.trans k1.2.2⟩, ?_⟩
        refine ⟨?_, ?_, ?_, ?_, by rw [List.length_append, hm]; have := HZ.out; simp; omega, hI.b.trans (k1.1.b.trans k2.1.b)⟩
        · have := Boxed.set (.int .i64 (z + 1)) hI.n
          have e : (((pre ++ [x]).length : Nat) : Int) = z + 1 := by rw [List.length_append, hm, ← HZ.out]; rfl
          rw [e]
          exact this.other (by omega) _
        · have e : ((pre ++ [x]).all fun x => rg1 x.2) = false := by rw [List.all_append, hR]; rfl
          rw [e]
          exact Boxed.set _ (hI.r.other (by omega) _)
        · exact (hI.e.other (by omega) _).other (by omega) _
        · exact (Below.heap_setCell _ _ _ _ (by show w.heap.size ≠ w.heap.size + 3; omega)).trans ((Below.heap_setCell _ _ _ _ (by show w.heap.size ≠ w.heap.size + 2; omega)).trans hI.v)
      · have HB1 : Hid (Below w.heap.size w (W.setCell ⟨w.heap.size + 2, 0, none⟩ (.int .i64 (z + 1)))) := Lib.hid (HK.out.2.2.2.1.b.setCell (p := ⟨w.heap.size + 2, 0, none⟩) (by show w.heap.size ≤ w.heap.size + 2; omega) _)
        gi_wp2
        refine ⟨trivial, (CallsIn.inRound l (callsIn_wide.2 (HR.out _ HB1.out))).mono ?_⟩
        rintro e w3 ⟨rfl, hb3⟩
        have HC3 : Hid (∀ b, b < W.heap.size → b ≠ w.heap.size + 2 → w3.heap[b]? = W.heap[b]?) := Lib.hid fun b hb hne => by
          rw [hb3.block b (by simpa [World.setCell] using hb)]
          exact Below.heap_setCell _ _ _ _ hne
        have d3 : w3.cell? ⟨w.heap.size + 3, 0, none⟩ = some (.bool true) := (World.cell?_of_block (HC3.out (w.heap.size + 3) HK.out.2.2.2.1.r.lt (by omega))).trans c3
        have g3 : w3.frozen? ⟨w.heap.size + 3, 0, none⟩ = false := (World.frozen?_of_block (HC3.out (w.heap.size + 3) HK.out.2.2.2.1.r.lt (by omega))).trans f3
        have H3 := Lib.hid hb3
        clear hb3 c1 c2 c3 f1 f2 f3 x0 x1 x2 x3 x4
        gi_wp2
        obtain ⟨hm, hR, hIx, hI, hb, hs, hBx, hV, z5⟩ := HK.out
        have k1 := kr_set (n₀ := w.heap.size) (.int .i64 (z + 1)) hb (B := w.heap.size + 2) (by omega) (by omega)
        have hb1 := hb.keep k1.1.b.size
        have k3 : Kr w.heap.size O (W.setCell ⟨w.heap.size + 2, 0, none⟩ (.int .i64 (z + 1))) w3 := ⟨H3.out.mono (by have := k1.1.b.size; omega), fun b h => H3.out.block b (hb1 b h).2⟩
        have hb3 := hb1.keep k3.b.size
        have k2 := kr_set (n₀ := w.heap.size) (.bool I) hb3 (B := w.heap.size + 3) (by omega) (by omega)
        have hz1 := k1.1.b.size
        refine ⟨⟨(k1.1.trans k3).trans k2.1, k2.2.1.trans ((H3.out.block _ (by omega)).trans k1.2.1), k2.2.2.trans ((H3.out.block _ (by omega)).trans k1.2.2)⟩, ?_⟩
        refine ⟨?_, ?_, ?_, ?_, by rw [List.length_append, hm]; have := HZ.out; simp; omega, hI.b.trans (k1.1.b.trans (k3.b.trans k2.1.b))⟩
        · have hx := Boxed.set (.int .i64 (z + 1)) hI.n
          have e : (((pre ++ [x]).length : Nat) : Int) = z + 1 := by rw [List.length_append, hm, ← HZ.out]; rfl
          rw [e]
          exact Boxed.other ((H3.out.block _ hx.lt).trans hx) (by omega) _
        · have e : ((pre ++ [x]).all fun x => rg1 x.2) = I := by rw [List.all_append, hR]; simp [hIx]
          rw [e]
          exact Boxed.set _ ((HC3.out _ hI.r.lt (by omega)).trans hI.r)
        · exact Boxed.other ((HC3.out _ hI.e.lt (by omega)).trans hI.e) (by omega) _
        · exact (Below.heap_setCell _ _ _ _ (by show w.heap.size ≠ w.heap.size + 3; omega)).trans ((HC3.out _ (Array.getElem?_eq_some_iff.1 hI.v).1 (by omega)).trans hI.v)
  case done =>
    rintro O W hI hK
    have hrow := hI.v.row
    have q0 := hrow.k
    have q1 := hrow.g
    have q2 := hrow.n
    have q3 := hrow.s
    have q4 := hrow.l
    have hcn : cnt t ≤ 65536 := by have := hI.m; rw [rws_len] at this; exact this
    have hr := hI.r
    rw [← rgt_rws [] t] at hr
    have HD := Lib.hid (fun W' (h : Below w.heap.size w W') => vdepth_any t C W' (by omega) (HC.out.keep h (Nat.le_refl _)))
    have HH : Hid (chk t = if 64 < dep t then 2 else if rgt t then 0 else 9) := Lib.hid (by unfold chk; by_cases h : 64 < dep t <;> simp [h]; omega)
    obtain ⟨d, hd⟩ : ∃ d, dep t = d := ⟨_, rfl⟩
    obtain ⟨R, hR⟩ : ∃ R, rgt t = R := ⟨_, rfl⟩
    have hdb := dep_le t
    rw [hd] at HD HH hdb
    rw [hR] at HH hr
    have HK := Lib.hid (And.intro hK (And.intro hI (And.intro hr z5)))
    have HB := Lib.hid hI.b
    clear hK hG hI0 z5 hI hr hrow hd hR
    unfold vv at HD
    go_wp2_with fail
    refine (HD.out _ HB.out).mono ?_
    rintro e w3 ⟨rfl, hb3⟩
    have H3 := Lib.hid hb3
    have hE := (hb3.block _ HK.out.2.1.e.lt).trans HK.out.2.1.e
    have hRR := (hb3.block _ HK.out.2.2.1.lt).trans HK.out.2.2.1
    have c1 := Boxed.cell hE
    have f1 := Boxed.frozen hE
    have c3 := Boxed.cell hRR
    have hKK : w3.heap[W5.heap.size]? = some (.deferred (some [])) := (hb3.block _ (Array.getElem?_eq_some_iff.1 HK.out.1).1).trans HK.out.1
    have HKK := Lib.hid (And.intro hKK (And.intro hE (And.intro HK.out.2.2.2 (HB.out.trans (hb3.mono HB.out.size)))))
    clear hb3 hE hRR hKK q0 q1 q2 q3 q4 HD
    have hend : ∀ (n : Nat) (a : Act), Hid (chk t = n) → a.defers = [{ target := .collected W5.heap.size, args := #[] }] → a.tmps[2]? = some (.pointer (some ⟨w.heap.size + 1, 0, none⟩)) →
        bodyPostM Fence.wide 3 Try.prog Try.f14 (fun e w' => e = .returned (.int .i64 (chk t : Int)) ∧ Below w.heap.size w w') .ret a (w3.setCell ⟨w.heap.size + 1, 0, none⟩ (.int .i64 (n : Int))) := fun n a h1 h2 h3 =>
      check_end t w W5.heap.size n _ a (Boxed.set _ HKK.out.2.1) ((Below.heap_setCell _ _ _ _ (by have := HKK.out.2.2.1; show W5.heap.size ≠ w.heap.size + 1; omega)).trans HKK.out.1) HKK.out.2.2.1 (HKK.out.2.2.2.setCell (p := ⟨w.heap.size + 1, 0, none⟩) (by show w.heap.size ≤ w.heap.size + 1; omega) _) h1 h2 h3
    have HEND := Lib.hid hend
    clear hend
    by_cases h64 : 64 < d
    · have H2 : Hid (chk t = 2) := Lib.hid (by rw [HH.out, if_pos h64])
      go_wp2_with fail
      exact HEND.out 2 _ H2 rfl rfl
    · cases R
      · have H2 : Hid (chk t = 9) := Lib.hid (by rw [HH.out, if_neg h64]; rfl)
        go_wp2_with fail
        exact HEND.out 9 _ H2 rfl rfl
      · have H2 : Hid (chk t = 0) := Lib.hid (by rw [HH.out, if_neg h64]; rfl)
        go_wp2_with fail
        exact HEND.out 0 _ H2 rfl rfl
  case stop =>
    rintro c pre W ⟨q, hq⟩ ⟨rfl, he, hm, hB⟩ hK
    have hc2 : chk t = 2 := by
      have h1 := congrArg List.length hq
      rw [rws_len, List.length_append] at h1
      unfold chk
      rw [if_pos (.inr (by omega))]
    have HX := Lib.hid (And.intro he (And.intro hK (And.intro z5 (And.intro hB hc2))))
    clear he hm hB hK z5 hc2 hq hG hI0
    gi_wp2
    obtain ⟨he, hK, z5, hB, hc2⟩ := HX.out
    exact check_end t w W5.heap.size 2 W _ he hK z5 hB (Lib.hid hc2) rfl rfl
end Go.Proofs.Ytfchondipjiicaa.nn
namespace Go.Proofs.Ytfchondipjiicaa.nn
open Go.RowKit

theorem pchk_parts {t : VT} (h : chk t = 0) : dep t ≤ 64 ∧ cnt t ≤ 65536 ∧ rgt t = true := by
  unfold chk at h
  by_cases h1 : 64 < dep t ∨ 65536 < cnt t
  · rw [if_pos h1] at h; cases h
  · rw [if_neg h1] at h
    cases hr : rgt t with
    | true => exact ⟨by omega, by omega, rfl⟩
    | false => rw [hr] at h; cases h
/-- what Encode answers -/
def EpAns (t : VT) (w : World) (e : Ending) (w' : World) : Prop :=
  ∃ A c, e = .returned (.tuple #[.slice A (epL t).length c, .int .i64 (epE t : Int)]) ∧ (epL t).length ≤ c ∧ c ≤ maxLen ∧ Rd w' .u8 A (epL t).length (gL (epL t)) ∧ Below w.heap.size w w'
set_option maxRecDepth 100000 in
set_option maxHeartbeats 4000000 in
theorem pencode_any (t : VT) (C : Value) (w : World) (hN : cnt t ≤ 1099511627776) (hS : smx t ≤ maxLen) (hC : Lst w C t.l) (hwf : wfT t) (hle : (pkB t).length + 60 ≤ 140737488355328) :
    Calls Try.prog 6 #[vv t C] w (EpAns t w) := by
  obtain ⟨Ac, mc, cc, rfl⟩ : ∃ A m c, C = .slice A m c := by obtain ⟨a, b, e, _⟩ := hC.out; exact ⟨a, _, b, e⟩
  have HX := Box.new w t (.slice Ac mc cc) 25
  have HX0 := Lib.hid HX
  have HCK : Hid (∀ W, Box w t (.slice Ac mc cc) W → Calls Try.prog 14 #[vv t (.slice Ac mc cc)] W fun e w' => e = .returned (.int .i64 (chk t : Int)) ∧ Box w t (.slice Ac mc cc) w') := Lib.hid fun W hW => (vcheck_any t _ W hN hS (hC.keep hW.b (Nat.le_refl _)) hwf).mono fun e w' ⟨h1, h2⟩ => ⟨h1, hW.on h2⟩
  have HIT : Hid (chk t = 0 → ∀ W, Box w t (.slice Ac mc cc) W → Calls Try.prog 15 #[.pointer (some ⟨W.heap.size, 0, none⟩), vv t (.slice Ac mc cc)] (W.alloc (.cells #[.slice none 0 0] 45)) (ItP w.heap.size W.heap.size (pkB t) (say t) (W.alloc (.cells #[.slice none 0 0] 45)))) := Lib.hid fun hc W hW => by
    obtain ⟨_, _, hr⟩ := pchk_parts hc
    have hsz : w.heap.size ≤ W.heap.size := Nat.le_of_lt hW.z
    have := itp_any w W.heap.size (cnt t) t (Nat.le_refl _) hN hr hwf (.slice Ac mc cc) [] (W.alloc (.cells #[.slice none 0 0] 45)) hC (hW.b.alloc hsz _) ⟨.slice none 0 0, hsz, heap_alloc_last _ _, World.ownsRow_nil _ _ _ _⟩ (by simp; omega)
    rw [List.nil_append] at this
    exact this
  have HBC : Hid (∀ W, Box w t (.slice Ac mc cc) W → W.cell? ⟨w.heap.size, 0, none⟩ = some (.int .i64 t.k) ∧ W.cell? ⟨w.heap.size, 1, none⟩ = some (.bool t.g) ∧ W.cell? ⟨w.heap.size, 2, none⟩ = some (.int .u64 (t.n : Int)) ∧ W.cell? ⟨w.heap.size, 3, none⟩ = some (.string t.s) ∧ W.cell? ⟨w.heap.size, 4, none⟩ = some (.slice Ac mc cc)) := Lib.hid fun W hW => ⟨hW.r.k, hW.r.g, hW.r.n, hW.r.s, hW.r.l⟩
  have HEN : Hid (epL t = (if chk t = 0 ∧ say t = true then pkB t else []) ∧ epE t = (if chk t = 0 then (if say t then 0 else 10) else chk t)) := Lib.hid ⟨rfl, rfl⟩
  unfold EpAns
  obtain ⟨L, hL⟩ : ∃ L, epL t = L := ⟨_, rfl⟩
  obtain ⟨E, hE⟩ : ∃ E, epE t = E := ⟨_, rfl⟩
  obtain ⟨X, hX⟩ : ∃ X, say t = X := ⟨_, rfl⟩
  obtain ⟨I, hI⟩ : ∃ I, pkB t = I := ⟨_, rfl⟩
  obtain ⟨ck, hck⟩ : ∃ ck, chk t = ck := ⟨_, rfl⟩
  rw [hL, hE, hX, hI, hck] at HEN
  rw [hX, hI, hck] at HIT
  rw [hck] at HCK
  rw [hL, hE]
  have HBB : Hid (∀ W, Box w t (.slice Ac mc cc) W → Below w.heap.size w W ∧ w.heap.size ≤ W.heap.size) := Lib.hid fun W hW => ⟨hW.b, Nat.le_of_lt hW.z⟩
  unfold vv at HCK HIT ⊢
  clear hL hE hX hI hck hN hS hC hwf hle HX
  obtain ⟨c0, c1, c2, c3, c4⟩ := HBC.out _ HX0.out
  go_enter Try.func6, Try.ntmps6
  go_wp2_with fail
  refine (HCK.out _ HX0.out).mono ?_
  rintro e w3 ⟨rfl, hb3⟩
  have HB3 := Lib.hid hb3
  clear hb3 c0 c1 c2 c3 c4 HX0
  obtain ⟨c0, c1, c2, c3, c4⟩ := HBC.out _ HB3.out
  by_cases hc : ck = 0
  · subst hc
    obtain ⟨c0', c1', c2', c3', c4'⟩ := HBC.out _ (HB3.out.on ((Below.refl _ _).alloc (Nat.le_refl _) (.cells #[.slice none 0 0] 45)))
    have HI2 := Lib.hid (HIT.out rfl _ HB3.out)
    have HB4 := Lib.hid (HBB.out _ HB3.out)
    clear HCK HIT HBC HBB
    go_wp2_with fail
    refine HI2.out.mono ?_
    rintro e w5 ⟨⟨h2a, h2b⟩, ⟨hx, rfl, h2c⟩ | ⟨hx, rfl⟩⟩
    · obtain ⟨v, hv⟩ := h2c
      have d0 := hv.c0
      obtain ⟨A, c, rfl, h8, h9, h10⟩ := rd_list rfl hv.2.2
      have HG := Lib.hid (And.intro h8 (And.intro h9 h10))
      have HB5 : Hid (Below w.heap.size w w5) := Lib.hid ((HB4.out.1.alloc HB4.out.2 _).trans h2a)
      have HL : Hid (L = I ∧ E = 0) := Lib.hid (by have h7 := HEN.out; simp [hx] at h7; exact h7)
      clear h2a h2b hv h8 h9 h10 hx HI2 HEN c0 c1 c2 c3 c4 c0' c1' c2' c3' c4'
      go_wp2_with fail
      refine bodyPost_ret (v := .tuple #[.slice A I.length c, .int .i64 0]) (by simp [results, Try.results6, go_sem]) rfl ⟨A, c, ?_, ?_, HG.out.2.1, ?_, HB5.out⟩
      · rw [HL.out.1, HL.out.2]; rfl
      · rw [HL.out.1]; exact HG.out.1
      · rw [HL.out.1]; exact HG.out.2.2
    · have HB5 : Hid (Below w.heap.size w w5) := Lib.hid ((HB4.out.1.alloc HB4.out.2 _).trans h2a)
      have HL : Hid (L = [] ∧ E = 10) := Lib.hid (by have h7 := HEN.out; simp [hx] at h7; exact h7)
      clear h2a h2b hx HI2 HEN c0 c1 c2 c3 c4 c0' c1' c2' c3' c4'
      go_wp2_with fail
      refine bodyPost_ret (v := .tuple #[.slice none 0 0, .int .i64 10]) (by simp [results, Try.results6, go_sem]) rfl ⟨none, 0, ?_, ?_, ?_, ?_, HB5.out⟩
      · rw [HL.out.1, HL.out.2]; rfl
      · rw [HL.out.1]; exact Nat.le_refl _
      · unfold maxLen; omega
      · rw [HL.out.1]; exact Rd.none_
  · have hne : ((ck : Int) != 0) = true := by simp; omega
    have HQ := Lib.hid (HBB.out _ HB3.out).1
    have HL : Hid (L = [] ∧ E = ck) := Lib.hid ⟨by rw [HEN.out.1, if_neg (by omega)], by rw [HEN.out.2, if_neg hc]⟩
    clear HCK HIT HBC HBB c0 c1 c2 c3 c4 hc HEN
    go_wp2_with fail
    refine bodyPost_ret (v := .tuple #[.slice none 0 0, .int .i64 (ck : Int)]) (by simp [results, Try.results6, go_sem]) rfl ⟨none, 0, ?_, ?_, ?_, ?_, HQ.out⟩
    · rw [HL.out.1, HL.out.2]; rfl
    · rw [HL.out.1]; exact Nat.le_refl _
    · unfold maxLen; omega
    · rw [HL.out.1]; exact Rd.none_
/-- Encode of no value -/
theorem epN : epL (.mk 0 false 0 ⟨#[]⟩ []) = [192] ∧ epE (.mk 0 false 0 ⟨#[]⟩ []) = 0 := by decide +kernel
set_option maxRecDepth 100000 in
set_option maxHeartbeats 1000000 in
theorem awake13 (w : World) : Calls Try.prog 8 #[] w fun e w' => e = .returned (.bool true) ∧ Below w.heap.size w w' := by
  have hC := pencode_any (.mk 0 false 0 ⟨#[]⟩ []) (.slice none 0 0) w (by decide) (by decide) .nil_ ⟨by decide, by decide, by decide, trivial⟩ (by decide +kernel)
  unfold EpAns at hC
  rw [epN.1, epN.2] at hC
  have HC : Hid (Calls Try.prog 6 #[.agg #[.int .i64 0, .bool false, .int .u64 0, .string ⟨#[]⟩, .slice none 0 0]] w fun e w' => ∃ (b off : Nat) (c : Nat), e = .returned (.tuple #[.slice (some ⟨b, off, none⟩) 1 c, .int .i64 0]) ∧ w'.cell? ⟨b, off, none⟩ = some (.int .u8 192) ∧ Below w.heap.size w w') := Lib.hid (hC.mono fun e w' ⟨A, c, he, _, _, hr, hb⟩ => by
    obtain ⟨b, off, rfl, _, hc⟩ := hr (by decide)
    exact ⟨b, off, c, he, hc 0 (by decide), hb⟩)
  clear hC
  go_enter Try.func8, Try.ntmps8
  go_wp2_with fail
  refine HC.out.mono ?_
  rintro e w' ⟨b, off, c, rfl, q0, hb⟩
  have HB := Lib.hid hb
  clear hb
  go_wp2_with fail
  go_ret
  exact ⟨rfl, HB.out⟩
end Go.Proofs.Ytfchondipjiicaa.nn
namespace Go.Proofs.Ytfchondipjiicaa.nn
open Go.RowKit

theorem tmV_form (t : VT) : ∃ (a b : Int) (c : Bool), tmV t = .tuple #[.int .i64 a, .int .u32 b, .bool c] := by
  unfold tmV tmR tmNo
  split
  · exact ⟨_, _, _, rfl⟩
  · exact ⟨_, _, _, rfl⟩
theorem ftA_form (x : Int) (n : Nat) : ∃ (k m : Nat) (s : ByteArray) (E : Int), ftA x n = .tuple #[.agg #[.int .i64 (k : Int), .bool false, .int .u64 (m : Int), .string s, .slice none 0 0], .int .i64 E] := by
  unfold ftA ftB ftS ftNo
  split
  · exact ⟨14, 255, _, 0, rfl⟩
  · exact ⟨0, 0, _, 1, rfl⟩
set_option maxRecDepth 100000 in
set_option maxHeartbeats 8000000 in
theorem ptimes_any (t : VT) (C : Value) (x : Int) (h1 : -9223372036854775808 ≤ x) (h2 : x ≤ 9223372036854775807) (n : Nat) (hn : n < 4294967296) (w : World) (hC : Lst w C t.l) (hb : blk t ≤ 1048576) (_ : wfT t) :
    Calls Try.prog 4 #[vv t C, .int .i64 x, .int .u32 (n : Int)] w fun e w' => e = .returned (.bool true) ∧ Below w.heap.size w w' := by
  have hcl := len_cntL t.l
  have hcm := cnt_mk t
  have hcb := cnt_blk t
  have HX0 := Lib.hid (Box.new w t C 25)
  obtain ⟨a, b, c, hT⟩ := tmV_form t
  obtain ⟨k, m, s, E, hF⟩ := ftA_form x n
  have H1 : Hid (∀ W, Box w t C W → Calls Try.prog 9 #[vv t C] W fun e w' => e = .returned (.tuple #[.int .i64 a, .int .u32 b, .bool c]) ∧ Box w t C w') := Lib.hid fun W hW =>
    (ptime_any (w := W) t C (hC.keep hW.b (Nat.le_refl _)) (by omega)).mono fun e w' ⟨he, h3⟩ => ⟨by rw [he, hT], hW.on h3⟩
  have H2 : Hid (∀ W, Box w t C W → Calls Try.prog 10 #[vv t C] W fun e w' => e = .returned (.tuple #[.int .i64 a, .int .u32 b, .bool c]) ∧ Below w.heap.size w w') := Lib.hid fun W hW =>
    (rtime_any (w := W) t C (hC.keep hW.b (Nat.le_refl _)) (by omega)).mono fun e w' ⟨he, h3⟩ => ⟨by rw [he, hT], hW.b.trans (h3.mono hW.b.size)⟩
  have H3 : Hid (∀ W, Calls Try.prog 11 #[.int .i64 x, .int .u32 (n : Int)] W fun e w' => e = .returned (.tuple #[.agg #[.int .i64 (k : Int), .bool false, .int .u64 (m : Int), .string s, .slice none 0 0], .int .i64 E]) ∧ Below W.heap.size W w') := Lib.hid fun W =>
    (pfrom_any (w := W) x n h1 h2 hn).mono fun e w' ⟨he, h3⟩ => ⟨by rw [he, hF], h3⟩
  have H4 : Hid (∀ W, Calls Try.prog 12 #[.int .i64 x, .int .u32 (n : Int)] W fun e w' => e = .returned (.tuple #[.agg #[.int .i64 (k : Int), .bool false, .int .u64 (m : Int), .string s, .slice none 0 0], .int .i64 E]) ∧ Below W.heap.size W w') := Lib.hid fun W =>
    (rfrom_any (w := W) x n h1 h2 hn).mono fun e w' ⟨he, h3⟩ => ⟨by rw [he, hF], h3⟩
  have H5 : Hid (∀ W, Calls Try.prog 13 #[.agg #[.int .i64 (k : Int), .bool false, .int .u64 (m : Int), .string s, .slice none 0 0], .agg #[.int .i64 (k : Int), .bool false, .int .u64 (m : Int), .string s, .slice none 0 0]] W fun e w' => e = .returned (.bool true) ∧ Below W.heap.size W w') := Lib.hid fun W =>
    (same13_any 1 (.mk k false m s []) (.mk k false m s []) (.slice none 0 0) (.slice none 0 0) W (by simp [cnt, cntL]) (by decide) (by simp [cnt, cntL]) .nil_ .nil_).mono fun e w' ⟨he, h3⟩ => ⟨by rw [he, (eqv_iff _ _).2 rfl], h3⟩
  have HA := Lib.hid (fun W (_ : Below w.heap.size w W) => awake13 W)
  have HBC : Hid (∀ W, Box w t C W → (W.cell? ⟨w.heap.size, 0, none⟩ = some (.int .i64 t.k) ∧ W.cell? ⟨w.heap.size, 1, none⟩ = some (.bool t.g) ∧ W.cell? ⟨w.heap.size, 2, none⟩ = some (.int .u64 (t.n : Int)) ∧ W.cell? ⟨w.heap.size, 3, none⟩ = some (.string t.s) ∧ W.cell? ⟨w.heap.size, 4, none⟩ = some C) ∧ Below w.heap.size w W) := Lib.hid fun W hW => ⟨⟨hW.r.k, hW.r.g, hW.r.n, hW.r.s, hW.r.l⟩, hW.b⟩
  obtain ⟨⟨c0, c1, c2, c3, c4⟩, _⟩ := HBC.out _ HX0.out
  unfold vv at H1 H2 ⊢
  clear hC hb hT hF hcl hcm hcb h1 h2 hn
  go_enter Try.func4, Try.ntmps4
  go_wp2_with fail
  refine (H1.out _ HX0.out).mono ?_
  rintro r w1 ⟨rfl, p1⟩
  have HX1 := Lib.hid p1
  clear c0 c1 c2 c3 c4 p1
  obtain ⟨⟨c0, c1, c2, c3, c4⟩, _⟩ := HBC.out _ HX1.out
  go_wp2_with fail
  refine (H2.out _ HX1.out).mono ?_
  rintro r w2 ⟨rfl, p2⟩
  have HB2 := Lib.hid p2
  clear c0 c1 c2 c3 c4 p2 HX0 HX1 H1 H2 HBC
  go_wp2_with fail
  refine (H3.out _).mono ?_
  rintro r w3 ⟨rfl, p3⟩
  have HB3 := Lib.hid (HB2.out.trans (p3.mono HB2.out.size))
  clear p3 H3
  go_wp2_with fail
  refine (H4.out _).mono ?_
  rintro r w4 ⟨rfl, p4⟩
  have hA3 := HB3.out.alloc HB3.out.size (.cells #[.int .i64 (k : Int), .bool false, .int .u64 (m : Int), .string s, .slice none 0 0] 25)
  have HB4 := Lib.hid (hA3.trans (p4.mono hA3.size))
  have k3 : w4.heap[w3.heap.size]? = some (.cells #[.int .i64 (k : Int), .bool false, .int .u64 (m : Int), .string s, .slice none 0 0] 25 (0, 0)) := (p4.block w3.heap.size (by simp)).trans (heap_alloc_last _ _)
  have k4 : (w4.alloc (.cells #[.int .i64 (k : Int), .bool false, .int .u64 (m : Int), .string s, .slice none 0 0] 25)).heap[w3.heap.size]? = some (.cells #[.int .i64 (k : Int), .bool false, .int .u64 (m : Int), .string s, .slice none 0 0] 25 (0, 0)) := (((Below.refl _ _).alloc (Nat.le_refl _) _).block w3.heap.size (lt_of_block k3)).trans k3
  have a0 := cell_of_row _ _ 0 _ _ _ k3
  have a1 := cell_of_row _ _ 1 _ _ _ k3
  have a2 := cell_of_row _ _ 2 _ _ _ k3
  have a3 := cell_of_row _ _ 3 _ _ _ k3
  have a4 := cell_of_row _ _ 4 _ _ _ k3
  have b0 := cell_of_row _ _ 0 _ _ _ k4
  have b1 := cell_of_row _ _ 1 _ _ _ k4
  have b2 := cell_of_row _ _ 2 _ _ _ k4
  have b3 := cell_of_row _ _ 3 _ _ _ k4
  have b4 := cell_of_row _ _ 4 _ _ _ k4
  have HB4' := Lib.hid (HB4.out.alloc HB4.out.size (.cells #[.int .i64 (k : Int), .bool false, .int .u64 (m : Int), .string s, .slice none 0 0] 25))
  clear p4 H4 k3 k4 hA3
  go_wp2_with fail
  refine (H5.out _).mono ?_
  rintro r w5 ⟨rfl, p5⟩
  have HB5 := Lib.hid (HB4'.out.trans (p5.mono HB4'.out.size))
  have HAA := Lib.hid (HA.out w5 HB5.out)
  clear p5 H5 HA
  go_wp2_with fail
  refine HAA.out.mono ?_
  rintro r w6 ⟨rfl, p6⟩
  have HB6 := Lib.hid (HB5.out.trans (p6.mono HB5.out.size))
  clear p6 HAA
  go_wp2_with fail
  go_ret
  exact ⟨rfl, HB6.out⟩
end Go.Proofs.Ytfchondipjiicaa.nn
namespace Go.Proofs.Ytfchondipjiicaa.nn
open Go.ChangeShapes Go.WideShapes Go.ChangeAt Go.RowKit

theorem Try.own : ownKnob Try.prog.godebug = none := by kernel_rfl
theorem Try.laidOut : laidOutB Try.prog = true := by kernel_rfl
theorem wf_i64 {n : Int} (h : (Lit.int .i64 n).wf = true) : -9223372036854775808 ≤ n ∧ n ≤ 9223372036854775807 := by
  have h1 : IntKind.i64.min = -9223372036854775808 := rfl
  have h2 : IntKind.i64.max = 9223372036854775807 := rfl
  simp only [Lit.wf, Bool.and_eq_true, decide_eq_true_eq] at h
  omega
theorem wf_u64 {n : Int} (h : (Lit.int .u64 n).wf = true) : 0 ≤ n ∧ n < ((18446744073709551616 : Nat) : Int) := by
  have h1 : IntKind.u64.min = 0 := rfl
  have h2 : IntKind.u64.max = 18446744073709551615 := rfl
  simp only [Lit.wf, Bool.and_eq_true, decide_eq_true_eq] at h
  omega
end Go.Proofs.Ytfchondipjiicaa.nn
namespace Go.Proofs.Ytfchondipjiicaa.nn
open Go.ChangeShapes Go.WideShapes Go.ChangeAt Go.RowKit

theorem Try.cellsV : Try.prog.cellsOf 25 = 5 := by kernel_rfl
theorem blk_add (b off i : Nat) : (⟨b, off, none⟩ : Addr).add i = ⟨b, off + i, none⟩ := by unfold Addr.add; split <;> simp_all
theorem bulkAll_app {H : Type} (l r : List (DataW H)) : Rows.uptoBulkAll (l ++ r) = Rows.uptoBulkAll l + Rows.uptoBulkAll r := by
  induction l with
  | nil => simp [Rows.uptoBulkAll]
  | cons x l ih => simp only [List.cons_append, Rows.uptoBulkAll, ih]; omega
theorem bulkAll_at {H : Type} {l : List (DataW H)} {x : DataW H} (h : x ∈ l) : Rows.uptoBulk x ≤ Rows.uptoBulkAll l := by
  induction l with
  | nil => cases h
  | cons y r ih =>
    simp only [Rows.uptoBulkAll]
    rcases List.mem_cons.1 h with rfl | h
    · omega
    · have := ih h; omega
theorem blkL_app (a b : List VT) : blkL (a ++ b) + 1 = blkL a + blkL b := by
  induction a with
  | nil => simp only [List.nil_append, blkL]; omega
  | cons t r ih => simp only [List.cons_append, blkL]; omega
theorem wfL_all {l : List VT} (h : ∀ t ∈ l, wfT t) : wfL l := by
  induction l with
  | nil => trivial
  | cons t r ih => exact ⟨h t (by simp), ih fun x hx => h x (by simp [hx])⟩
section
variable {H : Type} {enc : TypeId × Value → H} {W : World}

set_option maxRecDepth 100000 in
/-- a value's five cells -/
theorem open_cells {fuel : Nat} {cs : List Value} {x : DataW H × List MemPlace} (h : DataW.trod enc Try.prog W 0 (fun _ => true) true fuel 25 cs = some x) :
    ∃ (k : Int) (g : Bool) (n : Nat) (s : ByteArray) (C : Value) (y : DataW H × List MemPlace) (f : Nat), cs = [.int .i64 k, .bool g, .int .u64 (n : Int), .string s, C] ∧ (-9223372036854775808 ≤ k ∧ k ≤ 9223372036854775807 ∧ n < 18446744073709551616) ∧
      DataW.trod enc Try.prog W 0 (fun _ => true) true f 23 [C] = some y ∧ Rows.uptoBulk x.1 = s.size + Rows.uptoBulk y.1 + 5 ∧ ∀ q ∈ y.2, q ∈ x.2 := by
  obtain ⟨xs, n, _, hx, hlen, hxl, hf⟩ := DataW.trod_struct Try.underlying25 h
  rw [Try.cellsV] at hlen
  match cs, hlen with
  | [c0, c1, c2, c3, c4], _ =>
    match xs, hxl with
    | [y0, y1, y2, y3, y4], _ =>
      have f0 := hf 0 _ rfl
      have f1 := hf 1 _ rfl
      have f2 := hf 2 _ rfl
      have f3 := hf 3 _ rfl
      have f4 := hf 4 _ rfl
      simp only [List.getElem?_cons_zero, List.getElem?_cons_succ] at f0 f1 f2 f3 f4
      obtain ⟨k, e0, z0, w0⟩ := DataW.trod_int Try.underlying3 f0
      obtain ⟨g, e1, z1⟩ := DataW.trod_bool Try.underlying4 f1
      obtain ⟨u, e2, z2, w2⟩ := DataW.trod_int Try.underlying22 f2
      obtain ⟨s, e3, z3, _⟩ := DataW.trod_string Try.underlying9 f3
      have hk := wf_i64 w0
      have hu := wf_u64 w2
      obtain ⟨m, rfl⟩ := Int.eq_ofNat_of_zero_le hu.1
      injection e0 with e0 _
      injection e1 with e1 _
      injection e2 with e2 _
      injection e3 with e3 _
      subst e0 e1 e2 e3 z0 z1 z2 z3 hx
      refine ⟨k, g, m, s, c4, y4, n, rfl, ⟨hk.1, hk.2, by omega⟩, f4, ?_, ?_⟩
      · simp only [List.map_cons, List.map_nil, Rows.uptoBulk, Rows.uptoBulkAll, Array.length_toList]
        show _ = s.data.size + _ + 5
        omega
      · intro q hq
        simp [hq]
theorem open_list (B : Nat) : ∀ (fuel : Nat) (cs : List Value) (x : DataW H × List MemPlace), DataW.trod enc Try.prog W 0 (fun _ => true) true fuel 23 cs = some x → Rows.uptoBulk x.1 ≤ B → (∀ q ∈ x.2, q.block < W.heap.size) →
    ∃ (v : Value) (l : List VT), cs = [v] ∧ Lst W v l ∧ blkL l ≤ Rows.uptoBulk x.1 ∧ wfL l := by
  induction B with
  | zero =>
    intro fuel cs x h hB _
    rcases Go.Deep.open_slice Try.underlying23 h with ⟨rfl, rfl⟩ | ⟨a, len, cap, m, n, D, Pl, hcs, _, hl, hm, hmm, hx, hi⟩
    · exact ⟨_, [], rfl, .nil_, by simp [blkL, Rows.uptoBulk], trivial⟩
    · subst hx
      simp only [Rows.uptoBulk] at hB
      omega
  | succ B ih =>
    intro fuel cs x h hB hp
    rcases Go.Deep.open_slice Try.underlying23 h with ⟨rfl, rfl⟩ | ⟨a, len, cap, m, n, D, Pl, hcs, _, hl, hm, hmm, hx, hi⟩
    · exact ⟨_, [], rfl, .nil_, by simp [blkL, Rows.uptoBulk], trivial⟩
    · subst hcs hx
      simp only [if_true] at hmm
      subst hmm
      rw [Try.cellsV] at hi hp
      rcases Nat.eq_zero_or_pos len with h0 | h0
      · subst h0
        exact ⟨_, [], rfl, .nil_, by simp only [blkL, Rows.uptoBulk]; omega, trivial⟩
      · have hc0 : 0 < m := by omega
        obtain ⟨cs0, q1, _⟩ := hi 0 hc0
        obtain ⟨b, off, spot⟩ := a
        obtain ⟨_, ql, qc⟩ := World.cells?_some q1
        have hsp : spot = none := by
          have h1 := qc 0 (by omega)
          rw [show (cs0[0]? : Option Value) = some (cs0[0]'(by omega)) from List.getElem?_eq_getElem (by omega)] at h1
          simpa [Addr.add] using World.cell?_spot h1
        subst hsp
        have hb : b < W.heap.size := hp (.cell b off) (List.mem_append.2 (.inl (MemPlace.mem_row.2 ⟨0, by omega, by simp⟩)))
        simp only [Rows.uptoBulk] at hB
        have key : ∀ i, i < len → ∃ (t : VT) (C : Value), Row W b (off + i * 5) t C ∧ Lst W C t.l ∧ blk t ≤ Rows.uptoBulk (D i) ∧ wfT t := by
          intro i hil
          obtain ⟨cs', h1, h2⟩ := hi i (by omega)
          obtain ⟨_, hcl, hat⟩ := World.cells?_some h1
          obtain ⟨k, g, u, s, C, y, f, rfl, hw, hy, hbk, hpl⟩ := open_cells h2
          dsimp only at hbk
          have hmem : D i ∈ (List.range len).map D := List.mem_map.2 ⟨i, List.mem_range.2 hil, rfl⟩
          have hle := bulkAll_at hmem
          obtain ⟨v, l, hv, hL, hbl, hwl⟩ := ih f [C] y hy (by omega) (fun q hq => hp q (List.mem_append.2 (.inr (List.mem_flatMap.2 ⟨i, List.mem_range.2 (by omega), hpl q hq⟩))))
          simp only [List.cons.injEq, and_true] at hv
          subst hv
          refine ⟨.mk k g u s l, C, ⟨?_, ?_, ?_, ?_, ?_⟩, hL, ?_, (wfT_mk _).2 ⟨hw.1, hw.2.1, hw.2.2, hwl⟩⟩
          · have := hat 0 (by omega)
            rw [blk_add, blk_add] at this
            show W.cell? _ = some (.int .i64 k)
            simpa using this
          · have := hat 1 (by omega)
            rw [blk_add, blk_add] at this
            show W.cell? _ = some (.bool g)
            simpa using this
          · have := hat 2 (by omega)
            rw [blk_add, blk_add] at this
            show W.cell? _ = some (.int .u64 (u : Int))
            simpa using this
          · have := hat 3 (by omega)
            rw [blk_add, blk_add] at this
            show W.cell? _ = some (.string s)
            simpa using this
          · have := hat 4 (by omega)
            rw [blk_add, blk_add] at this
            show W.cell? _ = some (C)
            simpa using this
          · rw [blk_mk]
            show s.size + blkL l + 5 ≤ _
            rw [hbk]
            omega
        have key2 : ∀ i, ∃ (t : VT) (C : Value), i < len → Row W b (off + i * 5) t C ∧ Lst W C t.l ∧ blk t ≤ Rows.uptoBulk (D i) ∧ wfT t := fun i => by
          by_cases hil : i < len
          · obtain ⟨t, C, h⟩ := key i hil
            exact ⟨t, C, fun _ => h⟩
          · exact ⟨VT.mk 0 false 0 ⟨#[]⟩ [], .bool false, fun h => absurd h hil⟩
        obtain ⟨T, hT⟩ := Classical.axiomOfChoice key2
        obtain ⟨CC, hCC⟩ := Classical.axiomOfChoice hT
        have hlen : ((List.range len).map T).length = len := by simp
        have hget : ∀ i (h : i < ((List.range len).map T).length), ((List.range len).map T)[i] = T i := fun i h => by simp
        refine ⟨_, (List.range len).map T, rfl, .at_ (C := CC) hlen hl hb (fun i h => ?_) (fun i h => ?_), ?_, ?_⟩
        · rw [hget i h]; exact (hCC i (by omega)).1
        · rw [hget i h]; exact (hCC i (by omega)).2.1
        · have hs : ∀ j, j ≤ len → blkL ((List.range j).map T) ≤ Rows.uptoBulkAll ((List.range j).map D) + 1 := fun j hj => by
            induction j with
            | zero => simp [blkL, Rows.uptoBulkAll]
            | succ j ihj =>
              have h1 := ihj (by omega)
              have h2 := (hCC j (by omega)).2.2.1
              rw [List.range_succ, List.map_append, List.map_append, bulkAll_app]
              have h3 := blkL_app ((List.range j).map T) [T j]
              have h4 : blkL [T j] = blk (T j) + 1 := rfl
              simp only [List.map_cons, List.map_nil, Rows.uptoBulkAll]
              omega
          have := hs len (Nat.le_refl _)
          simp only [Rows.uptoBulk]
          omega
        · exact wfL_all fun t ht => by
            obtain ⟨i, hi, rfl⟩ := List.mem_map.1 ht
            exact (hCC i (List.mem_range.1 hi)).2.2.2
set_option maxRecDepth 100000 in
/-- an argument that is a tree -/
theorem open_val {base : Nat} {v : Value} {d : DataW H} {p : List MemPlace} (hok : Value.okWide Try.prog W .any base 25 v) (h : DataW.Trod enc Try.prog W 0 (fun _ => true) true 25 v d p) (hlt : ∀ x ∈ p, x.block < W.heap.size) :
    ∃ (t : VT) (C : Value), v = vv t C ∧ Lst W C t.l ∧ blk t ≤ Rows.uptoBulk d ∧ wfT t := by
  obtain ⟨cs, rfl, hsz⟩ := okWide_struct Try.underlying25 hok
  obtain ⟨fuel, hf⟩ := h
  have hcl : (Value.agg cs).cells.toList = cs.toList := by simp [Value.cells]
  rw [hcl] at hf
  obtain ⟨k, g, u, s, C, y, f, hcs, hw, hy, hbk, hpl⟩ := open_cells hf
  obtain ⟨v, l, hv, hL, hbl, hwl⟩ := open_list _ f [C] y hy (Nat.le_refl _) (fun q hq => hlt q (hpl q hq))
  simp only [List.cons.injEq, and_true] at hv
  subst hv
  refine ⟨.mk k g u s l, C, ?_, hL, ?_, (wfT_mk _).2 ⟨hw.1, hw.2.1, hw.2.2, hwl⟩⟩
  · unfold vv
    congr 1
    rw [← Array.toArray_toList (xs := cs), hcs]
    rfl
  · rw [blk_mk]
    show s.size + blkL l + 5 ≤ _
    dsimp only at hbk
    rw [hbk]
    omega
end
end Go.Proofs.Ytfchondipjiicaa.nn
