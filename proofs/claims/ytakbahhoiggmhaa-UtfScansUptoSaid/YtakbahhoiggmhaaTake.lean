/- The walk of take: one byte on; what is due lies at the end of its block. -/
import Derived.Test.YtakbahhoiggmhaaBehind
namespace Go.Proofs.Ytakbahhoiggmhaa.nn
open Go.RowKit

/-- block g is just pre and, behind it, what is due -/
def tcs (pre : List Value) (t : Tl) : Array Value := (pre ++ ([Value.int .i64 (t.c : Int), Value.int .u8 (t.lo : Int), Value.int .u8 (t.hi : Int)] : List Value)).toArray
def Sc (w : World) (g : Nat) (e : TypeId) (pre : List Value) (t : Tl) : Prop := w.heap[g]? = some (.cells (tcs pre t) e (0, 0))

section
variable {w w' : World} {g : Nat} {e : TypeId} {pre : List Value} {t t' : Tl} {off : Nat}
theorem tcs_pre {i : Nat} (h : i < pre.length) : (tcs pre t)[i]? = pre[i]? := by simp [tcs, List.getElem?_append_left h]
theorem tcs_0 : (tcs pre t)[pre.length]? = some (.int .i64 (t.c : Int)) := by simp [tcs]
theorem tcs_1 : (tcs pre t)[pre.length + 1]? = some (.int .u8 (t.lo : Int)) := by simp [tcs]
theorem tcs_2 : (tcs pre t)[pre.length + 2]? = some (.int .u8 (t.hi : Int)) := by simp [tcs]
theorem Sc.lt (h : Sc w g e pre t) : g < w.heap.size := (Array.getElem?_eq_some_iff.1 h).1
theorem Sc.cell (h : Sc w g e pre t) (i : Nat) : w.cell? ⟨g, i, none⟩ = (tcs pre t)[i]? := cell_of_row w g i (tcs pre t) e (0, 0) h
theorem Sc.c0 (h : Sc w g e pre t) (ho : pre.length = off) : w.cell? ⟨g, off, none⟩ = some (.int .i64 (t.c : Int)) := by subst ho; rw [h.cell, tcs_0]
theorem Sc.c1 (h : Sc w g e pre t) (ho : pre.length = off) : w.cell? ⟨g, off + 1, none⟩ = some (.int .u8 (t.lo : Int)) := by subst ho; rw [h.cell, tcs_1]
theorem Sc.c2 (h : Sc w g e pre t) (ho : pre.length = off) : w.cell? ⟨g, off + 2, none⟩ = some (.int .u8 (t.hi : Int)) := by subst ho; rw [h.cell, tcs_2]
theorem Sc.frozen (h : Sc w g e pre t) (i : Nat) : w.frozen? ⟨g, i, none⟩ = false := by
  unfold Sc at h
  simp [World.frozen?, h]
theorem Sc.below {B : Nat} (h : Sc w g e pre t) (hb : Below B w w') (hg : g < B) : Sc w' g e pre t := (hb.block g hg).trans h
theorem Sc.alloc (h : Sc w g e pre t) (o : Obj) : Sc (w.alloc o) g e pre t := (Below.heap_alloc _ _ _ h.lt).trans h
theorem Sc.set3 (h : Sc w g e pre t) (ho : pre.length = off) (c lo hi : Nat) : Sc (((w.setCell ⟨g, off, none⟩ (.int .i64 (c : Int))).setCell ⟨g, off + 1, none⟩ (.int .u8 (lo : Int))).setCell ⟨g, off + 2, none⟩ (.int .u8 (hi : Int))) g e pre ⟨c, lo, hi⟩ := by
  subst ho
  unfold Sc at h ⊢
  simp only [World.setCell, Array.getElem?_modify, h, if_true, Option.map_some, Option.isSome_none, Bool.false_eq_true, if_false]
  congr 2
  apply Array.ext_getElem?
  intro i
  simp only [tcs, Array.getElem?_setIfInBounds, List.getElem?_toArray, List.size_toArray, Array.size_setIfInBounds, List.length_append, List.length_cons, List.length_nil]
  by_cases h0 : i < pre.length
  · rw [if_neg (by omega), if_neg (by omega), if_neg (by omega), List.getElem?_append_left h0, List.getElem?_append_left h0]
  · obtain ⟨j, rfl⟩ : ∃ j, i = pre.length + j := ⟨i - pre.length, by omega⟩
    match j with
    | 0 | 1 | 2 => simp
    | j + 3 => simp
theorem Sc.set3n (h : Sc w g e pre t) (ho : pre.length = off) (c : Nat) : Sc (((w.setCell ⟨g, off, none⟩ (.int .i64 (c : Int))).setCell ⟨g, off + 1, none⟩ (.int .u8 128)).setCell ⟨g, off + 2, none⟩ (.int .u8 191)) g e pre ⟨c, 128, 191⟩ := h.set3 ho c 128 191
theorem below_set3 {B : Nat} (h : Below B w w') (hg : B ≤ g) (a b c : Nat) (u v x : Value) : Below B w (((w'.setCell ⟨g, a, none⟩ u).setCell ⟨g, b, none⟩ v).setCell ⟨g, c, none⟩ x) :=
  ((h.setCell hg u).setCell hg v).setCell hg x
end

theorem behind_bd (x : Nat) : (bh x).c < 4 ∧ (bh x).lo < 256 ∧ (bh x).hi < 256 := by
  have a := nd_cases x
  have b := lt_cases x
  have c := mt_cases x
  unfold bh
  split
  · exact ⟨by decide, by decide, by decide⟩
  · exact ⟨by dsimp only; omega, by dsimp only; omega, by dsimp only; omega⟩

set_option maxRecDepth 100000 in
set_option maxHeartbeats 1000000 in
theorem take_first (t : Tl) (g off : Nat) (e : TypeId) (pre : List Value) (x : Nat) (w : World) (h : Sc w g e pre t) (ho : pre.length = off) (hz : t.c = 0) (c lo hi : Nat) (b : Bool) (hc : c < 4) (hl : lo < 256) (hh : hi < 256)
    (hB : Hid (Calls Try.prog 32 #[.int .u8 (x : Int)] w fun e w' => e = .returned (.tuple #[.agg #[.int .i64 (c : Int), .int .u8 (lo : Int), .int .u8 (hi : Int)], .bool b]) ∧ Below w.heap.size w w')) :
    Calls Try.prog 26 #[.pointer (some ⟨g, off, none⟩), .int .u8 (x : Int)] w fun r w' => r = .returned (.bool b) ∧ Below g w w' ∧ Sc w' g e pre ⟨c, lo, hi⟩ := by
  have c0 := h.c0 ho
  have hlt := h.lt
  rw [hz] at c0
  have hz' := Lib.hid hz
  have ho' := Lib.hid ho
  have h' := Lib.hid h
  clear hz ho h
  go_enter Try.func26, Try.ntmps26
  go_wp2_with fail
  refine hB.out.mono ?_
  rintro r w1 ⟨rfl, hb⟩
  have hs := h'.out.below hb hlt
  have hb1 := (Below.refl g w).trans (hb.mono (Nat.le_of_lt hlt))
  have hlt1 := hs.lt
  have f1 := hs.frozen
  have d0 := hs.c0 ho'.out
  have d1 := hs.c1 ho'.out
  have d2 := hs.c2 ho'.out
  have hs' := Lib.hid hs
  clear hs
  go_wp2_with fail
  go_ret
  exact ⟨rfl, (below_set3 hb1 (Nat.le_refl g) _ _ _ _ _ _).alloc (by simp [World.setCell]; omega) _, (hs'.out.set3 ho'.out c lo hi).alloc _⟩

set_option maxRecDepth 100000 in
set_option maxHeartbeats 1000000 in
theorem take_next (t : Tl) (g off : Nat) (e : TypeId) (pre : List Value) (x : Nat) (w : World) (h : Sc w g e pre t) (ho : pre.length = off) (hx : x < 256) (hz : t.c ≠ 0) (hc : t.c < 4) :
    Calls Try.prog 26 #[.pointer (some ⟨g, off, none⟩), .int .u8 (x : Int)] w fun r w' => r = .returned (.bool (ok t x)) ∧ Below g w w' ∧ Sc w' g e pre (nx t x) := by
  have e1 : ok t x = decide (t.lo ≤ x ∧ x ≤ t.hi) := by unfold ok; rw [if_neg hz]
  have e2 : nx t x = if t.lo ≤ x ∧ x ≤ t.hi then ⟨t.c - 1, 128, 191⟩ else t := by unfold nx; rw [if_neg hz]
  rw [e1, e2]
  clear e1 e2
  obtain ⟨c, lo, hi⟩ := t
  dsimp only at *
  have c0 := h.c0 ho
  have c1 := h.c1 ho
  have c2 := h.c2 ho
  have f0 := h.frozen
  have hlt := h.lt
  have ho' := Lib.hid ho
  have h' := Lib.hid h
  clear ho h
  obtain ⟨c', rfl⟩ : ∃ c', c = c' + 1 := ⟨c - 1, by omega⟩
  by_cases hy : lo ≤ x ∧ x ≤ hi
  · rw [if_pos hy, decide_eq_true hy]
    obtain ⟨hl, hh⟩ := hy
    go_enter Try.func26, Try.ntmps26
    go_wp2_with fail
    go_ret
    exact ⟨rfl, below_set3 (Below.refl g w) (Nat.le_refl g) _ _ _ _ _ _, h'.out.set3n ho'.out c'⟩
  · rw [if_neg hy, decide_eq_false hy]
    by_cases hl : lo ≤ x
    · have hh : ¬ x ≤ hi := fun h => hy ⟨hl, h⟩
      clear hy
      go_enter Try.func26, Try.ntmps26
      go_wp2_with fail
      go_ret
      exact ⟨rfl, Below.refl _ _, h'.out⟩
    · clear hy
      go_enter Try.func26, Try.ntmps26
      go_wp2_with fail
      go_ret
      exact ⟨rfl, Below.refl _ _, h'.out⟩

theorem take_any (t : Tl) (g off : Nat) (e : TypeId) (pre : List Value) (x : Nat) (w : World) (h : Sc w g e pre t) (ho : pre.length = off) (hx : x < 256) (hc : t.c < 4) :
    Calls Try.prog 26 #[.pointer (some ⟨g, off, none⟩), .int .u8 (x : Int)] w fun r w' => r = .returned (.bool (ok t x)) ∧ Below g w w' ∧ Sc w' g e pre (nx t x) := by
  by_cases hz : t.c = 0
  · have e1 : ok t x = decide (nd x ≠ 0) := by unfold ok; rw [if_pos hz]
    have e2 : nx t x = bh x := by unfold nx; rw [if_pos hz]
    rw [e1, e2]
    have hb := behind_bd x
    exact take_first t g off e pre x w h ho hz _ _ _ _ hb.1 hb.2.1 hb.2.2 (Lib.hid (behind_any x w hx))
  · exact take_next t g off e pre x w h ho hx hz hc
end Go.Proofs.Ytakbahhoiggmhaa.nn
