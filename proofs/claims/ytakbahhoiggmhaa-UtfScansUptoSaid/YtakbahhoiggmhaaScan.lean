/- The walks of a scan's calls: what they answer by its state, and what they leave. -/
import Derived.Test.YtakbahhoiggmhaaTakeAll
namespace Go.Proofs.Ytakbahhoiggmhaa.nn
open Go.RowKit

/-- a scan: its state, where it is, what is due -/
def Scn (w : World) (g : Nat) (st at_ : Nat) (t : Tl) : Prop := Sc w g 47 [.int .i64 (st : Int), .int .i64 (at_ : Int)] t

section
variable {w w' : World} {g st at_ : Nat} {t : Tl}
theorem Scn.s0 (h : Scn w g st at_ t) : w.cell? ⟨g, 0, none⟩ = some (.int .i64 (st : Int)) := by rw [Sc.cell h]; rfl
theorem Scn.s1 (h : Scn w g st at_ t) : w.cell? ⟨g, 1, none⟩ = some (.int .i64 (at_ : Int)) := by rw [Sc.cell h]; rfl
theorem Scn.s2 (h : Scn w g st at_ t) : w.cell? ⟨g, 2, none⟩ = some (.int .i64 (t.c : Int)) := by rw [Sc.cell h]; rfl
theorem Scn.new (w : World) : Scn (w.alloc (.cells #[.int .i64 0, .int .i64 0, .int .i64 0, .int .u8 0, .int .u8 0] 47)) w.heap.size 0 0 t0 := heap_alloc_last _ _
theorem Scn.put0 (h : Scn w g st at_ t) (x : Nat) : Scn (w.setCell ⟨g, 0, none⟩ (.int .i64 (x : Int))) g x at_ t := by
  unfold Scn Sc at h ⊢
  simp only [World.setCell, Array.getElem?_modify, h, if_true, Option.map_some, Option.isSome_none, Bool.false_eq_true, if_false]
  rfl
theorem Scn.put1 (h : Scn w g st at_ t) (x : Nat) : Scn (w.setCell ⟨g, 1, none⟩ (.int .i64 (x : Int))) g st x t := by
  unfold Scn Sc at h ⊢
  simp only [World.setCell, Array.getElem?_modify, h, if_true, Option.map_some, Option.isSome_none, Bool.false_eq_true, if_false]
  rfl
end

theorem refusal_nil (w : World) : Calls Try.prog 30 #[.pointer none] w fun r w' => r = .returned (.int .i64 7) ∧ w = w' := by
  go_enter Try.func30, Try.ntmps30
  go_wp2
  go_ret
  exact ⟨rfl, rfl⟩
/-- what a call is refused with -/
def rf (st : Nat) : Nat := if st = 0 then 7 else if st = 2 then 5 else 0
theorem refusal_any (g st at_ : Nat) (t : Tl) (w : World) (h : Scn w g st at_ t) (hst : st < 3) :
    Calls Try.prog 30 #[.pointer (some ⟨g, 0, none⟩)] w fun r w' => r = .returned (.int .i64 (rf st : Int)) ∧ w = w' := by
  have s0 := h.s0
  have hs := (Array.getElem?_eq_some_iff.1 h).1
  clear h
  match st, hst with
  | 0, _ =>
    have s0' : w.cell? ⟨g, 0, none⟩ = some (.int .i64 0) := s0
    clear s0
    go_enter Try.func30, Try.ntmps30
    go_wp2
    go_ret
    exact ⟨rfl, rfl⟩
  | 1, _ =>
    have s0' : w.cell? ⟨g, 0, none⟩ = some (.int .i64 1) := s0
    clear s0
    go_enter Try.func30, Try.ntmps30
    go_wp2
    go_ret
    exact ⟨rfl, rfl⟩
  | 2, _ =>
    have s0' : w.cell? ⟨g, 0, none⟩ = some (.int .i64 2) := s0
    clear s0
    go_enter Try.func30, Try.ntmps30
    go_wp2
    go_ret
    exact ⟨rfl, rfl⟩

theorem at_nil (w : World) : Calls Try.prog 21 #[.pointer none] w fun r w' => r = .returned (.int .i64 0) ∧ w = w' := by
  go_enter Try.func21, Try.ntmps21
  go_wp2
  go_ret
  exact ⟨rfl, rfl⟩
theorem at_any (g st at_ : Nat) (t : Tl) (w : World) (h : Scn w g st at_ t) :
    Calls Try.prog 21 #[.pointer (some ⟨g, 0, none⟩)] w fun r w' => r = .returned (.int .i64 (at_ : Int)) ∧ w = w' := by
  have s1 := h.s1
  clear h
  go_enter Try.func21, Try.ntmps21
  go_wp2
  go_ret
  exact ⟨rfl, rfl⟩

theorem feed_nil (b : Value) (w : World) : Calls Try.prog 20 #[.pointer none, b] w fun r w' => r = .returned (.int .i64 7) ∧ w = w' := by
  go_enter Try.func20, Try.ntmps20
  go_wp2_with fail
  refine (refusal_nil _).mono ?_
  rintro r w1 ⟨rfl, rfl⟩
  go_wp2_with fail
  go_ret
  exact ⟨rfl, rfl⟩
theorem feed_no (b : Value) (g st at_ : Nat) (t : Tl) (w : World) (h : Scn w g st at_ t) (hst : st < 3) (h1 : st ≠ 1) :
    Calls Try.prog 20 #[.pointer (some ⟨g, 0, none⟩), b] w fun r w' => r = .returned (.int .i64 (rf st : Int)) ∧ w = w' := by
  have HC := Lib.hid (refusal_any g st at_ t w h hst)
  have hr : rf st ≠ 0 := by unfold rf; split; omega; split <;> omega
  obtain ⟨x, hx⟩ : ∃ x, rf st = x := ⟨_, rfl⟩
  rw [hx] at HC hr
  rw [hx]
  have q : ((x : Int) != 0) = true := by simp; omega
  clear h hx h1
  go_enter Try.func20, Try.ntmps20
  go_wp2_with fail
  refine HC.out.mono ?_
  rintro r w1 ⟨rfl, rfl⟩
  go_wp2_with fail
  go_ret
  exact ⟨rfl, rfl⟩

theorem close_nil (w : World) : Calls Try.prog 22 #[.pointer none] w fun r w' => r = .returned (.int .i64 7) ∧ w = w' := by
  go_enter Try.func22, Try.ntmps22
  go_wp2_with fail
  refine (refusal_nil _).mono ?_
  rintro r w1 ⟨rfl, rfl⟩
  go_wp2_with fail
  go_ret
  exact ⟨rfl, rfl⟩
theorem close_no (g st at_ : Nat) (t : Tl) (w : World) (h : Scn w g st at_ t) (hst : st < 3) (h1 : st ≠ 1) :
    Calls Try.prog 22 #[.pointer (some ⟨g, 0, none⟩)] w fun r w' => r = .returned (.int .i64 (rf st : Int)) ∧ w = w' := by
  have HC := Lib.hid (refusal_any g st at_ t w h hst)
  have hr : rf st ≠ 0 := by unfold rf; split; omega; split <;> omega
  obtain ⟨x, hx⟩ : ∃ x, rf st = x := ⟨_, rfl⟩
  rw [hx] at HC hr
  rw [hx]
  have q : ((x : Int) != 0) = true := by simp; omega
  clear h hx h1
  go_enter Try.func22, Try.ntmps22
  go_wp2_with fail
  refine HC.out.mono ?_
  rintro r w1 ⟨rfl, rfl⟩
  go_wp2_with fail
  go_ret
  exact ⟨rfl, rfl⟩
/-- Close of a scan that is open -/
theorem close_open (g at_ : Nat) (t : Tl) (w : World) (h : Scn w g 1 at_ t) (hc : t.c < 4) :
    Calls Try.prog 22 #[.pointer (some ⟨g, 0, none⟩)] w fun r w' => r = .returned (.int .i64 ((if t.c = 0 then 0 else 3 : Nat) : Int)) ∧ Below g w w' ∧ Scn w' g 2 at_ t := by
  have HC := Lib.hid (refusal_any g 1 at_ t w h (by omega))
  have s0 : w.cell? ⟨g, 0, none⟩ = some (.int .i64 1) := h.s0
  have s2 := h.s2
  have hf := Sc.frozen h
  have hl := Sc.lt h
  have H' := Lib.hid h
  have HB := Lib.hid (Below.refl g w)
  clear h
  obtain ⟨c, hcc⟩ : ∃ c, t.c = c := ⟨_, rfl⟩
  rw [hcc] at s2 hc
  rw [hcc]
  clear hcc
  by_cases hz : c = 0
  · subst hz
    have s2' : w.cell? ⟨g, 2, none⟩ = some (.int .i64 0) := s2
    clear s2
    rw [if_pos rfl]
    go_enter Try.func22, Try.ntmps22
    go_wp2_with fail
    refine HC.out.mono ?_
    rintro r w1 ⟨rfl, rfl⟩
    go_wp2_with fail
    go_ret
    exact ⟨rfl, HB.out.setCell (Nat.le_refl g) _, H'.out.put0 2⟩
  · have hz' : 0 < c := by omega
    rw [if_neg hz]
    clear hz
    go_enter Try.func22, Try.ntmps22
    go_wp2_with fail
    refine HC.out.mono ?_
    rintro r w1 ⟨rfl, rfl⟩
    go_wp2_with fail
    go_ret
    exact ⟨rfl, HB.out.setCell (Nat.le_refl g) _, H'.out.put0 2⟩
end Go.Proofs.Ytakbahhoiggmhaa.nn
