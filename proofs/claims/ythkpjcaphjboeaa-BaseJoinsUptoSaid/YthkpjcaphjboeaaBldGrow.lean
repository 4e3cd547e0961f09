/- The walks of the Builder's Grow (ahead of the first byte) and String. -/
import Derived.Test.YthkpjcaphjboeaaBld
import Derived.BigRegion
namespace Go.Proofs.Ythkpjcaphjboeaa.nn
open Go.RowKit

/-- the builder holds no byte: fresh, or with room for n bytes -/
def Gs (B b n : Nat) (w : World) : Prop := B ≤ b ∧ ∃ p A c, w.heap[b]? = some (.cells #[p, .slice A 0 c] 39 (0, 0)) ∧ (p = .pointer none ∧ A = none ∧ c = 0 ∨ p = .pointer (some ⟨b, 0, none⟩) ∧ n ≤ c) ∧ w.ownsRow B 5 1 (.slice A 0 c) 0 [] ∧ (Value.slice A 0 c).ownBlock ≠ some b
theorem below_dn {B : Nat} {w w' : World} (h : Below B w w') (j : Nat) : Below B w (w'.drewN j) := by
  induction j with
  | zero => exact h
  | succ j ih => exact ih.drew
theorem Gs.bld {B b n : Nat} {w : World} (h : Gs B b n w) : Bld B b [] w := by
  obtain ⟨hB, p, A, c, hb, hp, hown, hne⟩ := h
  rcases hp with ⟨rfl, rfl, rfl⟩ | ⟨rfl, _⟩
  · exact .inl ⟨hB, _, hb, hown, hne⟩
  · exact .inr ⟨hB, _, hb, hown, hne⟩
theorem Gs.keep {B b n : Nat} {w w' : World} (h : Gs B b n w) (hb : Below w.heap.size w w') : Gs B b n w' := by
  obtain ⟨hB, p, A, c, hbk, hp, hown, hne⟩ := h
  exact ⟨hB, p, A, c, (hb.block b (lt_of_block hbk)).trans hbk, hp, own_below hown hb, hne⟩
theorem Gs.drew {B b n : Nat} {w : World} (h : Gs B b n w) : Gs B b n w.drew := h
theorem Gs.fresh {B b n : Nat} {w : World} (hB : B ≤ b) (hb : w.heap[b]? = some (.cells #[.pointer none, .slice none 0 0] 39 (0, 0))) : Gs B b n w := ⟨hB, _, _, _, hb, .inl ⟨rfl, rfl, rfl⟩, World.ownsRow_nil _ _ _ _, by simp [Value.ownBlock]⟩

set_option maxRecDepth 100000 in
set_option maxHeartbeats 2000000 in
theorem grow_fresh (B b n : Nat) (w : World) (hB : B ≤ b) (hbk : w.heap[b]? = some (.cells #[.pointer (some ⟨b, 0, none⟩), .slice none 0 0] 39 (0, 0))) (hBw : B ≤ w.heap.size) (hn : n ≤ 140737488355328) :
    Calls Try.prog 24 #[.pointer (some ⟨b, 0, none⟩), .int .i64 n] w fun e w' => e = .returned (.tuple #[]) ∧ Gs B b n w' ∧ Below B w w' ∧ Kp b w w' := by
  obtain ⟨i0, hi0, hz0, hz1, hz2⟩ := info_parts infoByte
  obtain ⟨cs, hrun, hle, hmax⟩ := Lib.run_makeNoZero (P := Try.prog) w.drew #[3] 22 5 Try.underlying22 n (by omega)
  have hw : IntKind.i64.wrap (IntKind.i64.wrap 0 + (n : Int)) = n := by
    rw [IntKind.wrap_i64, IntKind.wrap_i64]
    omega
  have hcall : (callFunc 27 #[.int .i64 (IntKind.i64.wrap (IntKind.i64.wrap 0 + (n : Int)))]).run Try.prog w.drew = .ok (.value (.slice (some ⟨w.drew.heap.size, 0, none⟩) n cs.size)) (w.drew.drew.drew.alloc (.cells cs 5)) := by
    rw [hw, run_callFunc_extern Try.func27 (by kernel_rfl) (by kernel_rfl) (by kernel_rfl) (e := Extern.BytealgMakeNoZero.makeNoZero #[3] #[22]) (by kernel_rfl), hrun]
    rfl
  have hlt : b < w.heap.size := lt_of_block hbk
  have c1 : w.drew.cell? ⟨b, 1, none⟩ = some (.slice none 0 0) := cell_of_row _ _ 1 _ _ _ hbk
  have hbk2 : (w.alloc (.cells cs 5)).heap[b]? = some (.cells #[.pointer (some ⟨b, 0, none⟩), .slice none 0 0] 39 (0, 0)) := (Lib.alloc_old w _ b hlt).trans hbk
  have c2 : (w.alloc (.cells cs 5)).cell? ⟨b, 1, none⟩ = some (.slice none 0 0) := cell_of_row _ _ 1 _ _ _ hbk2
  have f2 : (w.alloc (.cells cs 5)).frozen? ⟨b, 1, none⟩ = false := by simp [World.frozen?, hbk2]
  have hcopy : ∀ W : World, (Builtin.copy_ #[22, 22] 3 #[.slice (some ⟨w.heap.size, 0, none⟩) 0 cs.size, .slice none 0 0]).run Try.prog W = .ok (goInt 0) W :=
    fun W => run_copy_none W 22 22 3 5 _ _ 0 cs.size 0 0 Try.underlying22 (show (Try.prog.info? 5).map (·.size) = some 1 by kernel_rfl) rfl
  have hm : cs.size ≤ maxLen := hmax (by unfold maxLen; omega)
  have HF : Hid (Gs B b n ((w.alloc (.cells cs 5)).setCell ⟨b, 1, none⟩ (.slice (some ⟨w.heap.size, 0, none⟩) 0 cs.size))) := Lib.hid (by
    have hown : (w.alloc (.cells cs 5)).ownsRow B 5 1 (.slice (some ⟨w.heap.size, 0, none⟩) 0 cs.size) ([] : List Value).length [] :=
      ⟨rfl, .inr ⟨w.heap.size, cs.size, cs, rfl, hBw, heap_alloc_new w _, Nat.zero_le _, hm, by simp, by simp⟩⟩
    obtain ⟨_, v, h1, h2, h3⟩ := Lib.BuilderAt.put (p := .pointer (some ⟨b, 0, none⟩)) hB hbk2 hown (by decide)
    have hv : v = .slice (some ⟨w.heap.size, 0, none⟩) 0 cs.size := by
      have h4 : ((w.alloc (.cells cs 5)).setCell ⟨b, 1, none⟩ (.slice (some ⟨w.heap.size, 0, none⟩) 0 cs.size)).heap[b]? = some (.cells #[.pointer (some ⟨b, 0, none⟩), .slice (some ⟨w.heap.size, 0, none⟩) 0 cs.size] 39 (0, 0)) := by
        simp [World.setCell, Array.getElem?_modify, hbk2]
      rw [h4] at h1
      simp at h1
      exact h1.symm
    subst hv
    exact ⟨hB, _, _, _, h1, .inr ⟨rfl, hle⟩, h2, h3⟩)
  have HB : Hid (Below B w ((w.alloc (.cells cs 5)).setCell ⟨b, 1, none⟩ (.slice (some ⟨w.heap.size, 0, none⟩) 0 cs.size))) := Lib.hid (((Below.refl B w).alloc hBw _).setCell (p := ⟨b, 1, none⟩) hB _)
  have HK : Hid (Kp b w ((w.alloc (.cells cs 5)).setCell ⟨b, 1, none⟩ (.slice (some ⟨w.heap.size, 0, none⟩) 0 cs.size))) := Lib.hid (((Kp.refl b w).alloc _).set 1 _)
  clear hw hbk2 hm hmax hbk hlt
  go_enter Try.func24, Try.ntmps24
  go_wp2
  go_region
  all_goals (go_wp2; go_end0; exact ⟨rfl, HF.out, HB.out.drew.drew.drew, HK.out⟩)
end Go.Proofs.Ythkpjcaphjboeaa.nn
