/- The walk of the laws' goes: a text that may be gone on with is gone on with by one of nine ends. -/
import Derived.Test.YtakbahhoiggmhaaCheck
import Derived.Laws.BytesArg
namespace Go.Proofs.Ytakbahhoiggmhaa.nn
open Go.RowKit

/-- the nine ends -/
def ends : Nat → ByteArray
  | 0 => ⟨#[]⟩ | 1 => ⟨#[128]⟩ | 2 => ⟨#[144]⟩ | 3 => ⟨#[160]⟩ | 4 => ⟨#[128, 128]⟩ | 5 => ⟨#[144, 128]⟩ | 6 => ⟨#[160, 128]⟩ | 7 => ⟨#[128, 128, 128]⟩ | _ => ⟨#[144, 128, 128]⟩
def endRow : Array Value := #[.string ⟨#[]⟩, .string ⟨#[128]⟩, .string ⟨#[144]⟩, .string ⟨#[160]⟩, .string ⟨#[128, 128]⟩, .string ⟨#[144, 128]⟩, .string ⟨#[160, 128]⟩, .string ⟨#[128, 128, 128]⟩, .string ⟨#[144, 128, 128]⟩]
theorem endRow_at {i : Nat} (h : i < 9) : endRow[i]? = some (.string (ends i)) := by
  match i, h with
  | 0, _ | 1, _ | 2, _ | 3, _ | 4, _ | 5, _ | 6, _ | 7, _ | 8, _ => rfl
theorem ends_le (i : Nat) : (ends i).size ≤ 3 := by
  unfold ends
  split <;> decide

theorem bt_app_right {a b : ByteArray} {i : Nat} (h : i < b.size) : bt (a ++ b) (a.size + i) = bt b i := by
  have h2 : a.size + i < (a ++ b).size := by rw [ByteArray.size_append]; omega
  rw [bt_at h, bt_at h2, ByteArray.getElem_append_right (by omega)]
  simp
theorem bt_app_left {a b : ByteArray} {i : Nat} (h : i < a.size) : bt (a ++ b) i = bt a i := by
  have h2 : i < (a ++ b).size := by rw [ByteArray.size_append]; omega
  rw [bt_at h, bt_at h2, ByteArray.getElem_append_left h]

/-- every state that is met is ended by one of them -/
theorem some_end (t : Tl) (h : Gd t) : ∃ j, j < 9 ∧ al (bt (ends j)) t (ends j).size = true ∧ (tk (bt (ends j)) t (ends j).size).c = 0 := by
  obtain ⟨c, lo, hi⟩ := t
  unfold Gd at h
  dsimp only at h
  rcases h with rfl | ⟨rfl, rfl, rfl⟩ | ⟨rfl, ⟨rfl, rfl⟩ | ⟨rfl, rfl⟩ | ⟨rfl, rfl⟩⟩ | ⟨rfl, ⟨rfl, rfl⟩ | ⟨rfl, rfl⟩ | ⟨rfl, rfl⟩⟩
  · exact ⟨0, by decide, rfl, rfl⟩
  · exact ⟨1, by decide, by decide, by decide⟩
  · exact ⟨6, by decide, by decide, by decide⟩
  · exact ⟨4, by decide, by decide, by decide⟩
  · exact ⟨4, by decide, by decide, by decide⟩
  · exact ⟨8, by decide, by decide, by decide⟩
  · exact ⟨7, by decide, by decide, by decide⟩
  · exact ⟨7, by decide, by decide, by decide⟩
theorem goes_end (s : ByteArray) (h : al (bt s) t0 s.size = true) : ∃ j, j < 9 ∧ ckE (bt (s ++ ends j)) (s ++ ends j).size = 0 := by
  obtain ⟨j, hj, h1, h2⟩ := some_end (tk (bt s) t0 s.size) (gd_go gd_zero _)
  refine ⟨j, hj, ?_⟩
  have el : ∀ i, i < s.size → bt (s ++ ends j) i = bt s i := fun i hi => bt_app_left hi
  have er : ∀ i, i < (ends j).size → (fun i => bt (s ++ ends j) (s.size + i)) i = bt (ends j) i := fun i hi => bt_app_right hi
  have ha : al (bt (s ++ ends j)) t0 s.size = true := by rw [al_congr el]; exact h
  rw [ByteArray.size_append]
  unfold ckE
  rw [al_add ha, tk_add ha, al_congr er, tk_congr er, tk_congr el, h1, h2]
  rfl

set_option maxRecDepth 100000 in
set_option maxHeartbeats 1000000 in
theorem goes_any (s : ByteArray) (w : World) (hs : s.size ≤ 140737488351232) (h : al (bt s) t0 s.size = true) :
    Calls Try.prog 23 #[.string s] w fun r w' => r = .returned (.bool true) ∧ Below w.heap.size w w' := by
  obtain ⟨j, hj, hend⟩ := goes_end s h
  have HE := Lib.hid hend
  clear h hend
  go_enter Try.func23, Try.ntmps23
  go_wp2
  go_loopw [4] (fun s4 wr => ∃ i : Nat, i ≤ j ∧ s4 = .int .i64 (i : Int) ∧ Hid (Below w.heap.size w wr) ∧ w.heap.size < wr.heap.size ∧ Hid (wr.heap[w.heap.size]? = some (.cells endRow 9 (0, 0)))) (fun s4 _ => j - (intOf s4).toNat)
  case atStart => exact ⟨0, by omega, rfl, Lib.hid ((Below.refl _ _).alloc (Nat.le_refl _) _), by simp, Lib.hid (heap_alloc_last _ _)⟩
  case round =>
    obtain ⟨i, hi, rfl, hb, hlt, hrow⟩ := hrel
    have hx : wr.cell? ⟨w.heap.size, i, none⟩ = some (.string (ends i)) := (cell_of_row _ _ i _ _ _ hrow.out).trans (endRow_at (by omega))
    have hle := ends_le i
    have hC := check_any (s ++ ends i) wr (by rw [ByteArray.size_append]; unfold maxLen; omega)
    obtain ⟨a, ha⟩ : ∃ a, ckA (bt (s ++ ends i)) (s ++ ends i).size = a := ⟨_, rfl⟩
    obtain ⟨e, he⟩ : ∃ e, ckE (bt (s ++ ends i)) (s ++ ends i).size = e := ⟨_, rfl⟩
    rw [ha, he] at hC
    have HC := Lib.hid hC
    by_cases hz : e = 0
    · subst hz
      clear hC ha he
      go_wp2_with fail
      refine HC.out.mono ?_
      rintro r w1 ⟨rfl, hb1⟩
      go_wp2_with fail
      go_ret
      exact ⟨rfl, hb.out.trans (hb1.mono (Nat.le_of_lt hlt))⟩
    · have hij : i < j := by
        by_cases e1 : i = j
        · subst e1
          have := HE.out
          rw [he] at this
          exact absurd this hz
        · omega
      have q : ((e : Int) == 0) = false := by simp; omega
      clear hC ha he hz
      go_wp2_with fail
      refine HC.out.mono ?_
      rintro r w1 ⟨rfl, hb1⟩
      have hb2 := Lib.hid (hb.out.trans (hb1.mono (Nat.le_of_lt hlt)))
      have hlt2 : w.heap.size < w1.heap.size := Nat.lt_of_lt_of_le hlt hb1.size
      have hrow2 := Lib.hid ((hb1.block _ hlt).trans hrow.out)
      go_wp2_with fail
      go_roundw
      case rel => exact ⟨i + 1, by omega, by go_num, hb2, hlt2, hrow2⟩
      case measure => simp [intOf]; omega
end Go.Proofs.Ytakbahhoiggmhaa.nn
