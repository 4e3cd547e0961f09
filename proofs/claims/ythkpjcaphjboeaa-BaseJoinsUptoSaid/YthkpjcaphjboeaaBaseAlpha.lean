/- The walks of base's alphabetOf, letters, fill, lacking. -/
import Derived.Test.YthkpjcaphjboeaaRefLen
import Derived.StillTailTactics
import Derived.Deep.RegionHeld3
import Derived.IntWalk
import Derived.OneCell
namespace Go.Proofs.Ythkpjcaphjboeaa.nn
open Go.RowKit

/-- an alphabet's value -/
def av (L : ByteArray) (W M : Nat) : Value := .agg #[.string L, .int .i64 (W : Int), .int .i64 (M : Int)]
/-- an alphabet in a variable -/
def Av (a : Nat) (L : ByteArray) (W M : Nat) (w : World) : Prop := w.heap[a]? = some (.cells #[.string L, .int .i64 (W : Int), .int .i64 (M : Int)] 34 (0, 0))
theorem Av.c0 {a : Nat} {L : ByteArray} {W M : Nat} {w : World} (h : Av a L W M w) : w.cell? ⟨a, 0, none⟩ = some (.string L) := cell_of_row _ _ 0 _ _ _ h
theorem Av.c1 {a : Nat} {L : ByteArray} {W M : Nat} {w : World} (h : Av a L W M w) : w.cell? ⟨a, 1, none⟩ = some (.int .i64 (W : Int)) := cell_of_row _ _ 1 _ _ _ h
theorem Av.c2 {a : Nat} {L : ByteArray} {W M : Nat} {w : World} (h : Av a L W M w) : w.cell? ⟨a, 2, none⟩ = some (.int .i64 (M : Int)) := cell_of_row _ _ 2 _ _ _ h
theorem Av.keep {a : Nat} {L : ByteArray} {W M : Nat} {w w' : World} (h : Av a L W M w) (hb : Below w.heap.size w w') : Av a L W M w' := (hb.block a (lt_of_block h)).trans h
def WM (W M : Nat) : Prop := W = 4 ∧ M = 1 ∨ W = 6 ∧ M = 4 ∨ W = 6 ∧ M = 1 ∨ W = 5 ∧ M = 8
def nlw (W n : Nat) : Nat := (8 * n + W - 1) / W
def flw (W M n : Nat) : Nat := up M (nlw W n) - nlw W n

set_option maxRecDepth 100000 in
set_option maxHeartbeats 1000000 in
theorem blets_any (L : ByteArray) (W M n : Nat) (w : World) (hWM : WM W M) (hn : n ≤ 16777216) :
    Calls Try.prog 13 #[av L W M, .int .i64 (n : Int)] w fun e w' => e = .returned (.int .i64 (nlw W n : Int)) ∧ Below w.heap.size w w' := by
  obtain ⟨m, hm⟩ : ∃ m, nlw W n = m := ⟨_, rfl⟩
  rw [hm]
  unfold nlw at hm
  unfold av
  rcases hWM with ⟨rfl, rfl⟩ | ⟨rfl, rfl⟩ | ⟨rfl, rfl⟩ | ⟨rfl, rfl⟩
  all_goals
    go_enter Try.func13, Try.ntmps13
    go_wp2_with fail
    go_ret
    refine ⟨ret_i (by omega), (Below.refl _ _).alloc (Nat.le_refl _) _⟩
theorem nlw_le {W n : Nat} (h : 4 ≤ W) (hn : n ≤ 16777216) : nlw W n ≤ 33554433 := by
  unfold nlw
  by_cases hW : W ≤ 1000000
  · have h2 : (8 * n + W - 1) / W ≤ (8 * n) / W + 1 := by
      have h3 : 8 * n + W - 1 ≤ 8 * n + W := by omega
      have h4 := Nat.div_le_div_right (c := W) h3
      rw [Nat.add_div_right _ (by omega)] at h4
      exact h4
    have h5 : 8 * n / W ≤ 8 * n / 4 := Nat.div_le_div_left h (by decide)
    omega
  · have : (8 * n + W - 1) / W < 136 := (Nat.div_lt_iff_lt_mul (by omega)).2 (by omega)
    omega
theorem WM.four {W M : Nat} (h : WM W M) : 4 ≤ W ∧ W ≤ 6 ∧ 1 ≤ M ∧ M ≤ 8 := by unfold WM at h; omega
theorem fill_num {W M m : Nat} (h : WM W M) : (M - m % M) % M = up M m - m := by
  unfold up
  rcases h with ⟨_, rfl⟩ | ⟨_, rfl⟩ | ⟨_, rfl⟩ | ⟨_, rfl⟩ <;> omega
theorem fill_six {W M n : Nat} (h : WM W M) : flw W M n ≤ 6 := by
  unfold flw up nlw
  rcases h with ⟨rfl, rfl⟩ | ⟨rfl, rfl⟩ | ⟨rfl, rfl⟩ | ⟨rfl, rfl⟩ <;> omega

set_option maxRecDepth 100000 in
set_option maxHeartbeats 1000000 in
theorem fill_any (L : ByteArray) (W M n : Nat) (w : World) (hWM : WM W M) (hn : n ≤ 16777216) :
    Calls Try.prog 14 #[av L W M, .int .i64 (n : Int)] w fun e w' => e = .returned (.int .i64 (flw W M n : Int)) ∧ Below w.heap.size w w' := by
  obtain ⟨m, hm⟩ : ∃ m, nlw W n = m := ⟨_, rfl⟩
  have hml : m ≤ 33554433 := hm ▸ nlw_le hWM.four.1 hn
  obtain ⟨u, hu⟩ : ∃ u, flw W M n = u := ⟨_, rfl⟩
  rw [hu]
  have hun := fill_num (m := m) hWM
  unfold flw at hu
  rw [hm] at hu
  rw [hu] at hun
  obtain ⟨r, hr⟩ : ∃ r, m % M = r := ⟨_, rfl⟩
  rw [hr] at hun
  obtain ⟨t, ht⟩ : ∃ t, M - r = t := ⟨_, rfl⟩
  rw [ht] at hun
  have h4 := hWM.four
  have hrM : r < M := hr ▸ Nat.mod_lt _ (by omega)
  have f1 : ((m : Int)).tmod (M : Int) = (r : Int) := by rw [← hr]; rw [Int.tmod_eq_emod_of_nonneg (by omega)]; exact (Int.natCast_emod m M).symm
  have f2 : IntKind.i64.wrap ((M : Int) - (r : Int)) = (t : Int) := by rw [IntWalk.i64_in _ (by omega)]; omega
  have f3 : ((t : Int)).tmod (M : Int) = (u : Int) := by rw [← hun]; rw [Int.tmod_eq_emod_of_nonneg (by omega)]; exact (Int.natCast_emod t M).symm
  have f4 : (M : Int) ≠ 0 := by omega
  have f5 : ((M : Int) == 0) = false := by simp; omega
  have f6 : M ≠ 0 := by omega
  have HX : Hid (∀ W', (Av w.heap.size L W M W' ∧ Below w.heap.size w W') → (W'.cell? ⟨w.heap.size, 0, none⟩ = some (.string L) ∧ W'.cell? ⟨w.heap.size, 1, none⟩ = some (.int .i64 (W : Int)) ∧ W'.cell? ⟨w.heap.size, 2, none⟩ = some (.int .i64 (M : Int)) ∧ (Av w.heap.size L W M W' ∧ Below w.heap.size w W'))) :=
    Lib.hid fun W' h => ⟨h.1.c0, h.1.c1, h.1.c2, h⟩
  have hl : ∀ w, Calls Try.prog 13 #[av L W M, .int .i64 (n : Int)] w fun e w' => e = .returned (.int .i64 (m : Int)) ∧ Below w.heap.size w w' := fun w => hm ▸ blets_any L W M n w hWM hn
  have HL : Hid (∀ W', (Av w.heap.size L W M W' ∧ Below w.heap.size w W') → Calls Try.prog 13 #[.agg #[.string L, .int .i64 (W : Int), .int .i64 (M : Int)], .int .i64 (n : Int)] W' fun e w' => e = .returned (.int .i64 (m : Int)) ∧ (Av w.heap.size L W M w' ∧ Below w.heap.size w w')) :=
    Lib.hid fun W' h => (hl W').mono fun e w' ⟨h1, h2⟩ => ⟨h1, h.1.keep h2, h.2.trans (h2.mono h.2.size)⟩
  have K0 : Av w.heap.size L W M (w.alloc (.cells #[.string L, .int .i64 (W : Int), .int .i64 (M : Int)] 34)).drew ∧ Below w.heap.size w (w.alloc (.cells #[.string L, .int .i64 (W : Int), .int .i64 (M : Int)] 34)).drew :=
    ⟨heap_alloc_new _ _, (Below.drew ((Below.refl _ _).alloc (Nat.le_refl _) _))⟩
  have K1 := HX.out _ K0
  clear hl hm hr ht hun hu hrM h4 hWM hml
  unfold av
  go_enter Try.func14, Try.ntmps14
  go_wp2_with fail
  go_region_held3 (fun W' => W'.cell? ⟨w.heap.size, 0, none⟩ = some (.string L) ∧ W'.cell? ⟨w.heap.size, 1, none⟩ = some (.int .i64 (W : Int)) ∧ W'.cell? ⟨w.heap.size, 2, none⟩ = some (.int .i64 (M : Int)) ∧ (Av w.heap.size L W M W' ∧ Below w.heap.size w W'))
    (first | exact HX.out _ ‹_› | exact HX.out _ (And.right (And.right (And.right ‹_›))))
    (first | (go_at_call 13; refine (HL.out _ ?_).mono ?_; (first | assumption | exact And.right (And.right (And.right ‹_›))); rintro e w' ⟨rfl, hk5⟩))
  all_goals
    go_wp2_with fail
    go_ret
    exact ⟨rfl, hk5.2⟩
set_option maxRecDepth 100000 in
set_option maxHeartbeats 1000000 in
theorem lacking_any (L : ByteArray) (W M n : Nat) (w : World) (hWM : WM W M) (hn : n ≤ 16777216) :
    Calls Try.prog 18 #[av L W M, .int .i64 (n : Int)] w fun e w' => e = .returned (.int .i64 ((nlw W n * W - 8 * n : Nat) : Int)) ∧ Below w.heap.size w w' := by
  obtain ⟨m, hm⟩ : ∃ m, nlw W n = m := ⟨_, rfl⟩
  have hml : m ≤ 33554433 := hm ▸ nlw_le hWM.four.1 hn
  have hge : 8 * n ≤ m * W ∧ m * W ≤ 8 * n + 5 := by
    rw [← hm]; unfold nlw
    rcases hWM with ⟨rfl, rfl⟩ | ⟨rfl, rfl⟩ | ⟨rfl, rfl⟩ | ⟨rfl, rfl⟩ <;> omega
  obtain ⟨p, hp⟩ : ∃ p, m * W = p := ⟨_, rfl⟩
  obtain ⟨u, hu⟩ : ∃ u, p - 8 * n = u := ⟨_, rfl⟩
  rw [hm, hp, hu]
  rw [hp] at hge
  have f1 : IntKind.i64.wrap ((m : Int) * (W : Int)) = (p : Int) := by rw [← hp, ← Int.natCast_mul]; exact IntWalk.i64_in _ (by rw [hp]; omega)
  have f2 : IntKind.i64.wrap ((n : Int) * 8) = ((8 * n : Nat) : Int) := by rw [IntWalk.i64_in _ (by omega)]; omega
  obtain ⟨q, hq⟩ : ∃ q, 8 * n = q := ⟨_, rfl⟩
  rw [hq] at f2 hge hu
  have f3 : IntKind.i64.wrap ((p : Int) - (q : Int)) = (u : Int) := by rw [IntWalk.i64_in _ (by omega)]; omega
  have HX : Hid (∀ W', (Av w.heap.size L W M W' ∧ Below w.heap.size w W') → (W'.cell? ⟨w.heap.size, 0, none⟩ = some (.string L) ∧ W'.cell? ⟨w.heap.size, 1, none⟩ = some (.int .i64 (W : Int)) ∧ W'.cell? ⟨w.heap.size, 2, none⟩ = some (.int .i64 (M : Int)) ∧ (Av w.heap.size L W M W' ∧ Below w.heap.size w W'))) :=
    Lib.hid fun W' h => ⟨h.1.c0, h.1.c1, h.1.c2, h⟩
  have hl : ∀ w, Calls Try.prog 13 #[av L W M, .int .i64 (n : Int)] w fun e w' => e = .returned (.int .i64 (m : Int)) ∧ Below w.heap.size w w' := fun w => hm ▸ blets_any L W M n w hWM hn
  have HL : Hid (∀ W', (Av w.heap.size L W M W' ∧ Below w.heap.size w W') → Calls Try.prog 13 #[.agg #[.string L, .int .i64 (W : Int), .int .i64 (M : Int)], .int .i64 (n : Int)] W' fun e w' => e = .returned (.int .i64 (m : Int)) ∧ (Av w.heap.size L W M w' ∧ Below w.heap.size w w')) :=
    Lib.hid fun W' h => (hl W').mono fun e w' ⟨h1, h2⟩ => ⟨h1, h.1.keep h2, h.2.trans (h2.mono h.2.size)⟩
  have K0 : Av w.heap.size L W M (w.alloc (.cells #[.string L, .int .i64 (W : Int), .int .i64 (M : Int)] 34)).drew ∧ Below w.heap.size w (w.alloc (.cells #[.string L, .int .i64 (W : Int), .int .i64 (M : Int)] 34)).drew :=
    ⟨heap_alloc_new _ _, (Below.drew ((Below.refl _ _).alloc (Nat.le_refl _) _))⟩
  have K1 := HX.out _ K0
  clear hl hm hp hq hu hge hWM hml
  unfold av
  go_enter Try.func18, Try.ntmps18
  go_wp2_with fail
  go_region_held3 (fun W' => W'.cell? ⟨w.heap.size, 0, none⟩ = some (.string L) ∧ W'.cell? ⟨w.heap.size, 1, none⟩ = some (.int .i64 (W : Int)) ∧ W'.cell? ⟨w.heap.size, 2, none⟩ = some (.int .i64 (M : Int)) ∧ (Av w.heap.size L W M W' ∧ Below w.heap.size w W'))
    (first | exact HX.out _ ‹_› | exact HX.out _ (And.right (And.right (And.right ‹_›))))
    (first | (go_at_call 13; refine (HL.out _ ?_).mono ?_; (first | assumption | exact And.right (And.right (And.right ‹_›))); rintro e w' ⟨rfl, hk5⟩))
  all_goals
    go_wp2_with fail
    go_ret
    exact ⟨rfl, hk5.2⟩
end Go.Proofs.Ythkpjcaphjboeaa.nn
