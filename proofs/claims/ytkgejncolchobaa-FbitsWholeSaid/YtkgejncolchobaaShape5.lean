/- The real fbits: the table of shapes, the widest, the shape of a width. -/
import Derived.Test.YtkgejncolchobaaShape4
import Derived.Great.Walk
import Derived.KernelRfl
import Derived.Deep.WholeRow
import Derived.Deep.CutBlock
namespace Go.Proofs.Ytkgejncolchobaa.nn
open Go.RowKit Go.Great

def shT : Array Value := #[.int .i64 16, .int .i64 5, .int .i64 10, .int .i64 32, .int .i64 8, .int .i64 23, .int .i64 64, .int .i64 11, .int .i64 52]
set_option maxRecDepth 100000 in
set_option maxHeartbeats 1000000 in
theorem shapes_any (w : World) : Calls Try.prog 38 #[] w fun e w' => e = .returned (.agg shT) ∧ Below w.heap.size w w' := by
  have HB := Lib.hid (fun o => (Below.refl w.heap.size w).alloc (Nat.le_refl _) o)
  go_enter Try.func38, Try.ntmps38
  go_wp2_with fail
  exact bodyPost_ret (v := .agg shT) (by simp [results, Try.results38, go_sem, shT]) rfl ⟨rfl, HB.out _⟩
theorem hsz1 (w : World) (o : Obj) : (w.alloc o).heap.size = w.heap.size + 1 := by simp
/-- a result of a struct of three numbers: its block, of a world that calls have changed -/
structure Rs3 (w : World) (T : TypeId) (W : World) : Prop where
  blk : W.heap[w.heap.size]? = some (.cells #[.int .i64 0, .int .i64 0, .int .i64 0] T (0, 0))
  b : Below w.heap.size w W
  z : w.heap.size < W.heap.size
theorem Rs3.new (w : World) (T : TypeId) : Rs3 w T (w.alloc (.cells #[.int .i64 0, .int .i64 0, .int .i64 0] T)) :=
  ⟨heap_alloc_last _ _, (Below.refl _ _).alloc (Nat.le_refl _) _, by rw [hsz1]; omega⟩
theorem Rs3.on {w W W' : World} {T : TypeId} (h : Rs3 w T W) (hB : Below W.heap.size W W') : Rs3 w T W' :=
  ⟨(hB.block _ h.z).trans h.blk, h.b.trans (hB.mono (Nat.le_of_lt h.z)), Nat.lt_of_lt_of_le h.z hB.size⟩
theorem Rs3.all {w W : World} {T : TypeId} (h : Rs3 w T W) : W.cell? ⟨w.heap.size, 0, none⟩ = some (.int .i64 0) ∧ W.cell? ⟨w.heap.size, 1, none⟩ = some (.int .i64 0) ∧ W.cell? ⟨w.heap.size, 2, none⟩ = some (.int .i64 0) ∧ (∀ i, W.frozen? ⟨w.heap.size, i, none⟩ = false) :=
  ⟨cell_of_row _ _ 0 _ _ _ h.blk, cell_of_row _ _ 1 _ _ _ h.blk, cell_of_row _ _ 2 _ _ _ h.blk, fun i => by have := h.blk; simp [World.frozen?, this]⟩
set_option maxRecDepth 100000 in
set_option maxHeartbeats 1000000 in
theorem widest_any (w : World) : Calls Try.prog 32 #[] w fun e w' => e = .returned (sv 64) ∧ Below w.heap.size w w' := by
  have HB := Lib.hid (Rs3.new w 58)
  rw [show sv 64 = .agg #[.int .i64 64, .int .i64 11, .int .i64 52] from rfl]
  go_enter Try.func32, Try.ntmps32
  go_wp2_with fail
  refine (shapes_any _).mono ?_
  rintro e w1 ⟨rfl, hb⟩
  have H1 := Lib.hid (HB.out.on hb)
  obtain ⟨c0, c1, c2, f0⟩ := H1.out.all
  have hz := H1.out.z
  clear hb
  unfold shT
  go_wp2_with fail
  have hne : ¬ w.heap.size = w1.heap.size := by omega
  have hblk := H1.out.blk
  refine bodyPost_ret (v := .agg #[.int .i64 64, .int .i64 11, .int .i64 52]) (by simp [results, Try.results32, go_sem, World.cell?, World.setCell, World.alloc, Array.getElem?_push, Array.getElem?_modify, hblk, hne]) rfl ⟨rfl, ?_⟩
  exact (((H1.out.b.setCell (Nat.le_refl _) _).setCell (Nat.le_refl _) _).setCell (Nat.le_refl _) _).alloc (by simp [World.setCell]; omega) _

/-- row j of the table -/
def tW : Nat → Nat | 0 => 16 | 1 => 32 | _ => 64
theorem ix3 (j : Nat) (h : j < 3) (w : World) : (Instr.index 70 (.agg shT) (.int .i64 (j : Int))).run Try.prog w = .ok (.agg #[.int .i64 (tW j : Int), .int .i64 (xb (tW j) : Int), .int .i64 (fb (tW j) : Int)]) w := by
  match j, h with
  | 0, _ => exact (by kernel_rfl : (Instr.index 70 (.agg shT) (.int .i64 0)).run Try.prog w = .ok (.agg #[.int .i64 16, .int .i64 5, .int .i64 10]) w)
  | 1, _ => exact (by kernel_rfl : (Instr.index 70 (.agg shT) (.int .i64 1)).run Try.prog w = .ok (.agg #[.int .i64 32, .int .i64 8, .int .i64 23]) w)
  | 2, _ => exact (by kernel_rfl : (Instr.index 70 (.agg shT) (.int .i64 2)).run Try.prog w = .ok (.agg #[.int .i64 64, .int .i64 11, .int .i64 52]) w)
def soV (k : Int) : Value := if wOk k then sv k.toNat else .agg #[.int .i64 0, .int .i64 0, .int .i64 0]
theorem tW_ok (j : Nat) : wOk (tW j) := by
  unfold tW wOk
  split <;> simp
theorem tW_all {k : Int} (h : ∀ i, i < 3 → (tW i : Int) ≠ k) : ¬ wOk k := by
  have h0 := h 0 (by omega)
  have h1 := h 1 (by omega)
  have h2 := h 2 (by omega)
  simp only [tW] at h0 h1 h2
  unfold wOk
  omega
set_option maxRecDepth 100000 in
set_option maxHeartbeats 1000000 in
theorem shapeOf_any (k : Int) (w : World) : Calls Try.prog 39 #[.int .i64 k] w fun e w' => e = .returned (.tuple #[soV k, .bool (decide (wOk k))]) ∧ Below w.heap.size w w' := by
  obtain ⟨V, hV⟩ : ∃ V, soV k = V := ⟨_, rfl⟩
  obtain ⟨O, hO⟩ : ∃ O, decide (wOk k) = O := ⟨_, rfl⟩
  rw [hV, hO]
  have HV := Lib.hid (And.intro hV hO)
  clear hV hO
  have HB := Lib.hid (Rs3.new w 58)
  go_enter Try.func39, Try.ntmps39
  go_wp2_with fail
  refine (shapes_any _).mono ?_
  rintro e w1 ⟨rfl, hb⟩
  have H1 := Lib.hid (HB.out.on hb)
  clear hb
  go_wp2_with fail
  go_loopw [7] (fun s7 wr => ∃ j : Nat, j ≤ 3 ∧ s7 = .int .i64 (j : Int) ∧ Hid (∀ i, i < j → (tW i : Int) ≠ k) ∧ Hid (Rs3 w 58 wr)) (fun s7 _ => (3 - intOf s7).toNat)
  case atStart => exact ⟨0, by omega, rfl, Lib.hid (fun i hi => absurd hi (by omega)), H1⟩
  case round =>
    obtain ⟨j, hj, rfl, hno, hR⟩ := hrel
    obtain ⟨c0, c1, c2, f0⟩ := hR.out.all
    have hz := hR.out.z
    have hlt : ∀ o, w.heap.size < (wr.alloc o).heap.size := fun o => by rw [hsz1]; omega
    by_cases hj3 : j < 3
    · have hix := ix3 j hj3
      have HW := Lib.hid (And.intro (tW_ok j) (show (tW j : Int).toNat = tW j from Int.toNat_natCast _))
      obtain ⟨K, hK⟩ : ∃ K, tW j = K := ⟨_, rfl⟩
      rw [hK] at hix HW
      have HKJ := Lib.hid hK
      clear hK
      by_cases he : (K : Int) = k
      · have q1 : ((K : Int) == k) = true := by simp [he]
        have HE := Lib.hid he
        clear he
        go_wp2_with fail
        have hne : ¬ w.heap.size = wr.heap.size := by omega
        have hblk := hR.out.blk
        refine bodyPost_ret (v := .tuple #[.agg #[.int .i64 (K : Int), .int .i64 (xb K : Int), .int .i64 (fb K : Int)], .bool true]) (by simp [results, Try.results39, go_sem, World.cell?, World.setCell, World.alloc, Array.getElem?_push, Array.getElem?_modify, hblk, hne]) rfl ⟨?_, ?_⟩
        · rw [← HV.out.1, ← HV.out.2]
          unfold soV
          rw [← HE.out, if_pos HW.out.1, HW.out.2, decide_eq_true HW.out.1]
          rfl
        · exact (((hR.out.b.setCell (Nat.le_refl _) _).setCell (Nat.le_refl _) _).setCell (Nat.le_refl _) _).alloc (by simp [World.setCell]; omega) _
      · have q1 : ((K : Int) == k) = false := by simp [he]
        have HN2 : Hid (∀ i, i < j + 1 → (tW i : Int) ≠ k) := Lib.hid fun i hi => by
          by_cases h : i < j
          · exact hno.out i h
          · have e : i = j := by omega
            rw [e, HKJ.out]
            exact he
        clear he
        go_wp2_with fail
        go_roundw
        case rel => exact ⟨j + 1, by omega, by go_num, HN2, Lib.hid (hR.out.on ((Below.refl _ _).alloc (Nat.le_refl _) _))⟩
        case measure => simp [intOf]; omega
    · obtain rfl : j = 3 := by omega
      have HN := Lib.hid (tW_all hno.out)
      clear hno
      go_wp2_with fail
      have hblk := hR.out.blk
      refine bodyPost_ret (v := .tuple #[.agg #[.int .i64 0, .int .i64 0, .int .i64 0], .bool false]) (by simp [results, Try.results39, go_sem, World.cell?, World.setCell, Array.getElem?_modify, hblk]) rfl ⟨?_, ?_⟩
      · rw [← HV.out.1, ← HV.out.2]
        unfold soV
        rw [if_neg HN.out, decide_eq_false HN.out]
      · exact ((hR.out.b.setCell (Nat.le_refl _) _).setCell (Nat.le_refl _) _).setCell (Nat.le_refl _) _
end Go.Proofs.Ytkgejncolchobaa.nn
