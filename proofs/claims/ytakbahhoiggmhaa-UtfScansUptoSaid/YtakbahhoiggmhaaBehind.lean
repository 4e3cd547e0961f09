/- The walk of behind: the tail of a first byte by the table of ranges. -/
import Derived.Test.YtakbahhoiggmhaaProg
import Derived.WalkKit
import Derived.Lib.Hide
import Derived.Deep.CutBlock
import Derived.BigQuiet
import Derived.Deep.QuietTactic
import Derived.Deep.DeepCutAuto
import Derived.KernelRfl
import Derived.Below
import Derived.Deep.WholeRow
import Derived.Deep.CutBlock
import Derived.Great.Walk
import Derived.Test.YtakbahhoiggmhaaUtf
namespace Go.Proofs.Ytakbahhoiggmhaa.nn
open Go.RowKit Go.Great

def tlv (t : Tl) : Value := .agg #[.int .i64 (t.c : Int), .int .u8 (t.lo : Int), .int .u8 (t.hi : Int)]

def tab : Array Value := #[.int .u8 194, .int .u8 223, .int .i64 1, .int .u8 128, .int .u8 191, .int .u8 224, .int .u8 224, .int .i64 2, .int .u8 160, .int .u8 191,
  .int .u8 225, .int .u8 236, .int .i64 2, .int .u8 128, .int .u8 191, .int .u8 237, .int .u8 237, .int .i64 2, .int .u8 128, .int .u8 159,
  .int .u8 238, .int .u8 239, .int .i64 2, .int .u8 128, .int .u8 191, .int .u8 240, .int .u8 240, .int .i64 3, .int .u8 144, .int .u8 191,
  .int .u8 241, .int .u8 243, .int .i64 3, .int .u8 128, .int .u8 191, .int .u8 244, .int .u8 244, .int .i64 3, .int .u8 128, .int .u8 143]
/-- row k of the table -/
def fr : Nat → Nat | 0 => 194 | 1 => 224 | 2 => 225 | 3 => 237 | 4 => 238 | 5 => 240 | 6 => 241 | _ => 244
def to_ : Nat → Nat | 0 => 223 | 1 => 224 | 2 => 236 | 3 => 237 | 4 => 239 | 5 => 240 | 6 => 243 | _ => 244
def tc : Nat → Nat | 0 => 1 | 1 => 2 | 2 => 2 | 3 => 2 | 4 => 2 | _ => 3
def tl : Nat → Nat | 1 => 160 | 5 => 144 | _ => 128
def th : Nat → Nat | 3 => 159 | 7 => 143 | _ => 191

def zer : Array Value := #[.int .u8 0, .int .u8 0, .int .i64 0, .int .u8 0, .int .u8 0, .int .u8 0, .int .u8 0, .int .i64 0, .int .u8 0, .int .u8 0,
  .int .u8 0, .int .u8 0, .int .i64 0, .int .u8 0, .int .u8 0, .int .u8 0, .int .u8 0, .int .i64 0, .int .u8 0, .int .u8 0,
  .int .u8 0, .int .u8 0, .int .i64 0, .int .u8 0, .int .u8 0, .int .u8 0, .int .u8 0, .int .i64 0, .int .u8 0, .int .u8 0,
  .int .u8 0, .int .u8 0, .int .i64 0, .int .u8 0, .int .u8 0, .int .u8 0, .int .u8 0, .int .i64 0, .int .u8 0, .int .u8 0]
theorem hsz1 (w : World) (o : Obj) : (w.alloc o).heap.size = w.heap.size + 1 := by simp
theorem last2 (w : World) (o o' : Obj) : ((w.alloc o).alloc o').heap[w.heap.size + 1]? = some o' := by
  have := heap_alloc_last (w.alloc o) o'
  simpa using this
theorem setRow2 (w : World) (o : Obj) (c c' : Array Value) (t : TypeId) : ((w.alloc o).alloc (.cells c t)).setRow (w.heap.size + 1) c' = (w.alloc o).alloc (.cells c' t) := by
  have := World.setRow_alloc_new (w.alloc o) c c' t
  simpa using this
theorem ix (k : Nat) (h : k < 8) (w : World) : (Instr.index 61 (.agg tab) (.int .i64 (k : Int))).run Try.prog w = .ok (.agg #[.int .u8 (fr k : Int), .int .u8 (to_ k : Int), .int .i64 (tc k : Int), .int .u8 (tl k : Int), .int .u8 (th k : Int)]) w := by
  match k, h with
  | 0, _ => exact (by kernel_rfl : (Instr.index 61 (.agg tab) (.int .i64 0)).run Try.prog w = .ok (.agg #[.int .u8 194, .int .u8 223, .int .i64 1, .int .u8 128, .int .u8 191]) w)
  | 1, _ => exact (by kernel_rfl : (Instr.index 61 (.agg tab) (.int .i64 1)).run Try.prog w = .ok (.agg #[.int .u8 224, .int .u8 224, .int .i64 2, .int .u8 160, .int .u8 191]) w)
  | 2, _ => exact (by kernel_rfl : (Instr.index 61 (.agg tab) (.int .i64 2)).run Try.prog w = .ok (.agg #[.int .u8 225, .int .u8 236, .int .i64 2, .int .u8 128, .int .u8 191]) w)
  | 3, _ => exact (by kernel_rfl : (Instr.index 61 (.agg tab) (.int .i64 3)).run Try.prog w = .ok (.agg #[.int .u8 237, .int .u8 237, .int .i64 2, .int .u8 128, .int .u8 159]) w)
  | 4, _ => exact (by kernel_rfl : (Instr.index 61 (.agg tab) (.int .i64 4)).run Try.prog w = .ok (.agg #[.int .u8 238, .int .u8 239, .int .i64 2, .int .u8 128, .int .u8 191]) w)
  | 5, _ => exact (by kernel_rfl : (Instr.index 61 (.agg tab) (.int .i64 5)).run Try.prog w = .ok (.agg #[.int .u8 240, .int .u8 240, .int .i64 3, .int .u8 144, .int .u8 191]) w)
  | 6, _ => exact (by kernel_rfl : (Instr.index 61 (.agg tab) (.int .i64 6)).run Try.prog w = .ok (.agg #[.int .u8 241, .int .u8 243, .int .i64 3, .int .u8 128, .int .u8 191]) w)
  | 7, _ => exact (by kernel_rfl : (Instr.index 61 (.agg tab) (.int .i64 7)).run Try.prog w = .ok (.agg #[.int .u8 244, .int .u8 244, .int .i64 3, .int .u8 128, .int .u8 143]) w)
theorem row_le (k : Nat) : fr k < 256 ∧ to_ k < 256 ∧ tc k < 4 ∧ tl k < 256 ∧ th k < 256 := by
  refine ⟨?_, ?_, ?_, ?_, ?_⟩
  · unfold fr; split <;> omega
  · unfold to_; split <;> omega
  · unfold tc; split <;> omega
  · unfold tl; split <;> omega
  · unfold th; split <;> omega
/-- the row that holds x tells its tail -/
theorem row_yes {k x : Nat} (hk : k < 8) (h1 : fr k ≤ x) (h2 : x ≤ to_ k) : bh x = ⟨tc k, tl k, th k⟩ ∧ nd x ≠ 0 := by
  match k, hk with
  | 0, _ | 1, _ | 2, _ | 3, _ | 4, _ | 5, _ | 6, _ | 7, _ =>
    simp only [fr, to_] at h1 h2
    have a := nd_cases x
    have b := lt_cases x
    have c := mt_cases x
    unfold bh
    rw [if_neg (by omega), Tl.mk.injEq]
    simp only [tc, tl, th]
    omega
theorem row_no {x : Nat} (hx : 127 < x) (h : ∀ k, k < 8 → ¬ (fr k ≤ x ∧ x ≤ to_ k)) : bh x = t0 ∧ nd x = 0 := by
  have h0 := h 0 (by omega)
  have h1 := h 1 (by omega)
  have h2 := h 2 (by omega)
  have h3 := h 3 (by omega)
  have h4 := h 4 (by omega)
  have h5 := h 5 (by omega)
  have h6 := h 6 (by omega)
  have h7 := h 7 (by omega)
  simp only [fr, to_] at h0 h1 h2 h3 h4 h5 h6 h7
  have a := nd_cases x
  have e : nd x = 0 := by omega
  exact ⟨by unfold bh; rw [if_pos (by omega)], e⟩

set_option maxHeartbeats 400000 in
theorem behind_low (x : Nat) (w : World) (hx : x < 128) :
    Calls Try.prog 32 #[.int .u8 x] w fun e w' => e = .returned (.tuple #[tlv t0, .bool true]) ∧ Below w.heap.size w w' := by
  go_enter Try.func32, Try.ntmps32
  go_wp2
  refine bodyPost_ret (v := .tuple #[tlv t0, .bool true]) (by simp [results, Try.results32, go_sem, tlv, t0]) rfl ⟨rfl, ?_⟩
  exact (Below.refl _ _).alloc (Nat.le_refl _) _

set_option maxRecDepth 100000 in
set_option maxHeartbeats 1000000 in
theorem behind_high (x : Nat) (w : World) (hx : x < 256) (hx' : 127 < x) :
    Calls Try.prog 32 #[.int .u8 x] w fun e w' => e = .returned (.tuple #[tlv (bh x), .bool (decide (nd x ≠ 0))]) ∧ Below w.heap.size w w' := by
  go_enter Try.func32, Try.ntmps32
  go_upto_region 3 with fail
  go_cut [4] from 10 to 26 (fun s4 wx => s4 = .pointer (some ⟨w.heap.size + 1, 0, none⟩) ∧ wx = (w.alloc (.cells #[.int .i64 0, .int .u8 0, .int .u8 0] 45)).alloc (.cells tab 61))
  case first =>
    apply wp_region_lit
    refine wpList_buildTo rfl 45 _ rfl (some 10) rfl #[.int .i64 1, .int .u8 128, .int .u8 191] (by kernel_rfl) ?_
    refine wpList_buildTo rfl 60 _ rfl (some 11) rfl #[.int .u8 194, .int .u8 223, .int .i64 1, .int .u8 128, .int .u8 191] (by kernel_rfl) ?_
    refine wpList_buildTo rfl 45 _ rfl (some 12) rfl #[.int .i64 2, .int .u8 160, .int .u8 191] (by kernel_rfl) ?_
    refine wpList_buildTo rfl 60 _ rfl (some 13) rfl #[.int .u8 224, .int .u8 224, .int .i64 2, .int .u8 160, .int .u8 191] (by kernel_rfl) ?_
    refine wpList_buildTo rfl 45 _ rfl (some 14) rfl #[.int .i64 2, .int .u8 128, .int .u8 191] (by kernel_rfl) ?_
    refine wpList_buildTo rfl 60 _ rfl (some 15) rfl #[.int .u8 225, .int .u8 236, .int .i64 2, .int .u8 128, .int .u8 191] (by kernel_rfl) ?_
    refine wpList_buildTo rfl 45 _ rfl (some 16) rfl #[.int .i64 2, .int .u8 128, .int .u8 159] (by kernel_rfl) ?_
    refine wpList_buildTo rfl 60 _ rfl (some 17) rfl #[.int .u8 237, .int .u8 237, .int .i64 2, .int .u8 128, .int .u8 159] (by kernel_rfl) ?_
    refine wpList_buildTo rfl 45 _ rfl (some 18) rfl #[.int .i64 2, .int .u8 128, .int .u8 191] (by kernel_rfl) ?_
    refine wpList_buildTo rfl 60 _ rfl (some 19) rfl #[.int .u8 238, .int .u8 239, .int .i64 2, .int .u8 128, .int .u8 191] (by kernel_rfl) ?_
    refine wpList_buildTo rfl 45 _ rfl (some 20) rfl #[.int .i64 3, .int .u8 144, .int .u8 191] (by kernel_rfl) ?_
    refine wpList_buildTo rfl 60 _ rfl (some 21) rfl #[.int .u8 240, .int .u8 240, .int .i64 3, .int .u8 144, .int .u8 191] (by kernel_rfl) ?_
    refine wpList_buildTo rfl 45 _ rfl (some 22) rfl #[.int .i64 3, .int .u8 128, .int .u8 191] (by kernel_rfl) ?_
    refine wpList_buildTo rfl 60 _ rfl (some 23) rfl #[.int .u8 241, .int .u8 243, .int .i64 3, .int .u8 128, .int .u8 191] (by kernel_rfl) ?_
    refine wpList_buildTo rfl 45 _ rfl (some 24) rfl #[.int .i64 3, .int .u8 128, .int .u8 143] (by kernel_rfl) ?_
    refine wpList_buildTo rfl 60 _ rfl (some 25) rfl #[.int .u8 244, .int .u8 244, .int .i64 3, .int .u8 128, .int .u8 143] (by kernel_rfl) ?_
    refine wpList_buildTo rfl 61 _ rfl (some 26) rfl tab (by kernel_rfl) ?_
    refine wpList_allocTo rfl (some 4) rfl (.pointer (some ⟨(w.alloc (.cells #[.int .i64 0, .int .u8 0, .int .u8 0] 45)).heap.size, 0, none⟩)) (.cells zer 61) (by kernel_rfl) ?_
    rw [hsz1]
    refine wpList_store_rowTo rfl 61 _ _ rfl rfl (w.heap.size + 1) tab (by kernel_rfl) (by kernel_rfl) 61 zer (last2 _ _ _) (by kernel_rfl) (by kernel_rfl) (by kernel_rfl) ?_
    rw [setRow2]
    refine wpList_frame (a' := { tmps := #[(.int .u8 (x : Int)), undef, (.pointer (some ⟨w.heap.size, 0, none⟩)), (.bool false), (.pointer (some ⟨w.heap.size + 1, 0, none⟩)), undef, undef, (.int .u8 (x : Int)), (.bool (decide ((x : Int) ≤ 127))), undef, (.agg #[.int .i64 1, .int .u8 128, .int .u8 191]), (.agg #[.int .u8 194, .int .u8 223, .int .i64 1, .int .u8 128, .int .u8 191]), (.agg #[.int .i64 2, .int .u8 160, .int .u8 191]), (.agg #[.int .u8 224, .int .u8 224, .int .i64 2, .int .u8 160, .int .u8 191]), (.agg #[.int .i64 2, .int .u8 128, .int .u8 191]), (.agg #[.int .u8 225, .int .u8 236, .int .i64 2, .int .u8 128, .int .u8 191]), (.agg #[.int .i64 2, .int .u8 128, .int .u8 159]), (.agg #[.int .u8 237, .int .u8 237, .int .i64 2, .int .u8 128, .int .u8 159]), (.agg #[.int .i64 2, .int .u8 128, .int .u8 191]), (.agg #[.int .u8 238, .int .u8 239, .int .i64 2, .int .u8 128, .int .u8 191]), (.agg #[.int .i64 3, .int .u8 144, .int .u8 191]), (.agg #[.int .u8 240, .int .u8 240, .int .i64 3, .int .u8 144, .int .u8 191]), (.agg #[.int .i64 3, .int .u8 128, .int .u8 191]), (.agg #[.int .u8 241, .int .u8 243, .int .i64 3, .int .u8 128, .int .u8 191]), (.agg #[.int .i64 3, .int .u8 128, .int .u8 143]), (.agg #[.int .u8 244, .int .u8 244, .int .i64 3, .int .u8 128, .int .u8 143]), (.agg tab), undef, undef, undef, undef, undef, undef, undef, undef, undef, undef, undef, undef, undef, undef, undef, undef, undef, undef], defers := [] }) (by kernel_rfl) ?_
    refine wpList_nil ?_
    rename_i hJ hK
    exact hK _ _ (Met.intro (hJ _ _ ⟨_, _, _, _, _, _, _, _, _, _, _, _, _, _, _, _, _, _, ⟨rfl, rfl⟩, rfl⟩))
  case rest =>
    obtain ⟨rfl, rfl⟩ := hcut
    go_upto_region 4 with fail
    apply wp_region_lit
    refine wpList_load_row rfl 61 (.tmp 4) rfl (w.heap.size + 1) rfl _ tab (0, 0) _ (last2 _ _ _) Try.underlying61 rfl (by kernel_rfl) ?_
    go_wp2
    go_loopw [28] (fun s28 wr => ∃ k : Nat, k ≤ 8 ∧ s28 = .int .i64 (k : Int) ∧ Hid (∀ j, j < k → ¬ (fr j ≤ x ∧ x ≤ to_ j)) ∧ Below w.heap.size w wr ∧ w.heap.size < wr.heap.size ∧ wr.heap[w.heap.size]? = some (.cells #[.int .i64 0, .int .u8 0, .int .u8 0] 45 (0, 0))) (fun s28 _ => (8 - intOf s28).toNat)
    case atStart => exact ⟨0, by omega, rfl, Lib.hid (fun j hj => absurd hj (by omega)), ((Below.refl _ _).alloc (Nat.le_refl _) _).alloc (by rw [hsz1]; omega) _, by rw [hsz1, hsz1]; omega, (Below.heap_alloc _ _ _ (by rw [hsz1]; omega)).trans (heap_alloc_last _ _)⟩
    case round =>
      obtain ⟨k, hk, rfl, hno, hb, hs, hblk⟩ := hrel
      have c0 : wr.cell? ⟨w.heap.size, 0, none⟩ = some (.int .i64 0) := cell_of_row _ _ 0 _ _ _ hblk
      have c1 : wr.cell? ⟨w.heap.size, 1, none⟩ = some (.int .u8 0) := cell_of_row _ _ 1 _ _ _ hblk
      have c2 : wr.cell? ⟨w.heap.size, 2, none⟩ = some (.int .u8 0) := cell_of_row _ _ 2 _ _ _ hblk
      have f0 : ∀ i, wr.frozen? ⟨w.heap.size, i, none⟩ = false := fun i => by simp [World.frozen?, hblk]
      have hlt : ∀ o, w.heap.size < (wr.alloc o).heap.size := fun o => by rw [hsz1]; omega
      by_cases hk8 : k < 8
      · have hix := ix k hk8
        have hr := row_le k
        by_cases hy : fr k ≤ x ∧ x ≤ to_ k
        · have HE := Lib.hid (row_yes hk8 hy.1 hy.2)
          obtain ⟨hl, hh⟩ := hy
          go_wp2_with fail
          refine bodyPost_ret (v := .tuple #[.agg #[.int .i64 (tc k : Int), .int .u8 (tl k : Int), .int .u8 (th k : Int)], .bool true]) (by
            have hne : ¬ w.heap.size = wr.heap.size := by omega
            simp [results, Try.results32, go_sem, World.cell?, World.setCell, World.alloc, Array.getElem?_push, Array.getElem?_modify, hblk, hne]) rfl ⟨?_, ?_⟩
          · rw [HE.out.1]
            simp [tlv, HE.out.2]
          · exact (((hb.setCell (Nat.le_refl _) _).setCell (Nat.le_refl _) _).setCell (Nat.le_refl _) _).alloc (by simp [World.setCell]; omega) _
        · have HN := Lib.hid (fun j (hj : j < k + 1) => show ¬ (fr j ≤ x ∧ x ≤ to_ j) from by
            by_cases e : j = k
            · subst e; exact hy
            · exact hno.out j (by omega))
          by_cases hl : fr k ≤ x
          · have hh : ¬ x ≤ to_ k := fun h => hy ⟨hl, h⟩
            clear hy
            go_wp2_with fail
            go_roundw
            case rel => exact ⟨k + 1, by omega, by go_num, HN, hb.alloc (Nat.le_of_lt hs) _, hlt _, (Below.heap_alloc _ _ _ hs).trans hblk⟩
            case measure => simp [intOf]; omega
          · clear hy
            go_wp2_with fail
            go_roundw
            case rel => exact ⟨k + 1, by omega, by go_num, HN, hb.alloc (Nat.le_of_lt hs) _, hlt _, (Below.heap_alloc _ _ _ hs).trans hblk⟩
            case measure => simp [intOf]; omega
      · obtain rfl : k = 8 := by omega
        have HE := Lib.hid (row_no hx' hno.out)
        clear hno
        go_wp2_with fail
        refine bodyPost_ret (v := .tuple #[tlv t0, .bool false]) (by simp [results, Try.results32, go_sem, tlv, t0, World.cell?, World.setCell, Array.getElem?_modify, hblk]) rfl ⟨?_, ?_⟩
        · rw [HE.out.1]
          simp [HE.out.2]
        · exact ((hb.setCell (Nat.le_refl _) _).setCell (Nat.le_refl _) _).setCell (Nat.le_refl _) _

theorem behind_any (x : Nat) (w : World) (hx : x < 256) :
    Calls Try.prog 32 #[.int .u8 x] w fun e w' => e = .returned (.tuple #[tlv (bh x), .bool (decide (nd x ≠ 0))]) ∧ Below w.heap.size w w' := by
  by_cases h : 127 < x
  · exact behind_high x w hx h
  · have e : nd x = 1 := by unfold nd; rw [if_pos (by omega)]
    have e2 : bh x = t0 := by unfold bh; rw [if_pos (by omega)]
    rw [e, e2]
    exact behind_low x w (by omega)
end Go.Proofs.Ytakbahhoiggmhaa.nn
