/- Joined texts, what is wanted of them: Shape6, VaRight, VaWithin, VaIs, VaDepth, VaCheck, PkP, PackListsW, OpenS, OpenT. -/
import Derived.Below
import Derived.Laws.OwnMore
import Derived.Deep.AppendLies
import Derived.Deep.Draws
import Derived.Maps.AppendAt
import Derived.RegionTactic
import Derived.OwnWalk
import Derived.Deep.RegionLaw
import Derived.WalkKit
import Derived.Test.YtgadpmddbkimfaaProg
import Derived.Laws.BytesArg
import Derived.Lib.UnsafeStr
import Derived.Lib.AppendStr
import Derived.Lib.Hide
import Derived.Lib.MinMax
import Derived.Deep.QuietTactic
import Derived.BigQuiet
import Derived.IntWalk
import Derived.Laws.Rows
import Derived.WalkSpells
import Derived.Deep.RegionHeld3
import Derived.Laws.BitsAllLaws
import Derived.Test.YtgadpmddbkimfaaShelf
import Derived.Deep.RegionWith
import Derived.Lib.BitFns
import Derived.Deep.CutBlock
import Derived.Deep.DeepCutAuto
import Derived.KernelRfl
import Derived.Deep.WholeRow
import Derived.Great.Walk
import Derived.StillTailTactics
import Derived.Lib.Builder
import Derived.Shelf.RegionOpen
import Derived.Laws.AppendOwn
import Derived.RangeFuncNested
import Derived.RangeFuncBound
import Derived.RangeFuncCalls
import Derived.RangeFuncLeaves
import Derived.Shelf.Abstract
import Derived.OwnWalkIn
import Derived.TacticsInMore
import Derived.RowKit
import Derived.Test.YtgadpmddbkimfaaRows
import Derived.ProofKit
import Derived.SizedLaws
import Derived.ChangeMaps5
import Derived.Deep.Slices
import Derived.Deep.Fields
import Derived.Test.YtgadpmddbkimfaaJb
namespace Go.Proofs.Ytgadpmddbkimfaa.nn
open Go.RowKit Go.Great

def z3 : Value := .agg #[.int .i64 0, .int .i64 0, .int .i64 0]
def sfV (k : Int) (x : Nat) : Value := if fits k x then sv k.toNat else z3
def SfAns (k : Int) (x : Nat) (W : World) (e : Ending) (W' : World) : Prop := e = .returned (.tuple #[sfV k x, .int .i64 (paE k x : Int)]) ∧ Below W.heap.size W W'
set_option maxRecDepth 100000 in
set_option maxHeartbeats 1000000 in
theorem shapeFor_no (k : Int) (x : Nat) (w : World) (hk : ¬ wOk k) : Calls Try.prog 57 #[.int .i64 k, .int .u64 (x : Int)] w (SfAns k x w) := by
  have HNO : Hid (¬ fits k x) := Lib.hid fun h => hk h.1
  have HS : Hid (∀ W, Calls Try.prog 62 #[.int .i64 k] W fun e w' => e = .returned (.tuple #[.agg #[.int .i64 0, .int .i64 0, .int .i64 0], .bool false]) ∧ Below W.heap.size W w') := Lib.hid fun W => by
    have h := shapeOf_any k W
    unfold soV at h
    rw [if_neg hk, decide_eq_false hk] at h
    exact h
  clear hk
  have HB := Lib.hid (Rs3.new w 88)
  go_enter Try.func57, Try.ntmps57
  go_wp2_with fail
  refine (HS.out _).mono ?_
  rintro e w1 ⟨rfl, hb⟩
  have H1 := Lib.hid (HB.out.on hb)
  obtain ⟨c0, c1, c2, f0⟩ := H1.out.all
  have hz := H1.out.z
  have hlt : ∀ o, w.heap.size < (w1.alloc o).heap.size := fun o => by rw [hsz1]; omega
  clear hb
  go_wp2_with fail
  have hne : ¬ w.heap.size = w1.heap.size := by omega
  have hblk := H1.out.blk
  refine bodyPost_ret (v := .tuple #[.agg #[.int .i64 0, .int .i64 0, .int .i64 0], .int .i64 1]) (by simp [results, Try.results57, go_sem, World.cell?, World.setCell, World.alloc, Array.getElem?_push, Array.getElem?_modify, hblk, hne]) rfl ⟨?_, ?_⟩
  · unfold sfV paE
    rw [if_neg HNO.out, if_neg HNO.out]
    rfl
  · exact (((H1.out.b.setCell (Nat.le_refl _) _).setCell (Nat.le_refl _) _).setCell (Nat.le_refl _) _).alloc (by simp [World.setCell]; omega) _
set_option maxRecDepth 100000 in
set_option maxHeartbeats 1000000 in
theorem shapeFor_16_yes (x : Nat) (w : World) (hx : x < 18446744073709551616) (h : x < 65536) : Calls Try.prog 57 #[.int .i64 16, .int .u64 (x : Int)] w (SfAns ((16 : Nat) : Int) x w) := by
  have HF : Hid (fits ((16 : Nat) : Int) x) := Lib.hid (⟨by unfold wOk; omega, fun _ => h⟩)
  have q1 : ((x : Int) / 65536 != 0) = false := by simp; omega
  clear h
  have HS : Hid (∀ W, Calls Try.prog 62 #[.int .i64 16] W fun e w' => e = .returned (.tuple #[.agg #[.int .i64 16, .int .i64 5, .int .i64 10], .bool true]) ∧ Below W.heap.size W w') := Lib.hid fun W => shapeOf_any 16 W
  have HB := Lib.hid (Rs3.new w 88)
  go_enter Try.func57, Try.ntmps57
  go_wp2_with fail
  refine (HS.out _).mono ?_
  rintro e w1 ⟨rfl, hb⟩
  have H1 := Lib.hid (HB.out.on hb)
  obtain ⟨c0, c1, c2, f0⟩ := H1.out.all
  have hz := H1.out.z
  have hlt : ∀ o, w.heap.size < (w1.alloc o).heap.size := fun o => by rw [hsz1]; omega
  clear hb
  go_wp2_with fail
  have hne : ¬ w.heap.size = w1.heap.size := by omega
  have hblk := H1.out.blk
  refine bodyPost_ret (v := .tuple #[.agg #[.int .i64 16, .int .i64 5, .int .i64 10], .int .i64 0]) (by simp [results, Try.results57, go_sem, World.cell?, World.setCell, World.alloc, Array.getElem?_push, Array.getElem?_modify, hblk, hne]) rfl ⟨?_, ?_⟩
  · unfold sfV paE
    rw [if_pos HF.out, if_pos HF.out]
    rfl
  · exact (((H1.out.b.setCell (Nat.le_refl _) _).setCell (Nat.le_refl _) _).setCell (Nat.le_refl _) _).alloc (by simp [World.setCell]; omega) _
set_option maxRecDepth 100000 in
set_option maxHeartbeats 1000000 in
theorem shapeFor_16_no (x : Nat) (w : World) (hx : x < 18446744073709551616) (h : ¬ x < 65536) : Calls Try.prog 57 #[.int .i64 16, .int .u64 (x : Int)] w (SfAns ((16 : Nat) : Int) x w) := by
  have HF : Hid (¬ fits ((16 : Nat) : Int) x) := Lib.hid (fun h' => h (h'.2 (by decide)))
  have q1 : ((x : Int) / 65536 != 0) = true := by simp; omega
  clear h
  have HS : Hid (∀ W, Calls Try.prog 62 #[.int .i64 16] W fun e w' => e = .returned (.tuple #[.agg #[.int .i64 16, .int .i64 5, .int .i64 10], .bool true]) ∧ Below W.heap.size W w') := Lib.hid fun W => shapeOf_any 16 W
  have HB := Lib.hid (Rs3.new w 88)
  go_enter Try.func57, Try.ntmps57
  go_wp2_with fail
  refine (HS.out _).mono ?_
  rintro e w1 ⟨rfl, hb⟩
  have H1 := Lib.hid (HB.out.on hb)
  obtain ⟨c0, c1, c2, f0⟩ := H1.out.all
  have hz := H1.out.z
  have hlt : ∀ o, w.heap.size < (w1.alloc o).heap.size := fun o => by rw [hsz1]; omega
  clear hb
  go_wp2_with fail
  have hne : ¬ w.heap.size = w1.heap.size := by omega
  have hblk := H1.out.blk
  refine bodyPost_ret (v := .tuple #[.agg #[.int .i64 0, .int .i64 0, .int .i64 0], .int .i64 1]) (by simp [results, Try.results57, go_sem, World.cell?, World.setCell, World.alloc, Array.getElem?_push, Array.getElem?_modify, hblk, hne]) rfl ⟨?_, ?_⟩
  · unfold sfV paE
    rw [if_neg HF.out, if_neg HF.out]
    rfl
  · exact (((H1.out.b.setCell (Nat.le_refl _) _).setCell (Nat.le_refl _) _).setCell (Nat.le_refl _) _).alloc (by simp [World.setCell]; omega) _
set_option maxRecDepth 100000 in
set_option maxHeartbeats 1000000 in
theorem shapeFor_32_yes (x : Nat) (w : World) (hx : x < 18446744073709551616) (h : x < 4294967296) : Calls Try.prog 57 #[.int .i64 32, .int .u64 (x : Int)] w (SfAns ((32 : Nat) : Int) x w) := by
  have HF : Hid (fits ((32 : Nat) : Int) x) := Lib.hid (⟨by unfold wOk; omega, fun _ => h⟩)
  have q1 : ((x : Int) / 4294967296 != 0) = false := by simp; omega
  clear h
  have HS : Hid (∀ W, Calls Try.prog 62 #[.int .i64 32] W fun e w' => e = .returned (.tuple #[.agg #[.int .i64 32, .int .i64 8, .int .i64 23], .bool true]) ∧ Below W.heap.size W w') := Lib.hid fun W => shapeOf_any 32 W
  have HB := Lib.hid (Rs3.new w 88)
  go_enter Try.func57, Try.ntmps57
  go_wp2_with fail
  refine (HS.out _).mono ?_
  rintro e w1 ⟨rfl, hb⟩
  have H1 := Lib.hid (HB.out.on hb)
  obtain ⟨c0, c1, c2, f0⟩ := H1.out.all
  have hz := H1.out.z
  have hlt : ∀ o, w.heap.size < (w1.alloc o).heap.size := fun o => by rw [hsz1]; omega
  clear hb
  go_wp2_with fail
  have hne : ¬ w.heap.size = w1.heap.size := by omega
  have hblk := H1.out.blk
  refine bodyPost_ret (v := .tuple #[.agg #[.int .i64 32, .int .i64 8, .int .i64 23], .int .i64 0]) (by simp [results, Try.results57, go_sem, World.cell?, World.setCell, World.alloc, Array.getElem?_push, Array.getElem?_modify, hblk, hne]) rfl ⟨?_, ?_⟩
  · unfold sfV paE
    rw [if_pos HF.out, if_pos HF.out]
    rfl
  · exact (((H1.out.b.setCell (Nat.le_refl _) _).setCell (Nat.le_refl _) _).setCell (Nat.le_refl _) _).alloc (by simp [World.setCell]; omega) _
set_option maxRecDepth 100000 in
set_option maxHeartbeats 1000000 in
theorem shapeFor_32_no (x : Nat) (w : World) (hx : x < 18446744073709551616) (h : ¬ x < 4294967296) : Calls Try.prog 57 #[.int .i64 32, .int .u64 (x : Int)] w (SfAns ((32 : Nat) : Int) x w) := by
  have HF : Hid (¬ fits ((32 : Nat) : Int) x) := Lib.hid (fun h' => h (h'.2 (by decide)))
  have q1 : ((x : Int) / 4294967296 != 0) = true := by simp; omega
  clear h
  have HS : Hid (∀ W, Calls Try.prog 62 #[.int .i64 32] W fun e w' => e = .returned (.tuple #[.agg #[.int .i64 32, .int .i64 8, .int .i64 23], .bool true]) ∧ Below W.heap.size W w') := Lib.hid fun W => shapeOf_any 32 W
  have HB := Lib.hid (Rs3.new w 88)
  go_enter Try.func57, Try.ntmps57
  go_wp2_with fail
  refine (HS.out _).mono ?_
  rintro e w1 ⟨rfl, hb⟩
  have H1 := Lib.hid (HB.out.on hb)
  obtain ⟨c0, c1, c2, f0⟩ := H1.out.all
  have hz := H1.out.z
  have hlt : ∀ o, w.heap.size < (w1.alloc o).heap.size := fun o => by rw [hsz1]; omega
  clear hb
  go_wp2_with fail
  have hne : ¬ w.heap.size = w1.heap.size := by omega
  have hblk := H1.out.blk
  refine bodyPost_ret (v := .tuple #[.agg #[.int .i64 0, .int .i64 0, .int .i64 0], .int .i64 1]) (by simp [results, Try.results57, go_sem, World.cell?, World.setCell, World.alloc, Array.getElem?_push, Array.getElem?_modify, hblk, hne]) rfl ⟨?_, ?_⟩
  · unfold sfV paE
    rw [if_neg HF.out, if_neg HF.out]
    rfl
  · exact (((H1.out.b.setCell (Nat.le_refl _) _).setCell (Nat.le_refl _) _).setCell (Nat.le_refl _) _).alloc (by simp [World.setCell]; omega) _
set_option maxRecDepth 100000 in
set_option maxHeartbeats 1000000 in
theorem shapeFor_64_yes (x : Nat) (w : World) (hx : x < 18446744073709551616) (_ : x < 18446744073709551616) : Calls Try.prog 57 #[.int .i64 64, .int .u64 (x : Int)] w (SfAns ((64 : Nat) : Int) x w) := by
  have HF : Hid (fits ((64 : Nat) : Int) x) := Lib.hid (⟨by unfold wOk; omega, fun h => absurd h (by decide)⟩)
  have q1 : ((x : Int) / 18446744073709551616 != 0) = false := by simp; omega
  have HS : Hid (∀ W, Calls Try.prog 62 #[.int .i64 64] W fun e w' => e = .returned (.tuple #[.agg #[.int .i64 64, .int .i64 11, .int .i64 52], .bool true]) ∧ Below W.heap.size W w') := Lib.hid fun W => shapeOf_any 64 W
  have HB := Lib.hid (Rs3.new w 88)
  go_enter Try.func57, Try.ntmps57
  go_wp2_with fail
  refine (HS.out _).mono ?_
  rintro e w1 ⟨rfl, hb⟩
  have H1 := Lib.hid (HB.out.on hb)
  obtain ⟨c0, c1, c2, f0⟩ := H1.out.all
  have hz := H1.out.z
  have hlt : ∀ o, w.heap.size < (w1.alloc o).heap.size := fun o => by rw [hsz1]; omega
  clear hb
  go_wp2_with fail
  have hne : ¬ w.heap.size = w1.heap.size := by omega
  have hblk := H1.out.blk
  refine bodyPost_ret (v := .tuple #[.agg #[.int .i64 64, .int .i64 11, .int .i64 52], .int .i64 0]) (by simp [results, Try.results57, go_sem, World.cell?, World.setCell, World.alloc, Array.getElem?_push, Array.getElem?_modify, hblk, hne]) rfl ⟨?_, ?_⟩
  · unfold sfV paE
    rw [if_pos HF.out, if_pos HF.out]
    rfl
  · exact (((H1.out.b.setCell (Nat.le_refl _) _).setCell (Nat.le_refl _) _).setCell (Nat.le_refl _) _).alloc (by simp [World.setCell]; omega) _

theorem shapeFor_any (k : Int) (x : Nat) (w : World) (hx : x < 18446744073709551616) : Calls Try.prog 57 #[.int .i64 k, .int .u64 (x : Int)] w (SfAns k x w) := by
  by_cases hk : wOk k
  · unfold wOk at hk
    rcases hk with rfl | rfl | rfl
    · by_cases h : x < 65536
      · exact shapeFor_16_yes x w hx h
      · exact shapeFor_16_no x w hx h
    · by_cases h : x < 4294967296
      · exact shapeFor_32_yes x w hx h
      · exact shapeFor_32_no x w hx h
    · exact shapeFor_64_yes x w hx hx
  · exact shapeFor_no k x w hk
theorem fits.facts {k : Int} {x : Nat} (h : fits k x) (hx : x < 18446744073709551616) : kOk k.toNat ∧ x < lim k.toNat := by
  obtain ⟨h1, h2⟩ := h
  unfold wOk at h1
  rcases h1 with rfl | rfl | rfl
  · exact ⟨.inl rfl, h2 (by decide)⟩
  · exact ⟨.inr (.inl rfl), h2 (by decide)⟩
  · exact ⟨.inr (.inr rfl), hx⟩
/-- the two ways of shapeFor -/
theorem shapeFor_yes {k : Int} {x : Nat} (W : World) (hx : x < 18446744073709551616) (h : fits k x) : Calls Try.prog 57 #[.int .i64 k, .int .u64 (x : Int)] W fun e w' => e = .returned (.tuple #[sv k.toNat, .int .i64 0]) ∧ Below W.heap.size W w' := by
  have := shapeFor_any k x W hx
  unfold SfAns sfV paE at this
  rw [if_pos h, if_pos h] at this
  exact this
theorem shapeFor_not {k : Int} {x : Nat} (W : World) (hx : x < 18446744073709551616) (h : ¬ fits k x) : Calls Try.prog 57 #[.int .i64 k, .int .u64 (x : Int)] W fun e w' => e = .returned (.tuple #[z3, .int .i64 1]) ∧ Below W.heap.size W w' := by
  have := shapeFor_any k x W hx
  unfold SfAns sfV paE at this
  rw [if_neg h, if_neg h] at this
  exact this
set_option maxRecDepth 100000 in
set_option maxHeartbeats 1000000 in
theorem fclass_any (k : Int) (x : Nat) (w : World) (hx : x < 18446744073709551616) : Calls Try.prog 54 #[.int .i64 k, .int .u64 (x : Int)] w (ClAns k x w) := by
  unfold ClAns
  by_cases hf : fits k x
  · have HS := Lib.hid (fun W => shapeFor_yes W hx hf)
    obtain ⟨hk, hl⟩ := hf.facts hx
    have e3 : paE k x = 0 := by unfold paE; rw [if_pos hf]
    have e4 : clC k x = clk k.toNat x := by unfold clC; rw [if_pos hf]; rfl
    rw [e3, e4]
    have HC := Lib.hid (fun W => class_any k.toNat x W hk hl)
    clear e3 e4 hf hk hl
    obtain ⟨R, hR⟩ : ∃ R, clk k.toNat x = R := ⟨_, rfl⟩
    rw [hR] at HC ⊢
    clear hR
    obtain ⟨K, hK⟩ : ∃ K, k.toNat = K := ⟨_, rfl⟩
    rw [hK] at HC HS
    clear hK
    unfold sv at HS HC
    go_enter Try.func54, Try.ntmps54
    go_wp2_with fail
    with_reducible refine (HS.out _).mono ?_
    rintro e w1 ⟨rfl, hb⟩
    have H1 := Lib.hid hb
    clear hb
    go_wp2_with fail
    with_reducible refine (HC.out _).mono ?_
    rintro e w2 ⟨rfl, hb⟩
    have H2 := Lib.hid ((H1.out.alloc H1.out.size _).trans (hb.mono (Nat.le_trans H1.out.size (by simp))))
    clear hb
    go_wp2_with fail
    go_ret2
    exact ⟨rfl, H2.out⟩
  · have HS := Lib.hid (fun W => shapeFor_not W hx hf)
    have e3 : paE k x = 1 := by unfold paE; rw [if_neg hf]
    have e4 : clC k x = 0 := by unfold clC; rw [if_neg hf]
    rw [e3, e4]
    clear e3 e4 hf
    unfold z3 at HS
    go_enter Try.func54, Try.ntmps54
    go_wp2_with fail
    with_reducible refine (HS.out _).mono ?_
    rintro e w1 ⟨rfl, hb⟩
    have H1 := Lib.hid hb
    clear hb
    go_wp2_with fail
    go_ret2
    exact ⟨rfl, H1.out.alloc H1.out.size _⟩
end Go.Proofs.Ytgadpmddbkimfaa.nn
namespace Go.Proofs.Ytgadpmddbkimfaa.nn
open Go.RowKit

set_option maxRecDepth 100000 in
set_option maxHeartbeats 2000000 in
theorem cover_any (a b c d : Bool) (t : VT) (A : Option Addr) (m cc : Nat) (w : World) (_ : m ≤ 4611686018427387904) :
    Calls Try.prog 41 #[.agg #[.bool a, .bool b, .bool c, .bool d], vv t (.slice A m cc)] w fun e w' => e = .returned (.bool ((a || !t.g) && (b || nE t) && (c || sE t) && (d || decide (m = 0)))) ∧ Below w.heap.size w w' := by
  have HA := Lib.hid (fun o o' => (((Below.refl w.heap.size w).alloc (Nat.le_refl _) o).alloc (by simp) o'))
  obtain ⟨B1, h1⟩ : ∃ B1, t.s.toList.isEmpty = B1 := ⟨_, rfl⟩
  obtain ⟨B2, h2⟩ : ∃ B2, ((t.n : Int) == 0) = B2 := ⟨_, rfl⟩
  obtain ⟨B3, h3⟩ : ∃ B3, t.g = B3 := ⟨_, rfl⟩
  obtain ⟨B4, h4⟩ : ∃ B4, ((m : Int) == 0) = B4 := ⟨_, rfl⟩
  have h5 : decide (m = 0) = B4 := by rw [← h4]; cases hh : ((m : Int) == 0) <;> simp_all
  unfold vv sE nE
  rw [h1, h2, h3, h5]
  clear h3 h5
  go_enter Try.func41, Try.ntmps41
  go_wp2_with fail
  all_goals
    go_ret
    exact ⟨by simp_all, HA.out _ _⟩
set_option maxRecDepth 100000 in
theorem canBig_any (s : ByteArray) (w : World) : Calls Try.prog 48 #[.string s] w fun e w' => e = .returned (.bool (big s)) ∧ w = w' := by
  unfold big
  by_cases h1 : 8 < s.size
  · by_cases h2 : s.size ≤ 512
    · have h0 : 0 < s.size := by omega
      have h9 : 9 ≤ s.size := by omega
      have hb := bt_at h0
      by_cases h3 : bt s 0 = 0
      · rw [decide_eq_false (by omega)]
        have q : ((s[0].toNat : Int) != 0) = false := by rw [← hb, h3]; rfl
        clear hb h3
        go_enter Try.func48, Try.ntmps48
        go_wp2_with fail
        go_ret
        exact ⟨rfl, rfl⟩
      · rw [decide_eq_true ⟨h1, h2, h3⟩]
        have q : ((s[0].toNat : Int) != 0) = true := by rw [← hb]; simp; omega
        clear hb h3
        go_enter Try.func48, Try.ntmps48
        go_wp2_with fail
        go_ret
        exact ⟨rfl, rfl⟩
    · rw [decide_eq_false (by omega)]
      have h9 : 9 ≤ s.size := by omega
      go_enter Try.func48, Try.ntmps48
      go_wp2_with fail
      go_ret
      exact ⟨rfl, rfl⟩
  · rw [decide_eq_false (by omega)]
    have h9 : ¬ 9 ≤ s.size := by omega
    go_enter Try.func48, Try.ntmps48
    go_wp2_with fail
    go_ret
    exact ⟨rfl, rfl⟩
set_option maxRecDepth 100000 in
theorem isFloat_any (k : Int) (x : Nat) (w : World) (hx : x < 18446744073709551616) : Calls Try.prog 49 #[.int .i64 k, .int .u64 (x : Int)] w fun e w' => e = .returned (.bool (decide (paE k x = 0))) ∧ Below w.heap.size w w' := by
  have HC := Lib.hid (fclass_any k x w hx)
  unfold ClAns at HC
  obtain ⟨E, hE⟩ : ∃ E, paE k x = E := ⟨_, rfl⟩
  rw [hE] at HC ⊢
  have hEE : E = 0 ∨ E = 1 := by rw [← hE]; unfold paE; split <;> simp
  clear hE
  go_enter Try.func49, Try.ntmps49
  go_wp2_with fail
  refine HC.out.mono ?_
  rintro e w2 ⟨rfl, hb⟩
  have HB := Lib.hid hb
  clear hb
  rcases hEE with rfl | rfl
  · go_wp2_with fail
    go_ret
    exact ⟨rfl, HB.out⟩
  · go_wp2_with fail
    go_ret
    exact ⟨rfl, HB.out⟩
set_option maxRecDepth 100000 in
set_option maxHeartbeats 1000000 in
theorem tellsBig_any (n : Nat) (x : VT) (D : Value) (w : World) : Calls Try.prog 51 #[.int .u64 (n : Int), vv x D] w fun e w' => e = .returned (.bool (decide (n = 2 ∨ n = 3) && (decide (x.k = 9) && big x.s))) ∧ Below w.heap.size w w' := by
  have HA := Lib.hid (fun o => (Below.refl w.heap.size w).alloc (Nat.le_refl _) o)
  have HG := Lib.hid (fun w => canBig_any x.s w)
  obtain ⟨G, hG⟩ : ∃ G, big x.s = G := ⟨_, rfl⟩
  rw [hG] at HG ⊢
  obtain ⟨xk, hxk⟩ : ∃ k, x.k = k := ⟨_, rfl⟩
  unfold vv
  rw [hxk]
  clear hG hxk
  by_cases h4 : n = 2 ∨ n = 3
  · rw [decide_eq_true h4]
    by_cases h5 : xk = 9
    · subst h5
      rcases h4 with h4 | h4
      all_goals
        subst h4
        go_enter Try.func51, Try.ntmps51
        go_wp2_with fail
        refine (HG.out _).mono ?_
        rintro e w2 ⟨rfl, rfl⟩
        go_wp2_with fail
        cases G
        all_goals
          go_ret
          exact ⟨by simp_all, HA.out _⟩
    · have q5 := ne_int8 (c := xk) (k := 9) h5
      rw [decide_eq_false h5]
      rcases h4 with h4 | h4
      all_goals
        subst h4
        clear h5
        go_enter Try.func51, Try.ntmps51
        go_wp2_with fail
        go_ret
        exact ⟨by simp_all, HA.out _⟩
  · rw [decide_eq_false h4]
    have q1 := ne_int8 (c := (n : Int)) (k := 2) (by omega)
    have q2 := ne_int8 (c := (n : Int)) (k := 3) (by omega)
    clear h4
    go_enter Try.func51, Try.ntmps51
    go_wp2_with fail
    go_ret
    exact ⟨by simp_all, HA.out _⟩
end Go.Proofs.Ytgadpmddbkimfaa.nn
namespace Go.Proofs.Ytgadpmddbkimfaa.nn
open Go.RowKit

/-- are the fields that a value has within the bounds of its kind -/
def wiB (t : VT) : Bool :=
  if t.k = 1 then decide (t.n ≤ 1)
  else if t.k = 3 then decide (t.n ≤ 19 ∨ 32 ≤ t.n ∧ t.n ≤ 255)
  else if t.k = 5 then big t.s
  else if t.k = 6 then decide (t.n < 65536)
  else if t.k = 7 then decide (t.n < 4294967296)
  else if t.k = 10 then decide (ckE (bt t.s) t.s.size = 0)
  else if t.k = 12 then decide (t.l.length % 2 = 0)
  else if t.k = 13 then decide (t.l.length = 1) && !guise t.n t.l
  else if t.k = 14 then decide (t.n ≤ 255)
  else true
theorem drewN_kw {B : Nat} {w W : World} (h : Below B w W) (n : Nat) : Below B w (W.drewN n) := ⟨h.os, h.tape, h.output, h.size, h.block⟩
theorem paE_16 (x : Nat) : decide (paE 16 x = 0) = decide (x < 65536) := by
  by_cases h : x < 65536
  · rw [decide_eq_true h, decide_eq_true]
    unfold paE
    rw [if_pos ⟨by unfold wOk; omega, fun _ => h⟩]
  · rw [decide_eq_false h, decide_eq_false]
    unfold paE
    rw [if_neg (fun h2 => h (h2.2 (by omega)))]
    omega
theorem paE_32 (x : Nat) : decide (paE 32 x = 0) = decide (x < 4294967296) := by
  by_cases h : x < 4294967296
  · rw [decide_eq_true h, decide_eq_true]
    unfold paE
    rw [if_pos ⟨by unfold wOk; omega, fun _ => h⟩]
  · rw [decide_eq_false h, decide_eq_false]
    unfold paE
    rw [if_neg (fun h2 => h (h2.2 (by omega)))]
    omega
set_option maxRecDepth 100000 in
set_option maxHeartbeats 2000000 in
theorem wi_1 (t : VT) (C : Value) (w : World) (hk : t.k = 1) : Calls Try.prog 42 #[vv t C] w fun e w' => e = .returned (.bool (decide (t.n ≤ 1))) ∧ Below w.heap.size w w' := by
  have HA := Lib.hid (fun o => (Below.refl w.heap.size w).alloc (Nat.le_refl _) o)
  unfold vv
  rw [hk]
  clear hk
  by_cases h : t.n ≤ 1
  · rw [decide_eq_true h]
    go_enter Try.func42, Try.ntmps42
    go_wp2_with fail
    go_ret
    exact ⟨by simp <;> omega, HA.out _⟩
  · rw [decide_eq_false h]
    go_enter Try.func42, Try.ntmps42
    go_wp2_with fail
    go_ret
    exact ⟨by simp <;> omega, HA.out _⟩
set_option maxRecDepth 100000 in
set_option maxHeartbeats 2000000 in
theorem wi_3 (t : VT) (C : Value) (w : World) (hk : t.k = 3) : Calls Try.prog 42 #[vv t C] w fun e w' => e = .returned (.bool (decide (t.n ≤ 19 ∨ 32 ≤ t.n ∧ t.n ≤ 255))) ∧ Below w.heap.size w w' := by
  have HA := Lib.hid (fun o => (Below.refl w.heap.size w).alloc (Nat.le_refl _) o)
  unfold vv
  rw [hk]
  clear hk
  by_cases h : t.n ≤ 19
  · rw [decide_eq_true (.inl h)]
    go_enter Try.func42, Try.ntmps42
    go_wp2_with fail
    go_ret
    exact ⟨by simp <;> omega, HA.out _⟩
  · by_cases h2 : 32 ≤ t.n
    · by_cases h3 : t.n ≤ 255
      · rw [decide_eq_true (.inr ⟨h2, h3⟩)]
        go_enter Try.func42, Try.ntmps42
        go_wp2_with fail
        go_ret
        exact ⟨by simp <;> omega, HA.out _⟩
      · rw [decide_eq_false (by omega)]
        go_enter Try.func42, Try.ntmps42
        go_wp2_with fail
        go_ret
        exact ⟨by simp <;> omega, HA.out _⟩
    · rw [decide_eq_false (by omega)]
      go_enter Try.func42, Try.ntmps42
      go_wp2_with fail
      go_ret
      exact ⟨by simp <;> omega, HA.out _⟩
set_option maxRecDepth 100000 in
set_option maxHeartbeats 2000000 in
theorem wi_5 (t : VT) (C : Value) (w : World) (hk : t.k = 5) : Calls Try.prog 42 #[vv t C] w fun e w' => e = .returned (.bool (big t.s)) ∧ Below w.heap.size w w' := by
  have HA := Lib.hid (fun o => (Below.refl w.heap.size w).alloc (Nat.le_refl _) o)
  have HG := Lib.hid (fun w => canBig_any t.s w)
  obtain ⟨G, hG⟩ : ∃ G, big t.s = G := ⟨_, rfl⟩
  rw [hG] at HG ⊢
  unfold vv
  rw [hk]
  clear hk hG
  go_enter Try.func42, Try.ntmps42
  go_wp2_with fail
  refine (HG.out _).mono ?_
  rintro e w2 ⟨rfl, rfl⟩
  go_wp2_with fail
  go_ret
  exact ⟨rfl, HA.out _⟩
set_option maxRecDepth 100000 in
set_option maxHeartbeats 2000000 in
theorem wi_67 (t : VT) (C : Value) (w : World) (hk : t.k = 6 ∨ t.k = 7) (hn : t.n < 18446744073709551616) : Calls Try.prog 42 #[vv t C] w fun e w' => e = .returned (.bool (decide (t.n < if t.k = 6 then 65536 else 4294967296))) ∧ Below w.heap.size w w' := by
  have HB := Lib.hid (fun o W (h : Below (w.alloc o).heap.size (w.alloc o) W) => ((Below.refl w.heap.size w).alloc (Nat.le_refl _) o).trans (h.mono (by simp)))
  rcases hk with hk | hk
  · rw [if_pos hk]
    have HG := Lib.hid (fun w => isFloat_any 16 t.n w hn)
    rw [paE_16] at HG
    obtain ⟨G, hG⟩ : ∃ G, decide (t.n < 65536) = G := ⟨_, rfl⟩
    rw [hG] at HG ⊢
    unfold vv
    rw [hk]
    clear hk hG hn
    go_enter Try.func42, Try.ntmps42
    go_wp2_with fail
    refine (HG.out _).mono ?_
    rintro e w2 ⟨rfl, hb⟩
    have hb2 := Lib.hid (HB.out _ _ hb)
    clear hb
    go_wp2_with fail
    go_ret
    exact ⟨rfl, hb2.out⟩
  · rw [if_neg (by rw [hk]; decide)]
    have HG := Lib.hid (fun w => isFloat_any 32 t.n w hn)
    rw [paE_32] at HG
    obtain ⟨G, hG⟩ : ∃ G, decide (t.n < 4294967296) = G := ⟨_, rfl⟩
    rw [hG] at HG ⊢
    unfold vv
    rw [hk]
    clear hk hG hn
    go_enter Try.func42, Try.ntmps42
    go_wp2_with fail
    refine (HG.out _).mono ?_
    rintro e w2 ⟨rfl, hb⟩
    have hb2 := Lib.hid (HB.out _ _ hb)
    clear hb
    go_wp2_with fail
    go_ret
    exact ⟨rfl, hb2.out⟩
set_option maxRecDepth 100000 in
set_option maxHeartbeats 2000000 in
theorem wi_10 (t : VT) (C : Value) (w : World) (hk : t.k = 10) (hS : t.s.size ≤ maxLen) : Calls Try.prog 42 #[vv t C] w fun e w' => e = .returned (.bool (decide (ckE (bt t.s) t.s.size = 0))) ∧ Below w.heap.size w w' := by
  have HB := Lib.hid (fun o W (h : Below (w.alloc o).heap.size (w.alloc o) W) => ((Below.refl w.heap.size w).alloc (Nat.le_refl _) o).trans (h.mono (by simp)))
  have HG := Lib.hid (fun w => check_any t.s w hS)
  obtain ⟨G, hG⟩ : ∃ G, ckE (bt t.s) t.s.size = G := ⟨_, rfl⟩
  rw [hG] at HG ⊢
  unfold vv
  rw [hk]
  clear hk hG hS
  go_enter Try.func42, Try.ntmps42
  go_wp2_with fail
  refine (HG.out _).mono ?_
  rintro e w2 ⟨rfl, hb⟩
  have hb2 := Lib.hid (HB.out _ _ hb)
  clear hb HG HB
  by_cases h : G = 0
  · subst h
    go_wp2_with fail
    go_ret
    exact ⟨rfl, hb2.out⟩
  · have q := ne_int8 (c := (G : Int)) (k := 0) (by omega)
    have HN := Lib.hid h
    clear h
    go_wp2_with fail
    go_ret
    exact ⟨by rw [decide_eq_false HN.out]; rfl, hb2.out⟩
set_option maxRecDepth 100000 in
set_option maxHeartbeats 2000000 in
theorem wi_12 (t : VT) (w : World) (hk : t.k = 12) (A : Option Addr) (m c : Nat) (hm : m ≤ 4611686018427387904) : Calls Try.prog 42 #[vv t (.slice A m c)] w fun e w' => e = .returned (.bool (decide (m % 2 = 0))) ∧ Below w.heap.size w w' := by
  have HA := Lib.hid (fun o => (Below.refl w.heap.size w).alloc (Nat.le_refl _) o)
  unfold vv
  rw [hk]
  clear hk
  by_cases h4 : m % 2 = 0
  · have q4 : (m : Int) % 2 = 0 := by omega
    rw [decide_eq_true h4]
    go_enter Try.func42, Try.ntmps42
    go_wp2_with fail
    all_goals
      go_ret
      exact ⟨by simp_all <;> omega, HA.out _⟩
  · have q4 : (m : Int) % 2 = 1 := by omega
    rw [decide_eq_false h4]
    go_enter Try.func42, Try.ntmps42
    go_wp2_with fail
    all_goals
      go_ret
      exact ⟨by simp_all <;> omega, HA.out _⟩
set_option maxRecDepth 100000 in
set_option maxHeartbeats 2000000 in
theorem wi_13a (t : VT) (w : World) (hk : t.k = 13) (A : Option Addr) (m c : Nat) (hm : m ≠ 1) : Calls Try.prog 42 #[vv t (.slice A m c)] w fun e w' => e = .returned (.bool false) ∧ Below w.heap.size w w' := by
  have HA := Lib.hid (fun o => (Below.refl w.heap.size w).alloc (Nat.le_refl _) o)
  unfold vv
  rw [hk]
  clear hk
  have q4 := ne_int8 (c := (m : Int)) (k := 1) (by omega)
  go_enter Try.func42, Try.ntmps42
  go_wp2_with fail
  go_quiet (fail)
  go_wp2_with fail
  go_ret
  exact ⟨rfl, drewN_kw (HA.out _) _⟩
set_option maxRecDepth 100000 in
set_option maxHeartbeats 2000000 in
theorem wi_13b (t : VT) (w : World) (hk : t.k = 13) (b off c : Nat) (x : VT) (D : Value) (hb : b < w.heap.size) (hr : Row w b off x D) : Calls Try.prog 42 #[vv t (.slice (some ⟨b, off, none⟩) 1 c)] w fun e w' => e = .returned (.bool (!(decide (t.n = 2 ∨ t.n = 3) && (decide (x.k = 9) && big x.s)))) ∧ Below w.heap.size w w' := by
  have HG := Lib.hid (fun w => tellsBig_any t.n x D w)
  obtain ⟨G, hG⟩ : ∃ G, (decide (t.n = 2 ∨ t.n = 3) && (decide (x.k = 9) && big x.s)) = G := ⟨_, rfl⟩
  rw [hG] at HG ⊢
  clear hG
  obtain ⟨W1, hW1⟩ : ∃ W1, w.alloc (.cells #[.int .i64 13, .bool t.g, .int .u64 (t.n : Int), .string t.s, .slice (some ⟨b, off, none⟩) 1 c] 25) = W1 := ⟨_, rfl⟩
  have hB1 : Below w.heap.size w W1 := by rw [← hW1]; exact (Below.refl w.heap.size w).alloc (Nat.le_refl _) _
  have hz1 : W1.heap.size = w.heap.size + 1 := by rw [← hW1]; simp
  have hR := hr.below hB1 hb
  have q0 := hR.k
  have q1 := hR.g
  have q2 := hR.n
  have q3 := hR.s
  have q4 := hR.l
  have b2 : W1.cell? ⟨w.heap.size, 2, none⟩ = some (.int .u64 (t.n : Int)) := by rw [← hW1]; simp
  have b4 : W1.cell? ⟨w.heap.size, 4, none⟩ = some (.slice (some ⟨b, off, none⟩) 1 c) := by rw [← hW1]; simp
  have HB := Lib.hid (fun W (h : Below W1.drew.heap.size W1.drew W) => hB1.trans (((Below.refl W1.heap.size W1).drew.trans h).mono (show w.heap.size ≤ W1.heap.size by omega)))
  have HW := Lib.hid hW1
  unfold vv at HG ⊢
  rw [hk]
  clear hk hR hr hb hW1 hz1 hB1
  go_enter Try.func42, Try.ntmps42
  go_wp2_with fail
  rw [HW.out]
  go_still_tail 11, (by kernel_rfl)
  change wpList _ _ _ _ _ W1.drew
  go_wp2_with fail
  refine (HG.out _).mono ?_
  rintro e w2 ⟨rfl, hb2⟩
  have B2 := Lib.hid (HB.out _ hb2)
  clear hb2 q0 q1 q2 q3 q4 b2 b4
  go_wp2_with fail
  cases G
  all_goals
    go_ret
    exact ⟨rfl, B2.out⟩
set_option maxRecDepth 100000 in
set_option maxHeartbeats 2000000 in
theorem wi_14 (t : VT) (C : Value) (w : World) (hk : t.k = 14) : Calls Try.prog 42 #[vv t C] w fun e w' => e = .returned (.bool (decide (t.n ≤ 255))) ∧ Below w.heap.size w w' := by
  have HA := Lib.hid (fun o => (Below.refl w.heap.size w).alloc (Nat.le_refl _) o)
  unfold vv
  rw [hk]
  clear hk
  by_cases h : t.n ≤ 255
  · rw [decide_eq_true h]
    go_enter Try.func42, Try.ntmps42
    go_wp2_with fail
    go_ret
    exact ⟨by simp <;> omega, HA.out _⟩
  · rw [decide_eq_false h]
    go_enter Try.func42, Try.ntmps42
    go_wp2_with fail
    go_ret
    exact ⟨by simp <;> omega, HA.out _⟩
set_option maxRecDepth 100000 in
set_option maxHeartbeats 2000000 in
theorem wi_no (t : VT) (C : Value) (w : World) (h1 : t.k ≠ 1) (h3 : t.k ≠ 3) (h5 : t.k ≠ 5) (h6 : t.k ≠ 6) (h7 : t.k ≠ 7) (h10 : t.k ≠ 10) (h12 : t.k ≠ 12) (h13 : t.k ≠ 13) (h14 : t.k ≠ 14) : Calls Try.prog 42 #[vv t C] w fun e w' => e = .returned (.bool true) ∧ Below w.heap.size w w' := by
  have HA := Lib.hid (fun o => (Below.refl w.heap.size w).alloc (Nat.le_refl _) o)
  obtain ⟨k, hk⟩ : ∃ k, t.k = k := ⟨_, rfl⟩
  unfold vv
  rw [hk] at h1 h3 h5 h6 h7 h10 h12 h13 h14 ⊢
  have q1 := ne_int8 h1
  have q3 := ne_int8 h3
  have q5 := ne_int8 h5
  have q6 := ne_int8 h6
  have q7 := ne_int8 h7
  have q10 := ne_int8 h10
  have q12 := ne_int8 h12
  have q13 := ne_int8 h13
  have q14 := ne_int8 h14
  clear hk h1 h3 h5 h6 h7 h10 h12 h13 h14
  go_enter Try.func42, Try.ntmps42
  go_wp2_with fail
  go_ret
  exact ⟨rfl, HA.out _⟩
theorem vwithin_any (t : VT) (C : Value) (w : World) (hS : t.s.size ≤ maxLen) (hn : t.n < 18446744073709551616) (hm : t.l.length ≤ 4611686018427387904) (hC : Lst w C t.l) :
    Calls Try.prog 42 #[vv t C] w fun e w' => e = .returned (.bool (wiB t)) ∧ Below w.heap.size w w' := by
  obtain ⟨A, c, rfl, hlc, hA⟩ := hC.out
  unfold wiB
  by_cases h1 : t.k = 1
  · rw [if_pos h1]; exact wi_1 t _ w h1
  rw [if_neg h1]
  by_cases h3 : t.k = 3
  · rw [if_pos h3]; exact wi_3 t _ w h3
  rw [if_neg h3]
  by_cases h5 : t.k = 5
  · rw [if_pos h5]; exact wi_5 t _ w h5
  rw [if_neg h5]
  by_cases h6 : t.k = 6
  · rw [if_pos h6]
    have := wi_67 t (.slice A t.l.length c) w (.inl h6) hn
    rw [if_pos h6] at this
    exact this
  rw [if_neg h6]
  by_cases h7 : t.k = 7
  · rw [if_pos h7]
    have := wi_67 t (.slice A t.l.length c) w (.inr h7) hn
    rw [if_neg h6] at this
    exact this
  rw [if_neg h7]
  by_cases h10 : t.k = 10
  · rw [if_pos h10]; exact wi_10 t _ w h10 hS
  rw [if_neg h10]
  by_cases h12 : t.k = 12
  · rw [if_pos h12]; exact wi_12 t w h12 A _ c hm
  rw [if_neg h12]
  by_cases h13 : t.k = 13
  · rw [if_pos h13]
    by_cases hl : t.l.length = 1
    · rw [decide_eq_true hl, Bool.true_and]
      rcases hA with ⟨_, h0, _⟩ | ⟨b, off, D, rfl, hb, hrow, _⟩
      · rw [h0] at hl; cases hl
      · obtain ⟨x, hx⟩ : ∃ x, t.l = [x] := List.length_eq_one_iff.1 hl
        have hr := hrow 0 (by omega)
        have e : t.l[0]'(by omega) = x := by simp [hx]
        rw [e] at hr
        have := wi_13b t w h13 b off c x (D 0) hb (by simpa using hr)
        rw [hl, hx]
        exact this
    · rw [decide_eq_false hl, Bool.false_and]
      exact wi_13a t w h13 A _ c hl
  rw [if_neg h13]
  by_cases h14 : t.k = 14
  · rw [if_pos h14]; exact wi_14 t _ w h14
  rw [if_neg h14]
  exact wi_no t _ w h1 h3 h5 h6 h7 h10 h12 h13 h14
end Go.Proofs.Ytgadpmddbkimfaa.nn
namespace Go.Proofs.Ytgadpmddbkimfaa.nn
open Go.RowKit

/-- is a value right but for those within it -/
def rg1 (t : VT) : Bool := oneB t && (!(lf t.k) || decide (t.l.length = 0))
theorem rg1_parts (t : VT) (a b c d : Bool) (h : 0 ≤ t.k ∧ t.k < 15 → a = fdG t.k.toNat ∧ b = fdN t.k.toNat ∧ c = fdS t.k.toNat ∧ d = fdL t.k.toNat) :
    (decide (0 ≤ t.k ∧ t.k < 15) && ((a || !t.g) && (b || nE t) && (c || sE t) && (d || decide (t.l.length = 0))) && wiB t) = rg1 t := by
  by_cases hk : 0 ≤ t.k ∧ t.k < 15
  · obtain ⟨rfl, rfl, rfl, rfl⟩ := h hk
    rw [decide_eq_true hk]
    have hcases : t.k = 0 ∨ t.k = 1 ∨ t.k = 2 ∨ t.k = 3 ∨ t.k = 4 ∨ t.k = 5 ∨ t.k = 6 ∨ t.k = 7 ∨ t.k = 8 ∨ t.k = 9 ∨ t.k = 10 ∨ t.k = 11 ∨ t.k = 12 ∨ t.k = 13 ∨ t.k = 14 := by omega
    obtain ⟨S, hS⟩ : ∃ S, sE t = S := ⟨_, rfl⟩
    obtain ⟨N, hN⟩ : ∃ N, nE t = N := ⟨_, rfl⟩
    obtain ⟨G, hG⟩ : ∃ G, t.g = G := ⟨_, rfl⟩
    obtain ⟨L, hL⟩ : ∃ L, decide (t.l.length = 0) = L := ⟨_, rfl⟩
    rcases hcases with h | h | h | h | h | h | h | h | h | h | h | h | h | h | h <;>
      simp [rg1, oneB, wiB, lf, fdG, fdN, fdS, fdL, h, hS, hN, hG] <;>
      cases S <;> cases N <;> cases G <;> cases L <;> simp [Bool.and_comm]
  · rw [decide_eq_false hk]
    have : oneB t = false := by
      unfold oneB
      rw [if_neg (by omega), if_neg (by omega), if_neg (by omega), if_neg (by omega), if_neg (by omega), if_neg (by omega), if_neg (by omega), if_neg (by omega), if_neg (by omega), if_neg (by omega), if_neg (by omega), if_neg (by omega), if_neg (by omega)]
    simp [rg1, this]
mutual
theorem rgt_rws : ∀ (zs : List Nat) (t : VT), rgt t = (rws zs t).all fun x => rg1 x.2
  | zs, .mk k g n s l => by
    have := rgtL_rws zs 0 l
    simp only [rgt, rws, List.all_cons, this, rg1]
    rfl
theorem rgtL_rws : ∀ (zs : List Nat) (i : Nat) (l : List VT), rgtL l = (rwsL zs i l).all fun x => rg1 x.2
  | _, _, [] => rfl
  | zs, i, t :: r => by
    have h1 := rgt_rws (zs ++ [i]) t
    have h2 := rgtL_rws zs (i + 1) r
    simp only [rgtL, rwsL, List.all_append, h1, h2]
end
mutual
theorem wf_rws : ∀ (zs : List Nat) (t : VT), wfT t → ∀ x ∈ rws zs t, wfT x.2
  | zs, .mk k g n s l, h, x, hx => by
    simp only [rws, List.mem_cons] at hx
    rcases hx with rfl | hx
    · exact h
    · exact wf_rwsL zs 0 l h.2.2.2 x hx
theorem wf_rwsL : ∀ (zs : List Nat) (i : Nat) (l : List VT), wfL l → ∀ x ∈ rwsL zs i l, wfT x.2
  | _, _, [], _, x, hx => by simp [rwsL] at hx
  | zs, i, t :: r, h, x, hx => by
    simp only [rwsL, List.mem_append] at hx
    rcases hx with hx | hx
    · exact wf_rws (zs ++ [i]) t h.1 x hx
    · exact wf_rwsL zs (i + 1) r h.2 x hx
end
mutual
theorem smx_rws : ∀ (zs : List Nat) (t : VT), ∀ x ∈ rws zs t, smx x.2 ≤ smx t ∧ cnt x.2 ≤ cnt t
  | zs, .mk k g n s l, x, hx => by
    simp only [rws, List.mem_cons] at hx
    rcases hx with rfl | hx
    · exact ⟨Nat.le_refl _, Nat.le_refl _⟩
    · have := smx_rwsL zs 0 l x hx
      simp only [smx, cnt]
      omega
theorem smx_rwsL : ∀ (zs : List Nat) (i : Nat) (l : List VT), ∀ x ∈ rwsL zs i l, smx x.2 ≤ smxL l ∧ cnt x.2 ≤ cntL l
  | _, _, [], x, hx => by simp [rwsL] at hx
  | zs, i, t :: r, x, hx => by
    simp only [rwsL, List.mem_append] at hx
    simp only [smxL, cntL]
    rcases hx with hx | hx
    · have := smx_rws (zs ++ [i]) t x hx; omega
    · have := smx_rwsL zs (i + 1) r x hx; omega
end
set_option maxRecDepth 100000 in
set_option maxHeartbeats 2000000 in
theorem isRight_any (t : VT) (C : Value) (w : World) (hS : smx t ≤ maxLen) (hw : wfT t) (hN : cnt t ≤ 4611686018427387904) (hC : Lst w C t.l) :
    Calls Try.prog 24 #[vv t C] w fun e w' => e = .returned (.bool (rg1 t)) ∧ Below w.heap.size w w' := by
  have hs := smx_mk t
  have hcn := cnt_mk t
  have hll := len_cntL t.l
  have hwf := (wfT_mk t).1 hw
  have HW := Lib.hid (fun W (h : Below w.heap.size w W) => vwithin_any t C W (by omega) hwf.2.2.1 (by omega) (hC.keep h (Nat.le_refl _)))
  have HF := Lib.hid (fun W => fields_any t.k W)
  have HP := Lib.hid (fun a b c d h => rg1_parts t a b c d h)
  obtain ⟨A, cc, rfl, _, _⟩ := hC.out
  have HV := Lib.hid (fun a b c d W => cover_any a b c d t A t.l.length cc W (by omega))
  have HB0 := Lib.hid (Box.new w t (.slice A t.l.length cc) 25)
  obtain ⟨R, hR⟩ : ∃ R, rg1 t = R := ⟨_, rfl⟩
  obtain ⟨I, hI⟩ : ∃ I, wiB t = I := ⟨_, rfl⟩
  obtain ⟨m, hm⟩ : ∃ m, t.l.length = m := ⟨_, rfl⟩
  rw [hR, hI] at HP
  rw [hI] at HW
  rw [hm] at HV HB0 HP HW
  rw [hR, hm]
  unfold FdAns at HF
  unfold vv at HV HW ⊢
  clear hs hcn hll hwf hC hw hS hN hR hI hm
  go_enter Try.func24, Try.ntmps24
  go_wp2_with fail
  refine (HF.out _).mono ?_
  rintro e w1 ⟨a, b, c, d, o, rfl, hb1, hf, ho⟩
  have B1 := Lib.hid (HB0.out.on hb1)
  have HF2 := Lib.hid (HP.out a b c d hf)
  rw [← ho] at HF2
  have r0 := B1.out.r.k
  have r1 := B1.out.r.g
  have r2 := B1.out.r.n
  have r3 := B1.out.r.s
  have r4 := B1.out.r.l
  have B2 : Hid (∀ o', Box w t (.slice A m cc) (w1.alloc o')) := Lib.hid fun o' => B1.out.on ((Below.refl _ _).alloc (Nat.le_refl _) o')
  clear hb1 hf ho HF HP HB0
  cases o
  · go_wp2_with fail
    go_ret
    exact ⟨by rw [← HF2.out]; rfl, (B2.out _).b⟩
  · have HV2 := Lib.hid (HV.out a b c d)
    obtain ⟨V, hV⟩ : ∃ V, ((a || !t.g) && (b || nE t) && (c || sE t) && (d || decide (m = 0))) = V := ⟨_, rfl⟩
    rw [hV] at HV2 HF2
    have hq := (B2.out (.cells #[.bool a, .bool b, .bool c, .bool d] 67)).r
    have s0 := hq.k
    have s1 := hq.g
    have s2 := hq.n
    have s3 := hq.s
    have s4 := hq.l
    clear HV hV hq
    go_wp2_with fail
    refine (HV2.out _).mono ?_
    rintro e w2 ⟨rfl, hb2⟩
    have B3 := Lib.hid ((B2.out _).on hb2)
    clear hb2 r0 r1 r2 r3 r4 s0 s1 s2 s3 s4 HV2
    have r0 := B3.out.r.k
    have r1 := B3.out.r.g
    have r2 := B3.out.r.n
    have r3 := B3.out.r.s
    have r4 := B3.out.r.l
    cases V
    · go_wp2_with fail
      go_ret
      exact ⟨by rw [← HF2.out]; rfl, B3.out.b⟩
    · go_wp2_with fail
      refine (HW.out _ B3.out.b).mono ?_
      rintro e w3 ⟨rfl, hb3⟩
      have B4 := Lib.hid (B3.out.on hb3)
      clear hb3 r0 r1 r2 r3 r4
      go_wp2_with fail
      go_ret
      exact ⟨by rw [← HF2.out]; rfl, B4.out.b⟩
end Go.Proofs.Ytgadpmddbkimfaa.nn
namespace Go.Proofs.Ytgadpmddbkimfaa.nn
open Go.RowKit

set_option maxRecDepth 100000 in
theorem vleaf_any (t : VT) (C : Value) (w : World) : Calls Try.prog 43 #[vv t C] w fun e w' => e = .returned (.bool (lf t.k)) ∧ Below w.heap.size w w' := by
  have HB0 := Lib.hid (Box.new w t C 25)
  unfold lf vv
  obtain ⟨k, hk⟩ : ∃ k, t.k = k := ⟨_, rfl⟩
  rw [hk] at HB0 ⊢
  clear hk
  by_cases h1 : k = 11
  · subst h1
    go_enter Try.func43, Try.ntmps43
    go_wp2_with fail
    go_ret
    exact ⟨rfl, HB0.out.b⟩
  · by_cases h2 : k = 12
    · subst h2
      go_enter Try.func43, Try.ntmps43
      go_wp2_with fail
      go_ret
      exact ⟨rfl, HB0.out.b⟩
    · obtain ⟨q1, q1'⟩ := neInt h1
      obtain ⟨q2, q2'⟩ := neInt h2
      by_cases h3 : k = 13
      · subst h3
        go_enter Try.func43, Try.ntmps43
        go_wp2_with fail
        go_ret
        exact ⟨rfl, HB0.out.b⟩
      · obtain ⟨q3, q3'⟩ := neInt h3
        rw [decide_eq_true (And.intro h1 (And.intro h2 h3))]
        clear h1 h2 h3
        go_enter Try.func43, Try.ntmps43
        go_wp2_with fail
        go_ret
        exact ⟨rfl, HB0.out.b⟩
set_option maxRecDepth 100000 in
set_option maxHeartbeats 1000000 in
theorem vdep_any (N : Nat) : ∀ (t : VT) (C : Value) (w : World), cnt t ≤ N → N ≤ 4611686018427387904 → Lst w C t.l →
    Calls Try.prog 25 #[vv t C] w fun e w' => e = .returned (.int .i64 (dep t : Int)) ∧ Below w.heap.size w w' := by
  induction N with
  | zero => intro t C w h _ _; have := cnt_mk t; omega
  | succ N ih =>
    intro t C w hN hM hC
    have hdm := dep_mk t
    have hkk := @vleaf_any t C
    by_cases h5 : t.k = 5
    · rw [if_pos h5] at hdm
      have HB0 := Lib.hid (Box.new w t C 25)
      have HT := Lib.hid hdm
      rw [hdm]
      unfold vv
      rw [h5] at HB0 ⊢
      clear hdm hkk h5
      go_enter Try.func25, Try.ntmps25
      go_wp2_with fail
      go_ret
      exact ⟨rfl, HB0.out.b⟩
    · rw [if_neg h5] at hdm
      obtain ⟨q5, _⟩ := neInt h5
      by_cases hlf : lf t.k = true
      · rw [if_pos hlf] at hdm
        rw [hlf] at hkk
        have HB0 := Lib.hid (Box.new w t C 25)
        have HK := Lib.hid hkk
        rw [hdm]
        unfold vv at HK ⊢
        clear hdm hkk h5 hlf ih
        go_enter Try.func25, Try.ntmps25
        go_wp2_with fail
        refine (HK.out _).mono ?_
        rintro e w2 ⟨rfl, hb2⟩
        have hk2 := Lib.hid (HB0.out.on hb2)
        clear hb2
        go_wp2_with fail
        go_ret
        exact ⟨rfl, hk2.out.b⟩
      · have hlf2 : lf t.k = false := by simpa using hlf
        rw [if_neg hlf] at hdm
        rw [hlf2] at hkk
        have HK := Lib.hid hkk
        have HC := Lib.hid hC
        obtain ⟨A, c, rfl, hlc, hA⟩ := hC.out
        have hcm := cnt_mk t
        obtain ⟨l, hl⟩ : ∃ l, t.l = l := ⟨_, rfl⟩
        rw [hl] at hlc hA hcm HC hdm HK ⊢
        have hll := len_cntL l
        have hdl := depL_le N l (by omega)
        have HB0 := Lib.hid (Box.new w t (.slice A l.length c) 25)
        have HT := Lib.hid hdm
        unfold vv at HK ⊢
        clear hkk hlf hlf2 hdm h5
        go_enter Try.func25, Try.ntmps25
        go_wp2_with fail
        refine (HK.out _).mono ?_
        rintro e w2 ⟨rfl, hb2⟩
        have hk2 := Lib.hid (HB0.out.on hb2)
        clear hb2 q5
        have h4 : w2.cell? ⟨w.heap.size, 4, none⟩ = some (.slice A l.length c) := hk2.out.r.l
        go_wp2_with fail
        go_loopw [3, 16] (fun s3 s4 wr => ∃ i m : Nat, i ≤ l.length ∧ m ≤ N ∧ s3 = .int .i64 (m : Int) ∧ s4 = .int .i64 (i : Int) ∧ Hid (m = depL (l.take i)) ∧ Hid (Box w t (.slice A l.length c) wr)) (fun _ s4 _ => l.length - (intOf s4).toNat)
        case atStart => exact ⟨0, 0, Nat.zero_le _, by omega, rfl, rfl, Lib.hid rfl, hk2⟩
        case round =>
          clear h4
          obtain ⟨i, m, hi, hmN, rfl, rfl, hm, hk⟩ := hrel
          by_cases hlt : i < l.length
          · rcases hA with ⟨_, h0, _⟩ | ⟨b, off, D, rfl, hb, hrow, hkid⟩
            · rw [h0] at hlt; exact absurd hlt (by simp)
            · have hr := hrow i hlt
              have hkl := hkid i hlt
              obtain ⟨A', c', hC', _⟩ := hkl.out
              obtain ⟨n', hn'⟩ : ∃ n', l[i].l.length = n' := ⟨_, rfl⟩
              rw [hn'] at hC'
              obtain ⟨t', ht'⟩ : ∃ t', l[i] = t' := ⟨_, rfl⟩
              rw [ht', hC'] at hr hkl
              have hr2 := hr.below hk.out.b hb
              have r0 := hr2.k
              have r1 := hr2.g
              have r2 := hr2.n
              have r3 := hr2.s
              have r4 := hr2.l
              have hcn := cnt_at hlt
              rw [ht'] at hcn
              have hsum := depL_take_succ hlt
              rw [ht', ← hm.out] at hsum
              have hle := depL_le N (l.take (i + 1)) (Nat.le_trans (cntL_take_le l (i + 1)) (by omega))
              rw [hsum] at hle
              have HI := Lib.hid (fun W (hW : Below wr.heap.size wr W) => ih t' (.slice A' n' c') W (by omega) (by omega) (hkl.keep (hk.out.b.trans (hW.mono (Nat.le_of_lt hk.out.z))) (Nat.le_refl _)))
              obtain ⟨k, hk'⟩ : ∃ k, dep t' = k := ⟨_, rfl⟩
              rw [hk'] at HI hsum hle
              have emax : max (m : Int) (k : Int) = ((max m k : Nat) : Int) := by omega
              obtain ⟨x, hx⟩ : ∃ x, max m k = x := ⟨_, rfl⟩
              rw [hx] at emax hsum hle
              have hm2 : Hid (x = depL (l.take (i + 1))) := Lib.hid hsum.symm
              have hkb : k ≤ x := by omega
              have HAL : Hid (∀ o, Below wr.heap.size wr (wr.alloc o)) := Lib.hid fun o => (Below.refl _ _).alloc (Nat.le_refl _) o
              unfold vv at HI
              clear hr hr2 hkl hrow hkid ht' hC' hn' hcn hsum hk' ih hx
              go_wp2_with fail
              refine (HI.out _ (HAL.out _)).mono ?_
              rintro e w3 ⟨rfl, hb2⟩
              have hk2 := Lib.hid (hk.out.on ((HAL.out _).trans (hb2.mono (HAL.out _).size)))
              clear hb2 r0 r1 r2 r3 r4
              go_wp2_with fail
              go_roundw
              case rel => exact ⟨i + 1, x, hlt, hle, by go_num, by go_num, hm2, hk2⟩
              case measure => simp [intOf]; omega
          · obtain rfl : i = l.length := by omega
            have hmt : (m : Int) + 1 = (dep t : Int) := by rw [HT.out, hm.out, List.take_length]; simp
            have HT := Lib.hid hmt
            clear hmt
            go_wp2_with fail
            go_ret
            exact ⟨by rw [← HT.out]; simp [Int.add_comm], hk.out.b⟩
theorem vdepth_any (t : VT) (C : Value) (w : World) (hN : cnt t ≤ 4611686018427387904) (hC : Lst w C t.l) :
    Calls Try.prog 25 #[vv t C] w fun e w' => e = .returned (.int .i64 (dep t : Int)) ∧ Below w.heap.size w w' := vdep_any _ t C w hN (Nat.le_refl _) hC
end Go.Proofs.Ytgadpmddbkimfaa.nn
namespace Go.Proofs.Ytgadpmddbkimfaa.nn
open Go.RowKit

attribute [local go_sem] Oper.semAt_some
theorem Mv.alloc0 (E O : Nat → Prop) (W : World) (o : Obj) : Mv E O W O (W.alloc o) :=
  ⟨rfl, rfl, rfl, by simp, fun _ h => h, fun _ h => .inl h, fun b hb _ _ => Below.heap_alloc _ _ _ hb⟩
/-- the five cells of a value in a block -/
def Vb (W : World) (B : Nat) (t : VT) (C : Value) : Prop := W.heap[B]? = some (.cells #[.int .i64 t.k, .bool t.g, .int .u64 (t.n : Int), .string t.s, C] 25 (0, 0))
theorem Vb.new (W : World) (t : VT) (C : Value) : Vb (W.alloc (.cells #[.int .i64 t.k, .bool t.g, .int .u64 (t.n : Int), .string t.s, C] 25)) W.heap.size t C := World.alloc_heap_new W _
theorem Vb.row {W : World} {B : Nat} {t : VT} {C : Value} (h : Vb W B t C) : Row W B 0 t C :=
  ⟨cell_of_row W B 0 _ _ _ h, cell_of_row W B 1 _ _ _ h, cell_of_row W B 2 _ _ _ h, cell_of_row W B 3 _ _ _ h, cell_of_row W B 4 _ _ _ h⟩
/-- between two rounds of Check's loop -/
structure CI (w : World) (t : VT) (C : Value) (pre : List (List Nat × VT)) (W : World) : Prop where
  n : Boxed W (w.heap.size + 2) 3 (.int .i64 (pre.length : Int))
  r : Boxed W (w.heap.size + 3) 4 (.bool (pre.all fun x => rg1 x.2))
  e : Boxed W (w.heap.size + 1) 27 (.int .i64 0)
  v : Vb W w.heap.size t C
  m : pre.length ≤ 65536
  b : Below w.heap.size w W
structure CX (w : World) (c : Code) (pre : List (List Nat × VT)) (W : World) : Prop where
  c : c = .ret
  e : Boxed W (w.heap.size + 1) 27 (.int .i64 2)
  m : 65536 < pre.length
  b : Below w.heap.size w W
theorem CI.mv {w : World} {t : VT} {C : Value} {D : Nat} {pre : List (List Nat × VT)} {O O' : Nat → Prop} {W W' : World} (h : CI w t C pre W) (hD : D = w.heap.size + 5) (hb : Wb (D + 2) O W) (hm : Mv (EE D) O W O' W') : CI w t C pre W' :=
  ⟨mv_box h.n hm hb (by omega), mv_box h.r hm hb (by omega), mv_box h.e hm hb (by omega), mv_box h.v hm hb (by omega), h.m, mv_below2 h.b hm hb (by omega) (Nat.le_refl _)⟩
theorem CX.mv {w : World} {D : Nat} {c : Code} {pre : List (List Nat × VT)} {O O' : Nat → Prop} {W W' : World} (h : CX w c pre W) (hD : D = w.heap.size + 5) (hb : Wb (D + 2) O W) (hm : Mv (EE D) O W O' W') : CX w c pre W' :=
  ⟨h.c, mv_box h.e hm hb (by omega), h.m, mv_below2 h.b hm hb (by omega) (Nat.le_refl _)⟩
theorem check_end (t : VT) (w : World) (D n : Nat) (W : World) (a : Act) (g1 : Boxed W (w.heap.size + 1) 27 (.int .i64 (n : Int))) (g2 : W.heap[D]? = some (.deferred (some []))) (hD : D = w.heap.size + 5) (g3 : Below w.heap.size w W)
    (h1 : Hid (chk t = n)) (h2 : a.defers = [{ target := .collected D, args := #[] }]) (h3 : a.tmps[2]? = some (.pointer (some ⟨w.heap.size + 1, 0, none⟩))) :
    bodyPostM Fence.wide 3 Try.prog Try.f14 (fun e w' => e = .returned (.int .i64 (chk t : Int)) ∧ Below w.heap.size w w') .ret a W := by
  obtain ⟨tmps, defers⟩ := a
  simp only at h2 h3
  subst h2
  refine ⟨by simp, .inl ⟨_, _, rfl, run_takeDeferred g2, ?_⟩⟩
  have g4 : (W.putObj D (.deferred none)).cell? ⟨w.heap.size + 1, 0, none⟩ = some (.int .i64 (n : Int)) :=
    (World.cell?_of_block (World.putObj_heap_other (by show w.heap.size + 1 ≠ D; omega))).trans (Boxed.cell g1)
  refine ⟨.int .i64 (n : Int), ?_, by rw [h1.out], g3.trans (belowK_b (w := w) (Nat.le_refl _) _ _ _ _ (by omega) g2 rfl rfl)⟩
  have h5 : tmps[2]?.getD undef = .pointer (some ⟨w.heap.size + 1, 0, none⟩) := by rw [h3]; rfl
  simp [results, Try.results14, go_sem, h5, g4]
set_option maxRecDepth 100000 in
set_option maxHeartbeats 4000000 in
theorem vcheck_any (t : VT) (C : Value) (w : World) (hN : cnt t ≤ 1099511627776) (hS : smx t ≤ maxLen) (hC : Lst w C t.l) (hwf : wfT t) :
    Calls Try.prog 14 #[vv t C] w fun e w' => e = .returned (.int .i64 (chk t : Int)) ∧ Below w.heap.size w w' := by
  have HA := Lib.hid (fun W => all_any t C W)
  obtain ⟨W1, hW1⟩ : ∃ W1, w.alloc (.cells #[.int .i64 t.k, .bool t.g, .int .u64 (t.n : Int), .string t.s, C] 25) = W1 := ⟨_, rfl⟩
  obtain ⟨W2, hW2⟩ : ∃ W2, W1.alloc (.cells #[.int .i64 0] 27) = W2 := ⟨_, rfl⟩
  obtain ⟨W3, hW3⟩ : ∃ W3, W2.alloc (.cells #[.int .i64 0] 3) = W3 := ⟨_, rfl⟩
  obtain ⟨W4, hW4⟩ : ∃ W4, W3.alloc (.cells #[.bool true] 4) = W4 := ⟨_, rfl⟩
  obtain ⟨W5, hW5⟩ : ∃ W5, W4.alloc (.cells #[.int .i64 t.k, .bool t.g, .int .u64 (t.n : Int), .string t.s, C] 25) = W5 := ⟨_, rfl⟩
  have z1 : W1.heap.size = w.heap.size + 1 := by rw [← hW1]; simp
  have z2 : W2.heap.size = w.heap.size + 2 := by rw [← hW2]; simp [z1]
  have z3 : W3.heap.size = w.heap.size + 3 := by rw [← hW3]; simp [z2]
  have z4 : W4.heap.size = w.heap.size + 4 := by rw [← hW4]; simp [z3]
  have z5 : W5.heap.size = w.heap.size + 5 := by rw [← hW5]; simp [z4]
  have B1 : Below w.heap.size w W1 := by rw [← hW1]; exact (Below.refl _ _).alloc (Nat.le_refl _) _
  have B2 : Below W1.heap.size W1 W2 := by rw [← hW2]; exact (Below.refl _ _).alloc (Nat.le_refl _) _
  have B3 : Below W2.heap.size W2 W3 := by rw [← hW3]; exact (Below.refl _ _).alloc (Nat.le_refl _) _
  have B4 : Below W3.heap.size W3 W4 := by rw [← hW4]; exact (Below.refl _ _).alloc (Nat.le_refl _) _
  have B5 : Below W4.heap.size W4 W5 := by rw [← hW5]; exact (Below.refl _ _).alloc (Nat.le_refl _) _
  have hb5 : Below w.heap.size w W5 := B1.trans ((B2.mono (by omega)).trans ((B3.mono (by omega)).trans ((B4.mono (by omega)).trans (B5.mono (by omega)))))
  have V1 : Vb W1 w.heap.size t C := by rw [← hW1]; exact Vb.new w t C
  have V5 : Vb W5 w.heap.size t C := (B5.block _ (by omega)).trans ((B4.block _ (by omega)).trans ((B3.block _ (by omega)).trans ((B2.block _ (by omega)).trans V1)))
  have E2 : Boxed W2 (w.heap.size + 1) 27 (.int .i64 0) := by rw [← hW2, ← z1]; exact Boxed.new W1 _ _
  have E5 : Boxed W5 (w.heap.size + 1) 27 (.int .i64 0) := (B5.block _ (by omega)).trans ((B4.block _ (by omega)).trans ((B3.block _ (by omega)).trans E2))
  have N3 : Boxed W3 (w.heap.size + 2) 3 (.int .i64 0) := by rw [← hW3, ← z2]; exact Boxed.new W2 _ _
  have N5 : Boxed W5 (w.heap.size + 2) 3 (.int .i64 0) := (B5.block _ (by omega)).trans ((B4.block _ (by omega)).trans N3)
  have R4 : Boxed W4 (w.heap.size + 3) 4 (.bool true) := by rw [← hW4, ← z3]; exact Boxed.new W3 _ _
  have R5 : Boxed W5 (w.heap.size + 3) 4 (.bool true) := (B5.block _ (by omega)).trans R4
  have Q5 : Row W5 (w.heap.size + 4) 0 t C := by rw [← hW5, ← z4]; exact (Vb.new W4 t C).row
  have hG := gives_all w t C W5 (w.heap.size + 4) (by omega) Q5 hb5 hC (by omega)
  have hI0 : CI w t C [] W5 := ⟨N5, R5, E5, V5, Nat.zero_le _, hb5⟩
  have HG := Lib.hid (And.intro hG (And.intro hI0 z5))
  have F1 := Lib.hid hW1
  have F2 := Lib.hid hW2
  have F3 := Lib.hid hW3
  have F4 := Lib.hid hW4
  have F5 := Lib.hid hW5
  have HC := Lib.hid hC
  have HWF := Lib.hid (And.intro hwf hS)
  clear hG N3 N5 R4 R5 E2 E5 V1 V5 Q5 B1 B2 B3 B4 B5 hb5 hC hW1 hW2 hW3 hW4 hW5 z1 z2 z3 z4 z5 hI0 hwf hS
  unfold vv at HA ⊢
  refine callsIn_wide.1 (callsIn_of_wp_marks (n := 3) Try.func14 rfl trivial (wpIn_wide.2 ?_) rfl)
  simp only [Try.ntmps14, List.size_toArray, List.length_cons, List.length_nil, Nat.reduceAdd, Nat.reduceSub, Array.replicate_succ, Array.replicate_zero, List.push_toArray, List.append_toArray, List.nil_append, List.cons_append]
  go_wp2_with fail
  refine (HA.out _).mono ?_
  rintro e w' ⟨rfl, rfl⟩
  go_wp2_with fail
  rw [F1.out, F2.out, F3.out, F4.out, F5.out]
  obtain ⟨hG, hI0, z5⟩ := HG.out
  clear HA F1 F2 F3 F4 F5 HG
  refine (wpIn_wide (n := 3)).1 ?_
  refine rf_law (gf := 38) (lb := #[.pointer (some ⟨w.heap.size + 4, 0, none⟩)]) rfl (enters_of Try.func38 (by kernel_rfl) rfl) hG (by omega) (fun _ _ _ _ h => args2 h)
    (fun pre _ W => CI w t C pre W) (CX w)
    (fun pre O W O' W' h hb hm => h.mv z5 hb hm) (fun c pre W O' W' h hm => h.mv z5 (Wb.no _ _) hm) hI0
    (fun x _ a' W => ∃ v A' n' c' Bx, a' = { tmps := #[.agg #[.int .i64 t.k, .bool t.g, .int .u64 (t.n : Int), .string t.s, C], .pointer (some ⟨w.heap.size, 0, none⟩), .pointer (some ⟨w.heap.size + 1, 0, none⟩), .pointer (some ⟨w.heap.size + 2, 0, none⟩), .pointer (some ⟨w.heap.size + 3, 0, none⟩), undef, .pointer (some ⟨Bx, 0, none⟩), .agg #[.int .i64 t.k, .bool t.g, .int .u64 (t.n : Int), .string t.s, C], .func (.func 38) #[] #[.pointer (some ⟨w.heap.size + 4, 0, none⟩)], v, vv x.2 (.slice A' n' c'), undef, undef, undef, undef, undef, undef, undef, undef, undef, undef, undef, undef, undef, undef, undef, undef], defers := [] } ∧ W5.heap.size + 2 ≤ Bx ∧ Vb W Bx x.2 (.slice A' n' c') ∧ Lst w (.slice A' n' c') x.2.l)
    (fun x O a' W o h hb => by
      obtain ⟨v, A', n', c', Bx, h1, h2, h3, h4⟩ := h
      exact ⟨v, A', n', c', Bx, h1, h2, (World.putObj_heap_other (by omega)).trans h3, h4⟩) ?assign ?body ?done ?stop
  case assign =>
    intro l pre x O W args K hI hb hs ha hK
    obtain ⟨v, C', rfl, hp, ho, hl⟩ := ha
    obtain ⟨A', c', hC', _⟩ := hl.out
    obtain ⟨n', hn'⟩ : ∃ n', x.2.l.length = n' := ⟨_, rfl⟩
    rw [hn'] at hC'
    subst hC'
    obtain ⟨W', hW'⟩ : ∃ W', W.alloc (.cells #[.int .i64 x.2.k, .bool x.2.g, .int .u64 (x.2.n : Int), .string x.2.s, .slice A' n' c'] 25) = W' := ⟨_, rfl⟩
    have hV : Vb W' W.heap.size x.2 (.slice A' n' c') := by rw [← hW']; exact Vb.new W x.2 _
    have hB : Below W.heap.size W W' := by rw [← hW']; exact (Below.refl _ _).alloc (Nat.le_refl _) _
    have hm : Mv (EE W5.heap.size) O W O W' := by rw [← hW']; exact Mv.alloc0 _ _ _ _
    have := hK _ W' ⟨hB.mono (by omega), fun b h => hB.block b (hb b h).2⟩ (hB.block _ (by omega)) (hB.block _ (by omega)) (hI.mv z5 hb hm) ⟨v, A', n', c', W.heap.size, rfl, hs, hV, hl⟩
    have HT := Lib.hid this
    have HW' := Lib.hid hW'
    clear hK hI hb hs hp ho hG hI0 z5 this hV hB hm hl hn' hW'
    unfold vv
    gi_wp2
    have HT2 := HT.out
    rw [← HW'.out] at HT2
    simpa [vv] using HT2
  case body =>
    rintro l pre x O a' W hI hb hs ⟨v, A', n', c', Bx, rfl, hBx, hV, hl⟩ ⟨q, hq⟩
    have hmem : x ∈ rws [] t := by rw [hq]; simp
    have hsm := smx_rws [] t x hmem
    have hwx := wf_rws [] t HWF.out.1 x hmem
    have HR := Lib.hid (fun W' (h : Below w.heap.size w W') => isRight_any x.2 (.slice A' n' c') W' (Nat.le_trans hsm.1 HWF.out.2) hwx (by omega) (hl.keep h (Nat.le_refl _)))
    obtain ⟨I, hIx⟩ : ∃ I, rg1 x.2 = I := ⟨_, rfl⟩
    rw [hIx] at HR
    obtain ⟨m, hm⟩ : ∃ m, pre.length = m := ⟨_, rfl⟩
    obtain ⟨R, hR⟩ : ∃ R, pre.all (fun x => rg1 x.2) = R := ⟨_, rfl⟩
    have hn := hI.n
    have hr := hI.r
    rw [hm] at hn
    rw [hR] at hr
    have hle : m ≤ 65536 := by rw [← hm]; exact hI.m
    have c2 := hn.cell
    have f2 := hn.frozen
    have f1 := hI.e.frozen
    have c1 := hI.e.cell
    have c3 := hr.cell
    have f3 := hr.frozen
    have HK := Lib.hid (And.intro hm (And.intro hR (And.intro hIx (And.intro hI (And.intro hb (And.intro hs (And.intro hBx (And.intro hV z5))))))))
    have hne1 : ¬ Bx = w.heap.size + 2 := by omega
    have x0 : ∀ u, (W.setCell ⟨w.heap.size + 2, 0, none⟩ u).cell? ⟨Bx, 0, none⟩ = some (.int .i64 x.2.k) := fun u => (World.cell?_of_block (Below.heap_setCell _ _ _ _ hne1)).trans hV.row.k
    have x1 : ∀ u, (W.setCell ⟨w.heap.size + 2, 0, none⟩ u).cell? ⟨Bx, 1, none⟩ = some (.bool x.2.g) := fun u => (World.cell?_of_block (Below.heap_setCell _ _ _ _ hne1)).trans hV.row.g
    have x2 : ∀ u, (W.setCell ⟨w.heap.size + 2, 0, none⟩ u).cell? ⟨Bx, 2, none⟩ = some (.int .u64 (x.2.n : Int)) := fun u => (World.cell?_of_block (Below.heap_setCell _ _ _ _ hne1)).trans hV.row.n
    have x3 : ∀ u, (W.setCell ⟨w.heap.size + 2, 0, none⟩ u).cell? ⟨Bx, 3, none⟩ = some (.string x.2.s) := fun u => (World.cell?_of_block (Below.heap_setCell _ _ _ _ hne1)).trans hV.row.s
    have x4 : ∀ u, (W.setCell ⟨w.heap.size + 2, 0, none⟩ u).cell? ⟨Bx, 4, none⟩ = some (.slice A' n' c') := fun u => (World.cell?_of_block (Below.heap_setCell _ _ _ _ hne1)).trans hV.row.l
    clear hm hR hIx hI hb hs hBx hV z5 hsm hwx hmem hq hG hI0 hl hn hr hne1
    unfold vv at HR ⊢
    by_cases hbr : m = 65536
    · subst hbr
      gi_wp2
      obtain ⟨hm, hR, hIx, hI, hb, hs, hBx, hV, z5⟩ := HK.out
      have k1 := kr_set (n₀ := w.heap.size) (.int .i64 65537) hb (B := w.heap.size + 2) (by omega) (by omega)
      have hb1 := hb.keep k1.1.b.size
      have k2 := kr_set (n₀ := w.heap.size) (.int .i64 2) hb1 (B := w.heap.size + 1) (by omega) (by omega)
      refine ⟨⟨k2.2.1.trans k1.2.1, k2.2.2.trans k1.2.2⟩, rfl, ?_, by simp [hm], hI.b.trans (k1.1.b.trans k2.1.b)⟩
      exact Boxed.set _ (hI.e.other (by omega) _)
    · have hgt : (m : Int) + 1 ≤ 65536 := by omega
      have hz0 : 0 ≤ (m : Int) := by omega
      obtain ⟨z, hz⟩ : ∃ z : Int, (m : Int) = z := ⟨_, rfl⟩
      have HZ := Lib.hid hz
      rw [hz] at c2 hgt hz0
      clear hz hbr hle
      cases R
      · gi_wp2
        refine ⟨trivial, ?_⟩
        gi_wp2
        obtain ⟨hm, hR, hIx, hI, hb, hs, hBx, hV, z5⟩ := HK.out
        have k1 := kr_set (n₀ := w.heap.size) (.int .i64 (z + 1)) hb (B := w.heap.size + 2) (by omega) (by omega)
        have hb1 := hb.keep k1.1.b.size
        have k2 := kr_set (n₀ := w.heap.size) (.bool false) hb1 (B := w.heap.size + 3) (by omega) (by omega)
        refine ⟨⟨k1.1.trans k2.1, k2.2.1.trans k1.2.1, k2.2.2.trans k1.2.2⟩, ?_⟩
        refine ⟨?_, ?_, ?_, ?_, by rw [List.length_append, hm]; have := HZ.out; simp; omega, hI.b.trans (k1.1.b.trans k2.1.b)⟩
        · have := Boxed.set (.int .i64 (z + 1)) hI.n
          have e : (((pre ++ [x]).length : Nat) : Int) = z + 1 := by rw [List.length_append, hm, ← HZ.out]; rfl
          rw [e]
          exact this.other (by omega) _
        · have e : ((pre ++ [x]).all fun x => rg1 x.2) = false := by rw [List.all_append, hR]; rfl
          rw [e]
          exact Boxed.set _ (hI.r.other (by omega) _)
        · exact (hI.e.other (by omega) _).other (by omega) _
        · exact (Below.heap_setCell _ _ _ _ (by show w.heap.size ≠ w.heap.size + 3; omega)).trans ((Below.heap_setCell _ _ _ _ (by show w.heap.size ≠ w.heap.size + 2; omega)).trans hI.v)
      · have HB1 : Hid (Below w.heap.size w (W.setCell ⟨w.heap.size + 2, 0, none⟩ (.int .i64 (z + 1)))) := Lib.hid (HK.out.2.2.2.1.b.setCell (p := ⟨w.heap.size + 2, 0, none⟩) (by show w.heap.size ≤ w.heap.size + 2; omega) _)
        gi_wp2
        refine ⟨trivial, (CallsIn.inRound l (callsIn_wide.2 (HR.out _ HB1.out))).mono ?_⟩
        rintro e w3 ⟨rfl, hb3⟩
        have HC3 : Hid (∀ b, b < W.heap.size → b ≠ w.heap.size + 2 → w3.heap[b]? = W.heap[b]?) := Lib.hid fun b hb hne => by
          rw [hb3.block b (by simpa [World.setCell] using hb)]
          exact Below.heap_setCell _ _ _ _ hne
        have d3 : w3.cell? ⟨w.heap.size + 3, 0, none⟩ = some (.bool true) := (World.cell?_of_block (HC3.out (w.heap.size + 3) HK.out.2.2.2.1.r.lt (by omega))).trans c3
        have g3 : w3.frozen? ⟨w.heap.size + 3, 0, none⟩ = false := (World.frozen?_of_block (HC3.out (w.heap.size + 3) HK.out.2.2.2.1.r.lt (by omega))).trans f3
        have H3 := Lib.hid hb3
        clear hb3 c1 c2 c3 f1 f2 f3 x0 x1 x2 x3 x4
        gi_wp2
        obtain ⟨hm, hR, hIx, hI, hb, hs, hBx, hV, z5⟩ := HK.out
        have k1 := kr_set (n₀ := w.heap.size) (.int .i64 (z + 1)) hb (B := w.heap.size + 2) (by omega) (by omega)
        have hb1 := hb.keep k1.1.b.size
        have k3 : Kr w.heap.size O (W.setCell ⟨w.heap.size + 2, 0, none⟩ (.int .i64 (z + 1))) w3 := ⟨H3.out.mono (by have := k1.1.b.size; omega), fun b h => H3.out.block b (hb1 b h).2⟩
        have hb3 := hb1.keep k3.b.size
        have k2 := kr_set (n₀ := w.heap.size) (.bool I) hb3 (B := w.heap.size + 3) (by omega) (by omega)
        have hz1 := k1.1.b.size
        refine ⟨⟨(k1.1.trans k3).trans k2.1, k2.2.1.trans ((H3.out.block _ (by omega)).trans k1.2.1), k2.2.2.trans ((H3.out.block _ (by omega)).trans k1.2.2)⟩, ?_⟩
        refine ⟨?_, ?_, ?_, ?_, by rw [List.length_append, hm]; have := HZ.out; simp; omega, hI.b.trans (k1.1.b.trans (k3.b.trans k2.1.b))⟩
        · have hx := Boxed.set (.int .i64 (z + 1)) hI.n
          have e : (((pre ++ [x]).length : Nat) : Int) = z + 1 := by rw [List.length_append, hm, ← HZ.out]; rfl
          rw [e]
          exact Boxed.other ((H3.out.block _ hx.lt).trans hx) (by omega) _
        · have e : ((pre ++ [x]).all fun x => rg1 x.2) = I := by rw [List.all_append, hR]; simp [hIx]
          rw [e]
          exact Boxed.set _ ((HC3.out _ hI.r.lt (by omega)).trans hI.r)
        · exact Boxed.other ((HC3.out _ hI.e.lt (by omega)).trans hI.e) (by omega) _
        · exact (Below.heap_setCell _ _ _ _ (by show w.heap.size ≠ w.heap.size + 3; omega)).trans ((HC3.out _ (Array.getElem?_eq_some_iff.1 hI.v).1 (by omega)).trans hI.v)
  case done =>
    rintro O W hI hK
    have hrow := hI.v.row
    have q0 := hrow.k
    have q1 := hrow.g
    have q2 := hrow.n
    have q3 := hrow.s
    have q4 := hrow.l
    have hcn : cnt t ≤ 65536 := by have := hI.m; rw [rws_len] at this; exact this
    have hr := hI.r
    rw [← rgt_rws [] t] at hr
    have HD := Lib.hid (fun W' (h : Below w.heap.size w W') => vdepth_any t C W' (by omega) (HC.out.keep h (Nat.le_refl _)))
    have HH : Hid (chk t = if 64 < dep t then 2 else if rgt t then 0 else 9) := Lib.hid (by unfold chk; by_cases h : 64 < dep t <;> simp [h]; omega)
    obtain ⟨d, hd⟩ : ∃ d, dep t = d := ⟨_, rfl⟩
    obtain ⟨R, hR⟩ : ∃ R, rgt t = R := ⟨_, rfl⟩
    have hdb := dep_le t
    rw [hd] at HD HH hdb
    rw [hR] at HH hr
    have HK := Lib.hid (And.intro hK (And.intro hI (And.intro hr z5)))
    have HB := Lib.hid hI.b
    clear hK hG hI0 z5 hI hr hrow hd hR
    unfold vv at HD
    go_wp2_with fail
    refine (HD.out _ HB.out).mono ?_
    rintro e w3 ⟨rfl, hb3⟩
    have H3 := Lib.hid hb3
    have hE := (hb3.block _ HK.out.2.1.e.lt).trans HK.out.2.1.e
    have hRR := (hb3.block _ HK.out.2.2.1.lt).trans HK.out.2.2.1
    have c1 := Boxed.cell hE
    have f1 := Boxed.frozen hE
    have c3 := Boxed.cell hRR
    have hKK : w3.heap[W5.heap.size]? = some (.deferred (some [])) := (hb3.block _ (Array.getElem?_eq_some_iff.1 HK.out.1).1).trans HK.out.1
    have HKK := Lib.hid (And.intro hKK (And.intro hE (And.intro HK.out.2.2.2 (HB.out.trans (hb3.mono HB.out.size)))))
    clear hb3 hE hRR hKK q0 q1 q2 q3 q4 HD
    have hend : ∀ (n : Nat) (a : Act), Hid (chk t = n) → a.defers = [{ target := .collected W5.heap.size, args := #[] }] → a.tmps[2]? = some (.pointer (some ⟨w.heap.size + 1, 0, none⟩)) →
        bodyPostM Fence.wide 3 Try.prog Try.f14 (fun e w' => e = .returned (.int .i64 (chk t : Int)) ∧ Below w.heap.size w w') .ret a (w3.setCell ⟨w.heap.size + 1, 0, none⟩ (.int .i64 (n : Int))) := fun n a h1 h2 h3 =>
      check_end t w W5.heap.size n _ a (Boxed.set _ HKK.out.2.1) ((Below.heap_setCell _ _ _ _ (by have := HKK.out.2.2.1; show W5.heap.size ≠ w.heap.size + 1; omega)).trans HKK.out.1) HKK.out.2.2.1 (HKK.out.2.2.2.setCell (p := ⟨w.heap.size + 1, 0, none⟩) (by show w.heap.size ≤ w.heap.size + 1; omega) _) h1 h2 h3
    have HEND := Lib.hid hend
    clear hend
    by_cases h64 : 64 < d
    · have H2 : Hid (chk t = 2) := Lib.hid (by rw [HH.out, if_pos h64])
      go_wp2_with fail
      exact HEND.out 2 _ H2 rfl rfl
    · cases R
      · have H2 : Hid (chk t = 9) := Lib.hid (by rw [HH.out, if_neg h64]; rfl)
        go_wp2_with fail
        exact HEND.out 9 _ H2 rfl rfl
      · have H2 : Hid (chk t = 0) := Lib.hid (by rw [HH.out, if_neg h64]; rfl)
        go_wp2_with fail
        exact HEND.out 0 _ H2 rfl rfl
  case stop =>
    rintro c pre W ⟨q, hq⟩ ⟨rfl, he, hm, hB⟩ hK
    have hc2 : chk t = 2 := by
      have h1 := congrArg List.length hq
      rw [rws_len, List.length_append] at h1
      unfold chk
      rw [if_pos (.inr (by omega))]
    have HX := Lib.hid (And.intro he (And.intro hK (And.intro z5 (And.intro hB hc2))))
    clear he hm hB hK z5 hc2 hq hG hI0
    gi_wp2
    obtain ⟨he, hK, z5, hB, hc2⟩ := HX.out
    exact check_end t w W5.heap.size 2 W _ he hK z5 hB (Lib.hid hc2) rfl rfl
end Go.Proofs.Ytgadpmddbkimfaa.nn
namespace Go.Proofs.Ytgadpmddbkimfaa.nn
open Go.RowKit

theorem pchk_parts {t : VT} (h : chk t = 0) : dep t ≤ 64 ∧ cnt t ≤ 65536 ∧ rgt t = true := by
  unfold chk at h
  by_cases h1 : 64 < dep t ∨ 65536 < cnt t
  · rw [if_pos h1] at h; cases h
  · rw [if_neg h1] at h
    cases hr : rgt t with
    | true => exact ⟨by omega, by omega, rfl⟩
    | false => rw [hr] at h; cases h
/-- what Encode answers -/
def EpAns (t : VT) (w : World) (e : Ending) (w' : World) : Prop :=
  ∃ A c, e = .returned (.tuple #[.slice A (epL t).length c, .int .i64 (epE t : Int)]) ∧ (epL t).length ≤ c ∧ c ≤ maxLen ∧ Rd w' .u8 A (epL t).length (gL (epL t)) ∧ Below w.heap.size w w'
set_option maxRecDepth 100000 in
set_option maxHeartbeats 4000000 in
theorem pencode_any (t : VT) (C : Value) (w : World) (hN : cnt t ≤ 1099511627776) (hS : smx t ≤ maxLen) (hC : Lst w C t.l) (hwf : wfT t) (hle : (pkB t).length + 60 ≤ 140737488355328) :
    Calls Try.prog 6 #[vv t C] w (EpAns t w) := by
  obtain ⟨Ac, mc, cc, rfl⟩ : ∃ A m c, C = .slice A m c := by obtain ⟨a, b, e, _⟩ := hC.out; exact ⟨a, _, b, e⟩
  have HX := Box.new w t (.slice Ac mc cc) 25
  have HX0 := Lib.hid HX
  have HCK : Hid (∀ W, Box w t (.slice Ac mc cc) W → Calls Try.prog 14 #[vv t (.slice Ac mc cc)] W fun e w' => e = .returned (.int .i64 (chk t : Int)) ∧ Box w t (.slice Ac mc cc) w') := Lib.hid fun W hW => (vcheck_any t _ W hN hS (hC.keep hW.b (Nat.le_refl _)) hwf).mono fun e w' ⟨h1, h2⟩ => ⟨h1, hW.on h2⟩
  have HIT : Hid (chk t = 0 → ∀ W, Box w t (.slice Ac mc cc) W → Calls Try.prog 15 #[.pointer (some ⟨W.heap.size, 0, none⟩), vv t (.slice Ac mc cc)] (W.alloc (.cells #[.slice none 0 0] 45)) (ItP w.heap.size W.heap.size (pkB t) (say t) (W.alloc (.cells #[.slice none 0 0] 45)))) := Lib.hid fun hc W hW => by
    obtain ⟨_, _, hr⟩ := pchk_parts hc
    have hsz : w.heap.size ≤ W.heap.size := Nat.le_of_lt hW.z
    have := itp_any w W.heap.size (cnt t) t (Nat.le_refl _) hN hr hwf (.slice Ac mc cc) [] (W.alloc (.cells #[.slice none 0 0] 45)) hC (hW.b.alloc hsz _) ⟨.slice none 0 0, hsz, heap_alloc_last _ _, World.ownsRow_nil _ _ _ _⟩ (by simp; omega)
    rw [List.nil_append] at this
    exact this
  have HBC : Hid (∀ W, Box w t (.slice Ac mc cc) W → W.cell? ⟨w.heap.size, 0, none⟩ = some (.int .i64 t.k) ∧ W.cell? ⟨w.heap.size, 1, none⟩ = some (.bool t.g) ∧ W.cell? ⟨w.heap.size, 2, none⟩ = some (.int .u64 (t.n : Int)) ∧ W.cell? ⟨w.heap.size, 3, none⟩ = some (.string t.s) ∧ W.cell? ⟨w.heap.size, 4, none⟩ = some (.slice Ac mc cc)) := Lib.hid fun W hW => ⟨hW.r.k, hW.r.g, hW.r.n, hW.r.s, hW.r.l⟩
  have HEN : Hid (epL t = (if chk t = 0 ∧ say t = true then pkB t else []) ∧ epE t = (if chk t = 0 then (if say t then 0 else 10) else chk t)) := Lib.hid ⟨rfl, rfl⟩
  unfold EpAns
  obtain ⟨L, hL⟩ : ∃ L, epL t = L := ⟨_, rfl⟩
  obtain ⟨E, hE⟩ : ∃ E, epE t = E := ⟨_, rfl⟩
  obtain ⟨X, hX⟩ : ∃ X, say t = X := ⟨_, rfl⟩
  obtain ⟨I, hI⟩ : ∃ I, pkB t = I := ⟨_, rfl⟩
  obtain ⟨ck, hck⟩ : ∃ ck, chk t = ck := ⟨_, rfl⟩
  rw [hL, hE, hX, hI, hck] at HEN
  rw [hX, hI, hck] at HIT
  rw [hck] at HCK
  rw [hL, hE]
  have HBB : Hid (∀ W, Box w t (.slice Ac mc cc) W → Below w.heap.size w W ∧ w.heap.size ≤ W.heap.size) := Lib.hid fun W hW => ⟨hW.b, Nat.le_of_lt hW.z⟩
  unfold vv at HCK HIT ⊢
  clear hL hE hX hI hck hN hS hC hwf hle HX
  obtain ⟨c0, c1, c2, c3, c4⟩ := HBC.out _ HX0.out
  go_enter Try.func6, Try.ntmps6
  go_wp2_with fail
  refine (HCK.out _ HX0.out).mono ?_
  rintro e w3 ⟨rfl, hb3⟩
  have HB3 := Lib.hid hb3
  clear hb3 c0 c1 c2 c3 c4 HX0
  obtain ⟨c0, c1, c2, c3, c4⟩ := HBC.out _ HB3.out
  by_cases hc : ck = 0
  · subst hc
    obtain ⟨c0', c1', c2', c3', c4'⟩ := HBC.out _ (HB3.out.on ((Below.refl _ _).alloc (Nat.le_refl _) (.cells #[.slice none 0 0] 45)))
    have HI2 := Lib.hid (HIT.out rfl _ HB3.out)
    have HB4 := Lib.hid (HBB.out _ HB3.out)
    clear HCK HIT HBC HBB
    go_wp2_with fail
    refine HI2.out.mono ?_
    rintro e w5 ⟨⟨h2a, h2b⟩, ⟨hx, rfl, h2c⟩ | ⟨hx, rfl⟩⟩
    · obtain ⟨v, hv⟩ := h2c
      have d0 := hv.c0
      obtain ⟨A, c, rfl, h8, h9, h10⟩ := rd_list rfl hv.2.2
      have HG := Lib.hid (And.intro h8 (And.intro h9 h10))
      have HB5 : Hid (Below w.heap.size w w5) := Lib.hid ((HB4.out.1.alloc HB4.out.2 _).trans h2a)
      have HL : Hid (L = I ∧ E = 0) := Lib.hid (by have h7 := HEN.out; simp [hx] at h7; exact h7)
      clear h2a h2b hv h8 h9 h10 hx HI2 HEN c0 c1 c2 c3 c4 c0' c1' c2' c3' c4'
      go_wp2_with fail
      refine bodyPost_ret (v := .tuple #[.slice A I.length c, .int .i64 0]) (by simp [results, Try.results6, go_sem]) rfl ⟨A, c, ?_, ?_, HG.out.2.1, ?_, HB5.out⟩
      · rw [HL.out.1, HL.out.2]; rfl
      · rw [HL.out.1]; exact HG.out.1
      · rw [HL.out.1]; exact HG.out.2.2
    · have HB5 : Hid (Below w.heap.size w w5) := Lib.hid ((HB4.out.1.alloc HB4.out.2 _).trans h2a)
      have HL : Hid (L = [] ∧ E = 10) := Lib.hid (by have h7 := HEN.out; simp [hx] at h7; exact h7)
      clear h2a h2b hx HI2 HEN c0 c1 c2 c3 c4 c0' c1' c2' c3' c4'
      go_wp2_with fail
      refine bodyPost_ret (v := .tuple #[.slice none 0 0, .int .i64 10]) (by simp [results, Try.results6, go_sem]) rfl ⟨none, 0, ?_, ?_, ?_, ?_, HB5.out⟩
      · rw [HL.out.1, HL.out.2]; rfl
      · rw [HL.out.1]; exact Nat.le_refl _
      · unfold maxLen; omega
      · rw [HL.out.1]; exact Rd.none_
  · have hne : ((ck : Int) != 0) = true := by simp; omega
    have HQ := Lib.hid (HBB.out _ HB3.out).1
    have HL : Hid (L = [] ∧ E = ck) := Lib.hid ⟨by rw [HEN.out.1, if_neg (by omega)], by rw [HEN.out.2, if_neg hc]⟩
    clear HCK HIT HBC HBB c0 c1 c2 c3 c4 hc HEN
    go_wp2_with fail
    refine bodyPost_ret (v := .tuple #[.slice none 0 0, .int .i64 (ck : Int)]) (by simp [results, Try.results6, go_sem]) rfl ⟨none, 0, ?_, ?_, ?_, ?_, HQ.out⟩
    · rw [HL.out.1, HL.out.2]; rfl
    · rw [HL.out.1]; exact Nat.le_refl _
    · unfold maxLen; omega
    · rw [HL.out.1]; exact Rd.none_
/-- Encode of no value -/
theorem epN : epL (.mk 0 false 0 ⟨#[]⟩ []) = [192] ∧ epE (.mk 0 false 0 ⟨#[]⟩ []) = 0 := by decide +kernel
set_option maxRecDepth 100000 in
set_option maxHeartbeats 1000000 in
theorem awake13 (w : World) : Calls Try.prog 8 #[] w fun e w' => e = .returned (.bool true) ∧ Below w.heap.size w w' := by
  have hC := pencode_any (.mk 0 false 0 ⟨#[]⟩ []) (.slice none 0 0) w (by decide) (by decide) .nil_ ⟨by decide, by decide, by decide, trivial⟩ (by decide +kernel)
  unfold EpAns at hC
  rw [epN.1, epN.2] at hC
  have HC : Hid (Calls Try.prog 6 #[.agg #[.int .i64 0, .bool false, .int .u64 0, .string ⟨#[]⟩, .slice none 0 0]] w fun e w' => ∃ (b off : Nat) (c : Nat), e = .returned (.tuple #[.slice (some ⟨b, off, none⟩) 1 c, .int .i64 0]) ∧ w'.cell? ⟨b, off, none⟩ = some (.int .u8 192) ∧ Below w.heap.size w w') := Lib.hid (hC.mono fun e w' ⟨A, c, he, _, _, hr, hb⟩ => by
    obtain ⟨b, off, rfl, _, hc⟩ := hr (by decide)
    exact ⟨b, off, c, he, hc 0 (by decide), hb⟩)
  clear hC
  go_enter Try.func8, Try.ntmps8
  go_wp2_with fail
  refine HC.out.mono ?_
  rintro e w' ⟨b, off, c, rfl, q0, hb⟩
  have HB := Lib.hid hb
  clear hb
  go_wp2_with fail
  go_ret
  exact ⟨rfl, HB.out⟩
end Go.Proofs.Ytgadpmddbkimfaa.nn
namespace Go.Proofs.Ytgadpmddbkimfaa.nn
open Go.RowKit

/-- a map of two -/
def twoM (t u : VT) : VT := .mk 12 false 0 ⟨#[]⟩ [t, u]
theorem epE_zero {t : VT} : epE t = 0 ↔ chk t = 0 ∧ say t = true := by
  unfold epE
  by_cases h : chk t = 0
  · rw [if_pos h]
    cases say t <;> simp [h]
  · rw [if_neg h]
    simp [h]
theorem twoM_ok {t u : VT} (h : epE (twoM t u) = 0) : epE t = 0 ∧ epE u = 0 := by
  obtain ⟨h1, h2⟩ := epE_zero.1 h
  obtain ⟨d, c, r⟩ := pchk_parts h1
  have hd : dep (twoM t u) = max (dep t) (max (dep u) 0) + 1 := rfl
  have hc : cnt (twoM t u) = cnt t + (cnt u + 0) + 1 := rfl
  have hx : say (twoM t u) = (true && (say t && (say u && true))) := rfl
  have hr : rgt (twoM t u) = (oneB (twoM t u) && (!(lf 12) || decide ((2 : Nat) = 0)) && (rgt t && (rgt u && true))) := rfl
  rw [hr] at r
  rw [hx] at h2
  simp only [Bool.and_eq_true] at r h2
  rw [hd] at d
  rw [hc] at c
  refine ⟨epE_zero.2 ⟨?_, h2.2.1⟩, epE_zero.2 ⟨?_, h2.2.2.1⟩⟩
  · unfold chk
    rw [if_neg (by omega), if_pos r.2.1]
  · unfold chk
    rw [if_neg (by omega), if_pos r.2.2.1]
theorem epL_zero {t : VT} (h : epE t = 0) : epL t = pkB t := by unfold epL; rw [if_pos (epE_zero.1 h)]
theorem epL_no {t : VT} (h : epE t ≠ 0) : epL t = [] := by unfold epL; rw [if_neg (fun h2 => h (epE_zero.2 h2))]
theorem twoM_text {t u : VT} (h : epE (twoM t u) = 0) : (⟨(epL (twoM t u)).toArray⟩ : ByteArray) = (⟨#[129]⟩ : ByteArray) ++ ⟨(epL t).toArray⟩ ++ ⟨(epL u).toArray⟩ := by
  obtain ⟨h1, h2⟩ := twoM_ok h
  rw [epL_zero h, epL_zero h1, epL_zero h2]
  have e : pkB (twoM t u) = [129] ++ (pkB t ++ pkB u) := by
    have e1 : ∀ X, pkH 12 false 0 ⟨#[]⟩ 2 X = pmP 128 222 (2 / 2) ++ X := fun X => rfl
    have e2 : pkB (twoM t u) = pkH 12 false 0 ⟨#[]⟩ 2 (pkB t ++ (pkB u ++ [])) := rfl
    rw [e2, e1, show pmP 128 222 (2 / 2) = [129] by decide +kernel, List.append_nil]
  rw [e]
  apply ByteArray.ext
  simp [ByteArray.data_append]
theorem epL_le (t : VT) : (epL t).length ≤ 20 * blk t := by
  unfold epL
  split
  · exact pkB_le t
  · simp
/-- what Encode answers, with its bytes as a text -/
theorem pencode_txt (t : VT) (C : Value) (w : World) (hb : blk t ≤ 4000000) (hC : Lst w C t.l) (hwf : wfT t) :
    Calls Try.prog 6 #[vv t C] w fun e w' => ∃ A c, e = .returned (.tuple #[.slice A (epL t).length c, .int .i64 (epE t : Int)]) ∧ (∀ W, Below w'.heap.size w' W → (convert 26 9 (.slice A (epL t).length c)).run Try.prog W = .ok (.string ⟨(epL t).toArray⟩) W) ∧ Below w.heap.size w w' := by
  have h1 := cnt_blk t
  have h2 := smx_blk t
  have h3 := pkB_le t
  refine (pencode_any t C w (by omega) (by unfold maxLen; omega) hC hwf (by omega)).mono fun e w' ⟨A, c, he, _, _, hr, hb⟩ => ⟨A, c, he, fun W hW => ?_, hb⟩
  have := conv_row A (epL t).length c (gL (epL t)) W (hr.below hW)
  rw [pc_list] at this
  exact this
set_option maxRecDepth 100000 in
set_option maxHeartbeats 8000000 in
theorem plists_any (t : VT) (C : Value) (u : VT) (D : Value) (w : World) (hC : Lst w C t.l) (hb1 : blk t ≤ 1048576) (hwt : wfT t) (hD : Lst w D u.l) (hb2 : blk u ≤ 1048576) (hwu : wfT u) :
    Calls Try.prog 5 #[vv t C, vv u D] w fun e w' => e = .returned (.bool true) ∧ Below w.heap.size w w' := by
  have hb : blk t + blk u ≤ 2097152 := by omega
  have HX := Box2.new w t C u D 25
  obtain ⟨W2, hW2⟩ : ∃ W2, (w.alloc (.cells #[.int .i64 t.k, .bool t.g, .int .u64 (t.n : Int), .string t.s, C] 25)).alloc (.cells #[.int .i64 u.k, .bool u.g, .int .u64 (u.n : Int), .string u.s, D] 25) = W2 := ⟨_, rfl⟩
  rw [hW2] at HX
  obtain ⟨P, hP⟩ : ∃ P : World → Prop, P = fun W => Box2 w t C u D W := ⟨_, rfl⟩
  have HON : Hid (∀ W W', P W → Below W.heap.size W W' → P W') := Lib.hid fun W W' h hb => by
    rw [hP] at h ⊢
    exact h.on hb
  have HPB : Hid (∀ W, P W → Below w.heap.size w W) := Lib.hid fun W h => by rw [hP] at h; exact h.b
  have HPC : Hid (∀ W, P W → (Row W w.heap.size 0 t C ∧ Row W (w.heap.size + 1) 0 u D)) := Lib.hid fun W h => by
    rw [hP] at h
    exact ⟨h.r, h.r2⟩
  have HP3 : Hid (P W2) := Lib.hid (by rw [hP]; exact HX)
  have H1 : Hid (∀ W, P W → Calls Try.prog 6 #[vv t C] W fun e w' => ∃ A c, e = .returned (.tuple #[.slice A (epL t).length c, .int .i64 (epE t : Int)]) ∧ (∀ X, Below w'.heap.size w' X → (convert 26 9 (.slice A (epL t).length c)).run Try.prog X = .ok (.string ⟨(epL t).toArray⟩) X) ∧ Below W.heap.size W w' ∧ P w') := Lib.hid fun W hW =>
    (pencode_txt t C W (by omega) (hC.keep (HPB.out _ hW) (Nat.le_refl _)) hwt).mono fun e w' ⟨A, c, he, h2, h3⟩ => ⟨A, c, he, h2, h3, HON.out _ _ hW h3⟩
  have H2 : Hid (∀ W, P W → Calls Try.prog 6 #[vv u D] W fun e w' => ∃ A c, e = .returned (.tuple #[.slice A (epL u).length c, .int .i64 (epE u : Int)]) ∧ (∀ X, Below w'.heap.size w' X → (convert 26 9 (.slice A (epL u).length c)).run Try.prog X = .ok (.string ⟨(epL u).toArray⟩) X) ∧ Below W.heap.size W w' ∧ P w') := Lib.hid fun W hW =>
    (pencode_txt u D W (by omega) (hD.keep (HPB.out _ hW) (Nat.le_refl _)) hwu).mono fun e w' ⟨A, c, he, h2, h3⟩ => ⟨A, c, he, h2, h3, HON.out _ _ hW h3⟩
  have H3 : Hid (∀ W c, P W → Calls Try.prog 6 #[.agg #[.int .i64 12, .bool false, .int .u64 0, .string ⟨#[]⟩, .slice (some ⟨W.heap.size, 0, none⟩) 2 2]] (W.alloc (.cells #[.int .i64 t.k, .bool t.g, .int .u64 (t.n : Int), .string t.s, C, .int .i64 u.k, .bool u.g, .int .u64 (u.n : Int), .string u.s, D] c)) fun e w' => ∃ A c2, e = .returned (.tuple #[.slice A (epL (twoM t u)).length c2, .int .i64 (epE (twoM t u) : Int)]) ∧ (∀ X, Below w'.heap.size w' X → (convert 26 9 (.slice A (epL (twoM t u)).length c2)).run Try.prog X = .ok (.string ⟨(epL (twoM t u)).toArray⟩) X) ∧ Below W.heap.size W w' ∧ P w') := Lib.hid fun W c hW => by
    have hbl : blk (twoM t u) = 0 + (blk t + (blk u + 1)) + 5 := rfl
    have hal := (Below.refl W.heap.size W).alloc (Nat.le_refl _) (.cells #[.int .i64 t.k, .bool t.g, .int .u64 (t.n : Int), .string t.s, C, .int .i64 u.k, .bool u.g, .int .u64 (u.n : Int), .string u.s, D] c)
    have hbw := (HPB.out _ hW).trans (hal.mono (HPB.out _ hW).size)
    have hL : Lst (W.alloc (.cells #[.int .i64 t.k, .bool t.g, .int .u64 (t.n : Int), .string t.s, C, .int .i64 u.k, .bool u.g, .int .u64 (u.n : Int), .string u.s, D] c)) (.slice (some ⟨W.heap.size, 0, none⟩) 2 2) [t, u] := by
      refine .at_ (C := fun i => if i = 0 then C else D) rfl (Nat.le_refl _) (by simp) (fun i hi => ?_) (fun i hi => ?_)
      · have : i = 0 ∨ i = 1 := by simp at hi; omega
        rcases this with rfl | rfl
        · exact ⟨by simp, by simp, by simp, by simp, by simp⟩
        · exact ⟨by simp, by simp, by simp, by simp, by simp⟩
      · have : i = 0 ∨ i = 1 := by simp at hi; omega
        rcases this with rfl | rfl
        · exact hC.keep hbw (Nat.le_refl _)
        · exact hD.keep hbw (Nat.le_refl _)
    refine (pencode_txt (twoM t u) _ _ (by rw [hbl]; omega) hL ⟨by decide, by decide, by decide, hwt, hwu, trivial⟩).mono fun e w' ⟨A, c, he, h2, h3⟩ => ⟨A, c, he, h2, hal.trans (h3.mono hal.size), HON.out _ _ hW (hal.trans (h3.mono hal.size))⟩
  have HA := Lib.hid (fun W (_ : Below w.heap.size w W) => awake13 W)
  have hl1 := epL_le t
  have hl2 := epL_le u
  have hT0 : Hid (epE (twoM t u) = 0 → epE t = 0 ∧ epE u = 0) := Lib.hid twoM_ok
  have hT1 : Hid (epE (twoM t u) ≠ 0 → (epL (twoM t u)).length = 0) := Lib.hid fun h => by rw [epL_no h]; rfl
  have hT2 : Hid (epE (twoM t u) = 0 → (⟨(epL (twoM t u)).toArray⟩ : ByteArray) = (⟨#[129]⟩ : ByteArray) ++ ⟨(epL t).toArray⟩ ++ ⟨(epL u).toArray⟩) := Lib.hid twoM_text
  have s1 : (⟨(epL t).toArray⟩ : ByteArray).size = (epL t).length := by show (epL t).toArray.size = _; simp
  have s2 : (⟨(epL u).toArray⟩ : ByteArray).size = (epL u).length := by show (epL u).toArray.size = _; simp
  obtain ⟨X1, hX1⟩ : ∃ X : ByteArray, (⟨(epL t).toArray⟩ : ByteArray) = X := ⟨_, rfl⟩
  obtain ⟨X2, hX2⟩ : ∃ X : ByteArray, (⟨(epL u).toArray⟩ : ByteArray) = X := ⟨_, rfl⟩
  obtain ⟨X3, hX3⟩ : ∃ X : ByteArray, (⟨(epL (twoM t u)).toArray⟩ : ByteArray) = X := ⟨_, rfl⟩
  rw [hX1] at H1 hT2 s1
  rw [hX2] at H2 hT2 s2
  rw [hX3] at H3 hT2
  obtain ⟨n1, hn1⟩ : ∃ n, (epL t).length = n := ⟨_, rfl⟩
  obtain ⟨n2, hn2⟩ : ∃ n, (epL u).length = n := ⟨_, rfl⟩
  obtain ⟨n3, hn3⟩ : ∃ n, (epL (twoM t u)).length = n := ⟨_, rfl⟩
  rw [hn1] at H1 s1 hl1
  rw [hn2] at H2 s2 hl2
  rw [hn3] at H3 hT1
  obtain ⟨e1, he1⟩ : ∃ n, epE t = n := ⟨_, rfl⟩
  obtain ⟨e2, he2⟩ : ∃ n, epE u = n := ⟨_, rfl⟩
  obtain ⟨e3, he3⟩ : ∃ n, epE (twoM t u) = n := ⟨_, rfl⟩
  rw [he1] at H1 hT0
  rw [he2] at H2 hT0
  rw [he3] at H3 hT0 hT1 hT2
  unfold vv at H1 H2 ⊢
  have hsz1 : X1.size ≤ 100000000 := by omega
  have hsz2 : X2.size ≤ 100000000 := by omega
  clear hP HX hX1 hX2 hX3 hn1 hn2 hn3 he1 he2 he3 hC hD hwt hwu hb hb1 hb2 hl1 hl2 s1 s2
  have HW2 := Lib.hid hW2
  clear hW2
  go_enter Try.func5, Try.ntmps5
  go_upto_region 1 with fail
  rw [HW2.out]
  clear HW2
  obtain ⟨r1, r2⟩ := HPC.out _ HP3.out
  obtain ⟨a0, a1, a2, a3, a4⟩ := r1
  obtain ⟨b0, b1, b2, b3, b4⟩ := r2
  go_wp2_with fail
  refine (H1.out _ HP3.out).mono ?_
  rintro r w1 ⟨A1, c1, rfl, v1, k1, p1⟩
  have HV1 := Lib.hid v1
  have HP1 := Lib.hid p1
  clear a0 a1 a2 a3 a4 b0 b1 b2 b3 b4 v1 k1 p1
  obtain ⟨r1, r2⟩ := HPC.out _ HP1.out
  obtain ⟨a0, a1, a2, a3, a4⟩ := r1
  obtain ⟨b0, b1, b2, b3, b4⟩ := r2
  go_wp2_with fail
  refine (H2.out _ HP1.out).mono ?_
  rintro r w2 ⟨A2, c2, rfl, v2, k2, p2⟩
  have HV12 : Hid (∀ W, Below w2.heap.size w2 W → Below w1.heap.size w1 W) := Lib.hid fun W hW => k2.trans (hW.mono k2.size)
  have HV2 := Lib.hid v2
  have HP2 := Lib.hid p2
  clear a0 a1 a2 a3 a4 b0 b1 b2 b3 b4 v2 k2 p2
  obtain ⟨r1, r2⟩ := HPC.out _ HP2.out
  obtain ⟨a0, a1, a2, a3, a4⟩ := r1
  obtain ⟨b0, b1, b2, b3, b4⟩ := r2
  go_wp2_with fail
  refine (H3.out _ _ HP2.out).mono ?_
  rintro r w3 ⟨A3, c3, rfl, v3, k3, p3⟩
  have HV1' := Lib.hid (fun W (hW : Below w3.heap.size w3 W) => HV1.out W (HV12.out W (k3.trans (hW.mono k3.size))))
  have HV2' := Lib.hid (fun W (hW : Below w3.heap.size w3 W) => HV2.out W (k3.trans (hW.mono k3.size)))
  have HV3' := Lib.hid v3
  have HB3 := Lib.hid (HPB.out _ p3)
  clear a0 a1 a2 a3 a4 b0 b1 b2 b3 b4 v3 k3 p3 HV1 HV2 HV12 HP1 HP2 HP3 H1 H2 H3 HPC
  by_cases h3 : e3 = 0
  · obtain ⟨rfl, rfl⟩ := hT0.out h3
    have g1 := HV1'.out w3 (Below.refl _ _)
    have g2 := HV2'.out w3 (Below.refl _ _)
    have g3 := HV3'.out w3 (Below.refl _ _)
    have hx3 := hT2.out h3
    subst h3
    rw [hx3] at g3
    clear hT0 hT1 hT2 hx3 HV1' HV2' HV3'
    have l1 : ¬ 9223372036854775807 < 1 + X1.size := by omega
    have l2 : ¬ 9223372036854775807 < 1 + X1.size + X2.size := by omega
    go_wp2_with fail
    go_ret
    exact ⟨rfl, HB3.out⟩
  · have hn : n3 = 0 := hT1.out h3
    have hne : ((e3 : Int) != 0) = true := by simp; omega
    subst hn
    have HAA := Lib.hid (HA.out w3 HB3.out)
    clear hT0 hT1 hT2 HV1' HV2' HV3' h3 HA
    go_wp2_with fail
    refine HAA.out.mono ?_
    rintro r w4 ⟨rfl, b4⟩
    have HB4 := Lib.hid (HB3.out.trans (b4.mono HB3.out.size))
    clear b4
    go_wp2_with fail
    go_ret
    exact ⟨rfl, HB4.out⟩
end Go.Proofs.Ytgadpmddbkimfaa.nn
namespace Go.Proofs.Ytgadpmddbkimfaa.nn
open Go.ChangeShapes Go.WideShapes Go.ChangeAt Go.RowKit

theorem Try.own : ownKnob Try.prog.godebug = none := by kernel_rfl
theorem Try.laidOut : laidOutB Try.prog = true := by kernel_rfl
theorem wf_i64 {n : Int} (h : (Lit.int .i64 n).wf = true) : -9223372036854775808 ≤ n ∧ n ≤ 9223372036854775807 := by
  have h1 : IntKind.i64.min = -9223372036854775808 := rfl
  have h2 : IntKind.i64.max = 9223372036854775807 := rfl
  simp only [Lit.wf, Bool.and_eq_true, decide_eq_true_eq] at h
  omega
theorem wf_u64 {n : Int} (h : (Lit.int .u64 n).wf = true) : 0 ≤ n ∧ n < ((18446744073709551616 : Nat) : Int) := by
  have h1 : IntKind.u64.min = 0 := rfl
  have h2 : IntKind.u64.max = 18446744073709551615 := rfl
  simp only [Lit.wf, Bool.and_eq_true, decide_eq_true_eq] at h
  omega
end Go.Proofs.Ytgadpmddbkimfaa.nn
namespace Go.Proofs.Ytgadpmddbkimfaa.nn
open Go.ChangeShapes Go.WideShapes Go.ChangeAt Go.RowKit

theorem Try.cellsV : Try.prog.cellsOf 25 = 5 := by kernel_rfl
theorem blk_add (b off i : Nat) : (⟨b, off, none⟩ : Addr).add i = ⟨b, off + i, none⟩ := by unfold Addr.add; split <;> simp_all
theorem bulkAll_app {H : Type} (l r : List (DataW H)) : Rows.uptoBulkAll (l ++ r) = Rows.uptoBulkAll l + Rows.uptoBulkAll r := by
  induction l with
  | nil => simp [Rows.uptoBulkAll]
  | cons x l ih => simp only [List.cons_append, Rows.uptoBulkAll, ih]; omega
theorem bulkAll_at {H : Type} {l : List (DataW H)} {x : DataW H} (h : x ∈ l) : Rows.uptoBulk x ≤ Rows.uptoBulkAll l := by
  induction l with
  | nil => cases h
  | cons y r ih =>
    simp only [Rows.uptoBulkAll]
    rcases List.mem_cons.1 h with rfl | h
    · omega
    · have := ih h; omega
theorem blkL_app (a b : List VT) : blkL (a ++ b) + 1 = blkL a + blkL b := by
  induction a with
  | nil => simp only [List.nil_append, blkL]; omega
  | cons t r ih => simp only [List.cons_append, blkL]; omega
theorem wfL_all {l : List VT} (h : ∀ t ∈ l, wfT t) : wfL l := by
  induction l with
  | nil => trivial
  | cons t r ih => exact ⟨h t (by simp), ih fun x hx => h x (by simp [hx])⟩
section
variable {H : Type} {enc : TypeId × Value → H} {W : World}

set_option maxRecDepth 100000 in
/-- a value's five cells -/
theorem open_cells {fuel : Nat} {cs : List Value} {x : DataW H × List MemPlace} (h : DataW.trod enc Try.prog W 0 (fun _ => true) true fuel 25 cs = some x) :
    ∃ (k : Int) (g : Bool) (n : Nat) (s : ByteArray) (C : Value) (y : DataW H × List MemPlace) (f : Nat), cs = [.int .i64 k, .bool g, .int .u64 (n : Int), .string s, C] ∧ (-9223372036854775808 ≤ k ∧ k ≤ 9223372036854775807 ∧ n < 18446744073709551616) ∧
      DataW.trod enc Try.prog W 0 (fun _ => true) true f 23 [C] = some y ∧ Rows.uptoBulk x.1 = s.size + Rows.uptoBulk y.1 + 5 ∧ ∀ q ∈ y.2, q ∈ x.2 := by
  obtain ⟨xs, n, _, hx, hlen, hxl, hf⟩ := DataW.trod_struct Try.underlying25 h
  rw [Try.cellsV] at hlen
  match cs, hlen with
  | [c0, c1, c2, c3, c4], _ =>
    match xs, hxl with
    | [y0, y1, y2, y3, y4], _ =>
      have f0 := hf 0 _ rfl
      have f1 := hf 1 _ rfl
      have f2 := hf 2 _ rfl
      have f3 := hf 3 _ rfl
      have f4 := hf 4 _ rfl
      simp only [List.getElem?_cons_zero, List.getElem?_cons_succ] at f0 f1 f2 f3 f4
      obtain ⟨k, e0, z0, w0⟩ := DataW.trod_int Try.underlying3 f0
      obtain ⟨g, e1, z1⟩ := DataW.trod_bool Try.underlying4 f1
      obtain ⟨u, e2, z2, w2⟩ := DataW.trod_int Try.underlying22 f2
      obtain ⟨s, e3, z3, _⟩ := DataW.trod_string Try.underlying9 f3
      have hk := wf_i64 w0
      have hu := wf_u64 w2
      obtain ⟨m, rfl⟩ := Int.eq_ofNat_of_zero_le hu.1
      injection e0 with e0 _
      injection e1 with e1 _
      injection e2 with e2 _
      injection e3 with e3 _
      subst e0 e1 e2 e3 z0 z1 z2 z3 hx
      refine ⟨k, g, m, s, c4, y4, n, rfl, ⟨hk.1, hk.2, by omega⟩, f4, ?_, ?_⟩
      · simp only [List.map_cons, List.map_nil, Rows.uptoBulk, Rows.uptoBulkAll, Array.length_toList]
        show _ = s.data.size + _ + 5
        omega
      · intro q hq
        simp [hq]
theorem open_list (B : Nat) : ∀ (fuel : Nat) (cs : List Value) (x : DataW H × List MemPlace), DataW.trod enc Try.prog W 0 (fun _ => true) true fuel 23 cs = some x → Rows.uptoBulk x.1 ≤ B → (∀ q ∈ x.2, q.block < W.heap.size) →
    ∃ (v : Value) (l : List VT), cs = [v] ∧ Lst W v l ∧ blkL l ≤ Rows.uptoBulk x.1 ∧ wfL l := by
  induction B with
  | zero =>
    intro fuel cs x h hB _
    rcases Go.Deep.open_slice Try.underlying23 h with ⟨rfl, rfl⟩ | ⟨a, len, cap, m, n, D, Pl, hcs, _, hl, hm, hmm, hx, hi⟩
    · exact ⟨_, [], rfl, .nil_, by simp [blkL, Rows.uptoBulk], trivial⟩
    · subst hx
      simp only [Rows.uptoBulk] at hB
      omega
  | succ B ih =>
    intro fuel cs x h hB hp
    rcases Go.Deep.open_slice Try.underlying23 h with ⟨rfl, rfl⟩ | ⟨a, len, cap, m, n, D, Pl, hcs, _, hl, hm, hmm, hx, hi⟩
    · exact ⟨_, [], rfl, .nil_, by simp [blkL, Rows.uptoBulk], trivial⟩
    · subst hcs hx
      simp only [if_true] at hmm
      subst hmm
      rw [Try.cellsV] at hi hp
      rcases Nat.eq_zero_or_pos len with h0 | h0
      · subst h0
        exact ⟨_, [], rfl, .nil_, by simp only [blkL, Rows.uptoBulk]; omega, trivial⟩
      · have hc0 : 0 < m := by omega
        obtain ⟨cs0, q1, _⟩ := hi 0 hc0
        obtain ⟨b, off, spot⟩ := a
        obtain ⟨_, ql, qc⟩ := World.cells?_some q1
        have hsp : spot = none := by
          have h1 := qc 0 (by omega)
          rw [show (cs0[0]? : Option Value) = some (cs0[0]'(by omega)) from List.getElem?_eq_getElem (by omega)] at h1
          simpa [Addr.add] using World.cell?_spot h1
        subst hsp
        have hb : b < W.heap.size := hp (.cell b off) (List.mem_append.2 (.inl (MemPlace.mem_row.2 ⟨0, by omega, by simp⟩)))
        simp only [Rows.uptoBulk] at hB
        have key : ∀ i, i < len → ∃ (t : VT) (C : Value), Row W b (off + i * 5) t C ∧ Lst W C t.l ∧ blk t ≤ Rows.uptoBulk (D i) ∧ wfT t := by
          intro i hil
          obtain ⟨cs', h1, h2⟩ := hi i (by omega)
          obtain ⟨_, hcl, hat⟩ := World.cells?_some h1
          obtain ⟨k, g, u, s, C, y, f, rfl, hw, hy, hbk, hpl⟩ := open_cells h2
          dsimp only at hbk
          have hmem : D i ∈ (List.range len).map D := List.mem_map.2 ⟨i, List.mem_range.2 hil, rfl⟩
          have hle := bulkAll_at hmem
          obtain ⟨v, l, hv, hL, hbl, hwl⟩ := ih f [C] y hy (by omega) (fun q hq => hp q (List.mem_append.2 (.inr (List.mem_flatMap.2 ⟨i, List.mem_range.2 (by omega), hpl q hq⟩))))
          simp only [List.cons.injEq, and_true] at hv
          subst hv
          refine ⟨.mk k g u s l, C, ⟨?_, ?_, ?_, ?_, ?_⟩, hL, ?_, (wfT_mk _).2 ⟨hw.1, hw.2.1, hw.2.2, hwl⟩⟩
          · have := hat 0 (by omega)
            rw [blk_add, blk_add] at this
            show W.cell? _ = some (.int .i64 k)
            simpa using this
          · have := hat 1 (by omega)
            rw [blk_add, blk_add] at this
            show W.cell? _ = some (.bool g)
            simpa using this
          · have := hat 2 (by omega)
            rw [blk_add, blk_add] at this
            show W.cell? _ = some (.int .u64 (u : Int))
            simpa using this
          · have := hat 3 (by omega)
            rw [blk_add, blk_add] at this
            show W.cell? _ = some (.string s)
            simpa using this
          · have := hat 4 (by omega)
            rw [blk_add, blk_add] at this
            show W.cell? _ = some (C)
            simpa using this
          · rw [blk_mk]
            show s.size + blkL l + 5 ≤ _
            rw [hbk]
            omega
        have key2 : ∀ i, ∃ (t : VT) (C : Value), i < len → Row W b (off + i * 5) t C ∧ Lst W C t.l ∧ blk t ≤ Rows.uptoBulk (D i) ∧ wfT t := fun i => by
          by_cases hil : i < len
          · obtain ⟨t, C, h⟩ := key i hil
            exact ⟨t, C, fun _ => h⟩
          · exact ⟨VT.mk 0 false 0 ⟨#[]⟩ [], .bool false, fun h => absurd h hil⟩
        obtain ⟨T, hT⟩ := Classical.axiomOfChoice key2
        obtain ⟨CC, hCC⟩ := Classical.axiomOfChoice hT
        have hlen : ((List.range len).map T).length = len := by simp
        have hget : ∀ i (h : i < ((List.range len).map T).length), ((List.range len).map T)[i] = T i := fun i h => by simp
        refine ⟨_, (List.range len).map T, rfl, .at_ (C := CC) hlen hl hb (fun i h => ?_) (fun i h => ?_), ?_, ?_⟩
        · rw [hget i h]; exact (hCC i (by omega)).1
        · rw [hget i h]; exact (hCC i (by omega)).2.1
        · have hs : ∀ j, j ≤ len → blkL ((List.range j).map T) ≤ Rows.uptoBulkAll ((List.range j).map D) + 1 := fun j hj => by
            induction j with
            | zero => simp [blkL, Rows.uptoBulkAll]
            | succ j ihj =>
              have h1 := ihj (by omega)
              have h2 := (hCC j (by omega)).2.2.1
              rw [List.range_succ, List.map_append, List.map_append, bulkAll_app]
              have h3 := blkL_app ((List.range j).map T) [T j]
              have h4 : blkL [T j] = blk (T j) + 1 := rfl
              simp only [List.map_cons, List.map_nil, Rows.uptoBulkAll]
              omega
          have := hs len (Nat.le_refl _)
          simp only [Rows.uptoBulk]
          omega
        · exact wfL_all fun t ht => by
            obtain ⟨i, hi, rfl⟩ := List.mem_map.1 ht
            exact (hCC i (List.mem_range.1 hi)).2.2.2
set_option maxRecDepth 100000 in
/-- an argument that is a tree -/
theorem open_val {base : Nat} {v : Value} {d : DataW H} {p : List MemPlace} (hok : Value.okWide Try.prog W .any base 25 v) (h : DataW.Trod enc Try.prog W 0 (fun _ => true) true 25 v d p) (hlt : ∀ x ∈ p, x.block < W.heap.size) :
    ∃ (t : VT) (C : Value), v = vv t C ∧ Lst W C t.l ∧ blk t ≤ Rows.uptoBulk d ∧ wfT t := by
  obtain ⟨cs, rfl, hsz⟩ := okWide_struct Try.underlying25 hok
  obtain ⟨fuel, hf⟩ := h
  have hcl : (Value.agg cs).cells.toList = cs.toList := by simp [Value.cells]
  rw [hcl] at hf
  obtain ⟨k, g, u, s, C, y, f, hcs, hw, hy, hbk, hpl⟩ := open_cells hf
  obtain ⟨v, l, hv, hL, hbl, hwl⟩ := open_list _ f [C] y hy (Nat.le_refl _) (fun q hq => hlt q (hpl q hq))
  simp only [List.cons.injEq, and_true] at hv
  subst hv
  refine ⟨.mk k g u s l, C, ?_, hL, ?_, (wfT_mk _).2 ⟨hw.1, hw.2.1, hw.2.2, hwl⟩⟩
  · unfold vv
    congr 1
    rw [← Array.toArray_toList (xs := cs), hcs]
    rfl
  · rw [blk_mk]
    show s.size + blkL l + 5 ≤ _
    dsimp only at hbk
    rw [hbk]
    omega
end
end Go.Proofs.Ytgadpmddbkimfaa.nn
