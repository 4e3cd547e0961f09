/- Joined texts: Shape3, Shape4, Shape5, Shape6, Shape7, Shape8, Shape9, FbNum2, ShapeNum, ShapeNum2, FbitsReal, FbitsReal2, FdD, FdNear, FdRound, RefTimes, RefTwice, RefFromDigits, RdA, RdB, RdC. -/
import Derived.Great.Walk
import Derived.KernelRfl
import Derived.Deep.WholeRow
import Derived.Deep.CutBlock
import Derived.Test.YtcndkhgbgjnclaaGreatDoorShelf
import Derived.Lib.MinMax
import Derived.Deep.RegionHeld3
import Derived.Test.YtcndkhgbgjnclaaGreatDoorJc
/- The real fbits: shift. -/
namespace Go.Proofs.YtcndkhgbgjnclaaGreatDoor.nn
open Go.RowKit

/-- m times 2^n: what is whole and has no more than 64 bits -/
def sOk (m : Nat) (n : Int) : Bool := if n < 0 then decide (m % 2 ^ (-n).toNat = 0) else decide (m * 2 ^ n.toNat < 18446744073709551616)
def sV (m : Nat) (n : Int) : Nat := if n < 0 then m / 2 ^ (-n).toNat else m * 2 ^ n.toNat % 18446744073709551616
theorem p64 : (2 : Nat) ^ 64 = 18446744073709551616 := by decide
theorem ret_sh {a c : Int} {b d : Bool} (h1 : a = c) (h2 : b = d) : Ending.returned (.tuple #[.int .u64 a, .bool b]) = .returned (.tuple #[.int .u64 c, .bool d]) := by rw [h1, h2]
theorem wrap_u64_nat (a : Nat) : IntKind.u64.wrap (a : Int) = ((a % 18446744073709551616 : Nat) : Int) := by
  rw [IntKind.wrap_u64]
  omega
section
variable {m d : Nat}
theorem big_pow (h : 64 ≤ d) : 18446744073709551616 ≤ 2 ^ d := by rw [← p64]; exact Nat.pow_le_pow_right (by decide) h
theorem down_min (hm : m < 18446744073709551616) : m / 2 ^ min d 64 = m / 2 ^ d ∧ m % 2 ^ min d 64 = m % 2 ^ d := by
  rcases Nat.le_total d 64 with h | h
  · rw [Nat.min_eq_left h]; exact ⟨rfl, rfl⟩
  · have h1 := big_pow h
    rw [Nat.min_eq_right h, p64, Nat.div_eq_of_lt hm, Nat.div_eq_of_lt (by omega), Nat.mod_eq_of_lt hm, Nat.mod_eq_of_lt (by omega)]
    exact ⟨rfl, rfl⟩
theorem beq_nat {a b : Nat} : ((a : Int) == (b : Int)) = decide (a = b) := by
  by_cases h : a = b
  · rw [h, decide_eq_true rfl]; simp
  · rw [decide_eq_false h]; simp; omega
theorem down_v (hm : m < 18446744073709551616) (h1 : 1 ≤ d) : (m : Int) / 2 ^ min d 64 = (sV m (-(d : Int)) : Int) ∧ (IntKind.u64.wrap ((m : Int) / 2 ^ min d 64 * 2 ^ min d 64) == (m : Int)) = sOk m (-(d : Int)) := by
  obtain ⟨a1, a2⟩ := down_min (d := d) hm
  have e1 : (m : Int) / 2 ^ min d 64 = ((m / 2 ^ min d 64 : Nat) : Int) := by simp
  have e2 : (m : Int) / 2 ^ min d 64 * 2 ^ min d 64 = ((m / 2 ^ min d 64 * 2 ^ min d 64 : Nat) : Int) := by simp
  have h2 : m / 2 ^ min d 64 * 2 ^ min d 64 ≤ m := Nat.div_mul_le_self _ _
  have h3 := Nat.div_add_mod m (2 ^ min d 64)
  rw [e2, wrap_u64_nat, Nat.mod_eq_of_lt (by omega), e1]
  unfold sV sOk
  rw [if_pos (by omega), if_pos (by omega), show (-(-(d : Int))).toNat = d by omega, ← a1, ← a2, beq_nat]
  refine ⟨rfl, ?_⟩
  rw [Nat.mul_comm] at h3
  generalize m / 2 ^ min d 64 * 2 ^ min d 64 = a at h2 h3 ⊢
  generalize m % 2 ^ min d 64 = b at h3 ⊢
  by_cases hb : b = 0
  · rw [decide_eq_true hb, decide_eq_true (by omega)]
  · rw [decide_eq_false hb, decide_eq_false (by omega)]
theorem up_v (hm : m < 18446744073709551616) : IntKind.u64.wrap ((m : Int) * 2 ^ min d 64) = (sV m (d : Int) : Int) ∧ (IntKind.u64.wrap ((m : Int) * 2 ^ min d 64) / 2 ^ min d 64 == (m : Int)) = sOk m (d : Int) := by
  have e1 : (m : Int) * 2 ^ min d 64 = ((m * 2 ^ min d 64 : Nat) : Int) := by simp
  have e2 : ((m * 2 ^ min d 64 % 18446744073709551616 : Nat) : Int) / 2 ^ min d 64 = ((m * 2 ^ min d 64 % 18446744073709551616 / 2 ^ min d 64 : Nat) : Int) := by simp
  rw [e1, wrap_u64_nat, e2, beq_nat]
  unfold sV sOk
  rw [if_neg (by omega), if_neg (by omega), Int.toNat_natCast]
  rcases Nat.lt_or_ge d 64 with h | h
  · rw [Nat.min_eq_left (by omega)]
    refine ⟨rfl, ?_⟩
    have hp := Nat.two_pow_pos d
    by_cases hb : m * 2 ^ d < 18446744073709551616
    · rw [decide_eq_true hb, Nat.mod_eq_of_lt hb, Nat.mul_div_cancel _ hp, decide_eq_true rfl]
    · rw [decide_eq_false hb, decide_eq_false]
      intro hc
      have h2 := Nat.div_mul_le_self (m * 2 ^ d % 18446744073709551616) (2 ^ d)
      rw [hc] at h2
      have h3 := Nat.mod_lt (m * 2 ^ d) (show 18446744073709551616 > 0 by decide)
      omega
  · have h1 := big_pow h
    obtain ⟨c, rfl⟩ : ∃ c, d = 64 + c := ⟨d - 64, by omega⟩
    rw [Nat.min_eq_right h, p64, Nat.mul_mod_left, Nat.pow_add, p64, ← Nat.mul_assoc, Nat.mul_right_comm, Nat.mul_mod_left, Nat.zero_div]
    refine ⟨rfl, ?_⟩
    have hp := Nat.two_pow_pos c
    rcases Nat.eq_zero_or_pos m with h0 | h0
    · subst h0; rw [Nat.zero_mul, Nat.zero_mul]; rfl
    · have h2 : 1 ≤ m * 2 ^ c := Nat.mul_pos h0 hp
      rw [decide_eq_false (by omega), decide_eq_false (by omega)]
end
end Go.Proofs.YtcndkhgbgjnclaaGreatDoor.nn
/- The real fbits: class and amount. -/
namespace Go.Proofs.YtcndkhgbgjnclaaGreatDoor.nn
open Go.RowKit

theorem lim_lt {k x : Nat} (h : x < lim k) : x < 18446744073709551616 := by
  unfold lim at h
  split at h
  · omega
  · split at h <;> omega
set_option maxRecDepth 100000 in
set_option maxHeartbeats 2000000 in
theorem class_walk (k x : Nat) (w : World) (S : Bool) (X M : Nat) (hk : kOk k) (_ : M < 18446744073709551616) (_ : X < 4096)
    (HS : Hid (∀ W, Calls Tryz.prog 41 #[sv k, .int .u64 (x : Int)] W fun e w' => e = .returned (.tuple #[.bool S, .int .i64 (X : Int), .int .u64 (M : Int)]) ∧ Below W.heap.size W w')) :
    Calls Tryz.prog 36 #[sv k, .int .u64 (x : Int)] w fun e w' => e = .returned (.int .i64 (cl5 (xb k) X M : Int)) ∧ Below w.heap.size w w' := by
  obtain ⟨R, hR⟩ : ∃ R, cl5 (xb k) X M = R := ⟨_, rfl⟩
  rw [hR]
  unfold cl5 at hR
  rw [show 2 ^ xb k - 1 = onz k from rfl] at hR
  have HO := Lib.hid (fun W => ones_any k W hk)
  have HB := Lib.hid (Bs.new w k)
  have hT := hk.facts
  have hT2 : onz k ≤ 2047 := by omega
  unfold sv at HO HS ⊢
  obtain ⟨T, hTT⟩ : ∃ T, onz k = T := ⟨_, rfl⟩
  rw [hTT] at HO hR hT2
  clear hT hTT
  by_cases h1 : X = T
  · have q1 : ((X : Int) == (T : Int)) = true := by rw [h1]; simp
    rw [if_pos h1] at hR
    by_cases h2 : M = 0
    · rw [if_pos h2] at hR
      have q2 : ((M : Int) != 0) = false := by rw [h2]; rfl
      subst hR
      clear h1 h2
      go_enter Tryz.func36, Tryz.ntmps36
      go_wp2_with fail
      refine (HS.out _).mono ?_
      rintro e w1 ⟨rfl, hb⟩
      have H1 := Lib.hid ((HB.out _).on hb)
      have hc := H1.out.all
      clear hb
      go_wp2_with fail
      refine (HO.out _).mono ?_
      rintro e w2 ⟨rfl, hb⟩
      have H2 := Lib.hid (H1.out.on hb)
      have hc2 := H2.out.all
      clear hb hc
      go_wp2_with fail
      refine (HO.out _).mono ?_
      rintro e w3 ⟨rfl, hb⟩
      have H3 := Lib.hid (H2.out.on hb)
      clear hb hc2
      go_wp2_with fail
      go_ret
      exact ⟨rfl, H3.out.b⟩
    · rw [if_neg h2] at hR
      have q2 : ((M : Int) != 0) = true := by simp; omega
      subst hR
      clear h1 h2
      go_enter Tryz.func36, Tryz.ntmps36
      go_wp2_with fail
      refine (HS.out _).mono ?_
      rintro e w1 ⟨rfl, hb⟩
      have H1 := Lib.hid ((HB.out _).on hb)
      have hc := H1.out.all
      clear hb
      go_wp2_with fail
      refine (HO.out _).mono ?_
      rintro e w2 ⟨rfl, hb⟩
      have H2 := Lib.hid (H1.out.on hb)
      have hc2 := H2.out.all
      clear hb hc
      go_wp2_with fail
      go_ret
      exact ⟨rfl, H2.out.b⟩
  · have q1 : ((X : Int) == (T : Int)) = false := by simp; omega
    rw [if_neg h1] at hR
    obtain ⟨B1, hB1⟩ : ∃ B1, ((X : Int) != 0) = B1 := ⟨_, rfl⟩
    obtain ⟨B2, hB2⟩ : ∃ B2, ((M : Int) != 0) = B2 := ⟨_, rfl⟩
    have HR : Hid (R = if B1 then 2 else if B2 then 1 else 0) := Lib.hid (by
      rw [← hR, ← hB1, ← hB2]
      by_cases c1 : X = 0
      · by_cases c2 : M = 0
        · simp [c1, c2]
        · simp [c1, c2]
      · simp [c1])
    clear h1 hR
    cases B1 <;> cases B2
    all_goals
      go_enter Tryz.func36, Tryz.ntmps36
      go_wp2_with fail
      refine (HS.out _).mono ?_
      rintro e w1 ⟨rfl, hb⟩
      have H1 := Lib.hid ((HB.out _).on hb)
      have hc := H1.out.all
      clear hb
      go_wp2_with fail
      refine (HO.out _).mono ?_
      rintro e w2 ⟨rfl, hb⟩
      have H2 := Lib.hid (H1.out.on hb)
      have hc2 := H2.out.all
      clear hb hc
      go_wp2_with fail
      refine (HO.out _).mono ?_
      rintro e w3 ⟨rfl, hb⟩
      have H3 := Lib.hid (H2.out.on hb)
      clear hb hc2
      go_wp2_with fail
      go_ret
      exact ⟨by rw [HR.out]; rfl, H3.out.b⟩
theorem class_any (k x : Nat) (w : World) (hk : kOk k) (hx : x < lim k) : Calls Tryz.prog 36 #[sv k, .int .u64 (x : Int)] w fun e w' => e = .returned (.int .i64 (clk k x : Int)) ∧ Below w.heap.size w w' := by
  have h2 := fr_lt (w := k) (x := x)
  have h1 := ex_lt (w := k) (x := x)
  have hf := hk.facts
  rw [show 2 ^ fb k = hdn k from rfl] at h2
  have h3 : ex k x ≤ onz k := by unfold onz; omega
  exact class_walk k x w (sg k x) (ex k x) (fr k x) hk (by omega) (by omega) (Lib.hid fun W => split_any k x W hk hx)

/-- m and e of a finite float's parts -/
def aM (k X M : Nat) : Nat := if X = 0 then M else M + hdn k
def aE (k X : Nat) : Int := if X = 0 then 1 - (bia k : Int) - (fb k : Int) else (X : Int) - (bia k : Int) - (fb k : Int)
theorem or_hdn {k M : Nat} (hk : kOk k) (hM : M < hdn k) : bits .or .u64 (M : Int) (hdn k : Int) = ((M + hdn k : Nat) : Int) := by
  have hf := hk.facts
  have h := u64_or_nat M (hdn k) (by omega) (by omega)
  have e : hdn k = 2 ^ fb k := rfl
  rw [Nat.or_comm, or_add (hdn k) M (fb k) (by rw [e]; exact Nat.mod_self _) (by rw [← e]; exact hM), Nat.add_comm] at h
  exact h
set_option maxRecDepth 100000 in
set_option maxHeartbeats 2000000 in
theorem amount_any (k X M : Nat) (w : World) (hk : kOk k) (hX : X ≤ onz k) (hM : M < hdn k) :
    Calls Tryz.prog 42 #[sv k, .int .i64 (X : Int), .int .u64 (M : Int)] w fun e w' => e = .returned (.tuple #[.int .u64 (aM k X M : Int), .int .i64 (aE k X)]) ∧ Below w.heap.size w w' := by
  have HU : Hid (∀ W, Bs w k W → Calls Tryz.prog 87 #[sv k] W fun e w' => e = .returned (.int .i64 (1 - (bia k : Int) - (fb k : Int))) ∧ Bs w k w') := Lib.hid fun W hW => (leastUnit_any k W hk).mono fun e w' ⟨he, hb⟩ => ⟨he, hW.on hb⟩
  have HI : Hid (∀ W, Bs w k W → Calls Tryz.prog 86 #[sv k] W fun e w' => e = .returned (.int .u64 (hdn k : Int)) ∧ Bs w k w') := Lib.hid fun W hW => (hidden_any k W hk).mono fun e w' ⟨he, hb⟩ => ⟨he, hW.on hb⟩
  have HB := Lib.hid (Bs.new w k)
  have hf := hk.facts
  have HO := Lib.hid (or_hdn hk hM)
  obtain ⟨U, hU⟩ : ∃ U : Int, 1 - (bia k : Int) - (fb k : Int) = U := ⟨_, rfl⟩
  rw [hU] at HU
  unfold aM aE
  by_cases h0 : X = 0
  · subst h0
    rw [if_pos rfl, if_pos rfl, hU]
    unfold sv at HU ⊢
    clear hf hU
    go_enter Tryz.func42, Tryz.ntmps42
    go_wp2_with fail
    refine (HU.out _ (HB.out _)).mono ?_
    rintro e w1 ⟨rfl, h1⟩
    go_wp2_with fail
    go_ret2
    exact ⟨rfl, h1.b⟩
  · rw [if_neg h0, if_neg h0]
    have q0 : ((X : Int) == 0) = false := by simp; omega
    have q1 : IntKind.i64.wrap (U + (X : Int)) = U + (X : Int) := IntWalk.i64_in _ (by omega)
    have q2 : IntKind.i64.wrap (U + (X : Int) - 1) = U + (X : Int) - 1 := IntWalk.i64_in _ (by omega)
    have HQ : Hid (U + (X : Int) - 1 = (X : Int) - (bia k : Int) - (fb k : Int)) := Lib.hid (by omega)
    unfold sv at HU HI ⊢
    clear hf hU h0
    go_enter Tryz.func42, Tryz.ntmps42
    go_wp2_with fail
    have hb0 := HB.out 69
    generalize w.alloc _ = W0 at hb0 ⊢
    have hb1 := hb0.drew
    have hb := hb1.all
    go_region_held3 (fun W => W.cell? ⟨w.heap.size, 0, none⟩ = some (.int .i64 (k : Int)) ∧ W.cell? ⟨w.heap.size, 1, none⟩ = some (.int .i64 (xb k : Int)) ∧ W.cell? ⟨w.heap.size, 2, none⟩ = some (.int .i64 (fb k : Int)) ∧ Bs w k W) (first | exact Bs.all ‹_› | exact Bs.all (And.right ‹_›))
      (first
        | (go_at_call 86; with_reducible refine (HI.out _ ?_).mono ?_; (first | assumption | exact And.right ‹_›); rintro e w' ⟨rfl, hk5⟩)
        | (go_at_call 87; with_reducible refine (HU.out _ ?_).mono ?_; (first | assumption | exact And.right ‹_›); rintro e w' ⟨rfl, hk5⟩))
    go_wp2_with fail
    exact bodyPost_ret (v := .tuple #[.int .u64 (bits .or .u64 (M : Int) (hdn k : Int)), .int .i64 (U + (X : Int) - 1)]) (by simp [results, Tryz.results42, go_sem]) rfl ⟨by rw [HO.out, HQ.out], (by assumption : Bs w k _).b⟩
end Go.Proofs.YtcndkhgbgjnclaaGreatDoor.nn
/- The real fbits: the table of shapes, the widest, the shape of a width. -/
namespace Go.Proofs.YtcndkhgbgjnclaaGreatDoor.nn
open Go.RowKit Go.Great

def shT : Array Value := #[.int .i64 16, .int .i64 5, .int .i64 10, .int .i64 32, .int .i64 8, .int .i64 23, .int .i64 64, .int .i64 11, .int .i64 52]
set_option maxRecDepth 100000 in
set_option maxHeartbeats 1000000 in
theorem shapes_any (w : World) : Calls Tryz.prog 85 #[] w fun e w' => e = .returned (.agg shT) ∧ Below w.heap.size w w' := by
  have HB := Lib.hid (fun o => (Below.refl w.heap.size w).alloc (Nat.le_refl _) o)
  go_enter Tryz.func85, Tryz.ntmps85
  go_wp2_with fail
  exact bodyPost_ret (v := .agg shT) (by simp [results, Tryz.results85, go_sem, shT]) rfl ⟨rfl, HB.out _⟩
theorem hsz1 (w : World) (o : Obj) : (w.alloc o).heap.size = w.heap.size + 1 := by simp
/-- a result of a struct of three numbers: its block, of a world that calls have changed -/
structure Rs3 (w : World) (T : TypeId) (W : World) : Prop where
  blk : W.heap[w.heap.size]? = some (.cells #[.int .i64 0, .int .i64 0, .int .i64 0] T (0, 0))
  b : Below w.heap.size w W
  z : w.heap.size < W.heap.size
theorem Rs3.new (w : World) (T : TypeId) : Rs3 w T (w.alloc (.cells #[.int .i64 0, .int .i64 0, .int .i64 0] T)) :=
  ⟨heap_alloc_last _ _, (Below.refl _ _).alloc (Nat.le_refl _) _, by rw [hsz1]; omega⟩
theorem Rs3.on {w W W' : World} {T : TypeId} (h : Rs3 w T W) (hB : Below W.heap.size W W') : Rs3 w T W' :=
  ⟨(hB.block _ h.z).trans h.blk, h.b.trans (hB.mono (Nat.le_of_lt h.z)), Nat.lt_of_lt_of_le h.z hB.size⟩
theorem Rs3.all {w W : World} {T : TypeId} (h : Rs3 w T W) : W.cell? ⟨w.heap.size, 0, none⟩ = some (.int .i64 0) ∧ W.cell? ⟨w.heap.size, 1, none⟩ = some (.int .i64 0) ∧ W.cell? ⟨w.heap.size, 2, none⟩ = some (.int .i64 0) ∧ (∀ i, W.frozen? ⟨w.heap.size, i, none⟩ = false) :=
  ⟨cell_of_row _ _ 0 _ _ _ h.blk, cell_of_row _ _ 1 _ _ _ h.blk, cell_of_row _ _ 2 _ _ _ h.blk, fun i => by have := h.blk; simp [World.frozen?, this]⟩
set_option maxRecDepth 100000 in
set_option maxHeartbeats 1000000 in
theorem widest_any (w : World) : Calls Tryz.prog 40 #[] w fun e w' => e = .returned (sv 64) ∧ Below w.heap.size w w' := by
  have HB := Lib.hid (Rs3.new w 69)
  rw [show sv 64 = .agg #[.int .i64 64, .int .i64 11, .int .i64 52] from rfl]
  go_enter Tryz.func40, Tryz.ntmps40
  go_wp2_with fail
  refine (shapes_any _).mono ?_
  rintro e w1 ⟨rfl, hb⟩
  have H1 := Lib.hid (HB.out.on hb)
  obtain ⟨c0, c1, c2, f0⟩ := H1.out.all
  have hz := H1.out.z
  clear hb
  unfold shT
  go_wp2_with fail
  have hne : ¬ w.heap.size = w1.heap.size := by omega
  have hblk := H1.out.blk
  refine bodyPost_ret (v := .agg #[.int .i64 64, .int .i64 11, .int .i64 52]) (by simp [results, Tryz.results40, go_sem, World.cell?, World.setCell, World.alloc, Array.getElem?_push, Array.getElem?_modify, hblk, hne]) rfl ⟨rfl, ?_⟩
  exact (((H1.out.b.setCell (Nat.le_refl _) _).setCell (Nat.le_refl _) _).setCell (Nat.le_refl _) _).alloc (by simp [World.setCell]; omega) _

/-- row j of the table -/
def tW : Nat → Nat | 0 => 16 | 1 => 32 | _ => 64
set_option maxRecDepth 100000 in
theorem ix3 (j : Nat) (h : j < 3) (w : World) : (Instr.index 119 (.agg shT) (.int .i64 (j : Int))).run Tryz.prog w = .ok (.agg #[.int .i64 (tW j : Int), .int .i64 (xb (tW j) : Int), .int .i64 (fb (tW j) : Int)]) w := by
  match j, h with
  | 0, _ => exact (by kernel_rfl : (Instr.index 119 (.agg shT) (.int .i64 0)).run Tryz.prog w = .ok (.agg #[.int .i64 16, .int .i64 5, .int .i64 10]) w)
  | 1, _ => exact (by kernel_rfl : (Instr.index 119 (.agg shT) (.int .i64 1)).run Tryz.prog w = .ok (.agg #[.int .i64 32, .int .i64 8, .int .i64 23]) w)
  | 2, _ => exact (by kernel_rfl : (Instr.index 119 (.agg shT) (.int .i64 2)).run Tryz.prog w = .ok (.agg #[.int .i64 64, .int .i64 11, .int .i64 52]) w)
def soV (k : Int) : Value := if wOk k then sv k.toNat else .agg #[.int .i64 0, .int .i64 0, .int .i64 0]
theorem tW_ok (j : Nat) : wOk (tW j) := by
  unfold tW wOk
  split <;> simp
theorem tW_all {k : Int} (h : ∀ i, i < 3 → (tW i : Int) ≠ k) : ¬ wOk k := by
  have h0 := h 0 (by omega)
  have h1 := h 1 (by omega)
  have h2 := h 2 (by omega)
  simp only [tW] at h0 h1 h2
  unfold wOk
  omega
set_option maxRecDepth 100000 in
set_option maxHeartbeats 1000000 in
theorem shapeOf_any (k : Int) (w : World) : Calls Tryz.prog 78 #[.int .i64 k] w fun e w' => e = .returned (.tuple #[soV k, .bool (decide (wOk k))]) ∧ Below w.heap.size w w' := by
  obtain ⟨V, hV⟩ : ∃ V, soV k = V := ⟨_, rfl⟩
  obtain ⟨O, hO⟩ : ∃ O, decide (wOk k) = O := ⟨_, rfl⟩
  rw [hV, hO]
  have HV := Lib.hid (And.intro hV hO)
  clear hV hO
  have HB := Lib.hid (Rs3.new w 69)
  go_enter Tryz.func78, Tryz.ntmps78
  go_wp2_with fail
  refine (shapes_any _).mono ?_
  rintro e w1 ⟨rfl, hb⟩
  have H1 := Lib.hid (HB.out.on hb)
  clear hb
  go_wp2_with fail
  go_loopw [7] (fun s7 wr => ∃ j : Nat, j ≤ 3 ∧ s7 = .int .i64 (j : Int) ∧ Hid (∀ i, i < j → (tW i : Int) ≠ k) ∧ Hid (Rs3 w 69 wr)) (fun s7 _ => (3 - intOf s7).toNat)
  case atStart => exact ⟨0, by omega, rfl, Lib.hid (fun i hi => absurd hi (by omega)), H1⟩
  case round =>
    obtain ⟨j, hj, rfl, hno, hR⟩ := hrel
    obtain ⟨c0, c1, c2, f0⟩ := hR.out.all
    have hz := hR.out.z
    have hlt : ∀ o, w.heap.size < (wr.alloc o).heap.size := fun o => by rw [hsz1]; omega
    by_cases hj3 : j < 3
    · have hix := ix3 j hj3
      have HW := Lib.hid (And.intro (tW_ok j) (show (tW j : Int).toNat = tW j from Int.toNat_natCast _))
      obtain ⟨K, hK⟩ : ∃ K, tW j = K := ⟨_, rfl⟩
      rw [hK] at hix HW
      have HKJ := Lib.hid hK
      clear hK
      by_cases he : (K : Int) = k
      · have q1 : ((K : Int) == k) = true := by simp [he]
        have HE := Lib.hid he
        clear he
        go_wp2_with fail
        have hne : ¬ w.heap.size = wr.heap.size := by omega
        have hblk := hR.out.blk
        refine bodyPost_ret (v := .tuple #[.agg #[.int .i64 (K : Int), .int .i64 (xb K : Int), .int .i64 (fb K : Int)], .bool true]) (by simp [results, Tryz.results78, go_sem, World.cell?, World.setCell, World.alloc, Array.getElem?_push, Array.getElem?_modify, hblk, hne]) rfl ⟨?_, ?_⟩
        · rw [← HV.out.1, ← HV.out.2]
          unfold soV
          rw [← HE.out, if_pos HW.out.1, HW.out.2, decide_eq_true HW.out.1]
          rfl
        · exact (((hR.out.b.setCell (Nat.le_refl _) _).setCell (Nat.le_refl _) _).setCell (Nat.le_refl _) _).alloc (by simp [World.setCell]; omega) _
      · have q1 : ((K : Int) == k) = false := by simp [he]
        have HN2 : Hid (∀ i, i < j + 1 → (tW i : Int) ≠ k) := Lib.hid fun i hi => by
          by_cases h : i < j
          · exact hno.out i h
          · have e : i = j := by omega
            rw [e, HKJ.out]
            exact he
        clear he
        go_wp2_with fail
        go_roundw
        case rel => exact ⟨j + 1, by omega, by go_num, HN2, Lib.hid (hR.out.on ((Below.refl _ _).alloc (Nat.le_refl _) _))⟩
        case measure => simp [intOf]; omega
    · obtain rfl : j = 3 := by omega
      have HN := Lib.hid (tW_all hno.out)
      clear hno
      go_wp2_with fail
      have hblk := hR.out.blk
      refine bodyPost_ret (v := .tuple #[.agg #[.int .i64 0, .int .i64 0, .int .i64 0], .bool false]) (by simp [results, Tryz.results78, go_sem, World.cell?, World.setCell, Array.getElem?_modify, hblk]) rfl ⟨?_, ?_⟩
      · rw [← HV.out.1, ← HV.out.2]
        unfold soV
        rw [if_neg HN.out, decide_eq_false HN.out]
      · exact ((hR.out.b.setCell (Nat.le_refl _) _).setCell (Nat.le_refl _) _).setCell (Nat.le_refl _) _
end Go.Proofs.YtcndkhgbgjnclaaGreatDoor.nn
/- The real fbits: the shape for a width and bits; Class, Parts. -/
namespace Go.Proofs.YtcndkhgbgjnclaaGreatDoor.nn
open Go.RowKit Go.Great

def z3 : Value := .agg #[.int .i64 0, .int .i64 0, .int .i64 0]
def sfV (k : Int) (x : Nat) : Value := if fits k x then sv k.toNat else z3
def SfAns (k : Int) (x : Nat) (W : World) (e : Ending) (W' : World) : Prop := e = .returned (.tuple #[sfV k x, .int .i64 (paE k x : Int)]) ∧ Below W.heap.size W W'
set_option maxRecDepth 100000 in
set_option maxHeartbeats 1000000 in
theorem shapeFor_no (k : Int) (x : Nat) (w : World) (hk : ¬ wOk k) : Calls Tryz.prog 35 #[.int .i64 k, .int .u64 (x : Int)] w (SfAns k x w) := by
  have HNO : Hid (¬ fits k x) := Lib.hid fun h => hk h.1
  have HS : Hid (∀ W, Calls Tryz.prog 78 #[.int .i64 k] W fun e w' => e = .returned (.tuple #[.agg #[.int .i64 0, .int .i64 0, .int .i64 0], .bool false]) ∧ Below W.heap.size W w') := Lib.hid fun W => by
    have h := shapeOf_any k W
    unfold soV at h
    rw [if_neg hk, decide_eq_false hk] at h
    exact h
  clear hk
  have HB := Lib.hid (Rs3.new w 69)
  go_enter Tryz.func35, Tryz.ntmps35
  go_wp2_with fail
  refine (HS.out _).mono ?_
  rintro e w1 ⟨rfl, hb⟩
  have H1 := Lib.hid (HB.out.on hb)
  obtain ⟨c0, c1, c2, f0⟩ := H1.out.all
  have hz := H1.out.z
  have hlt : ∀ o, w.heap.size < (w1.alloc o).heap.size := fun o => by rw [hsz1]; omega
  clear hb
  go_wp2_with fail
  have hne : ¬ w.heap.size = w1.heap.size := by omega
  have hblk := H1.out.blk
  refine bodyPost_ret (v := .tuple #[.agg #[.int .i64 0, .int .i64 0, .int .i64 0], .int .i64 1]) (by simp [results, Tryz.results35, go_sem, World.cell?, World.setCell, World.alloc, Array.getElem?_push, Array.getElem?_modify, hblk, hne]) rfl ⟨?_, ?_⟩
  · unfold sfV paE
    rw [if_neg HNO.out, if_neg HNO.out]
    rfl
  · exact (((H1.out.b.setCell (Nat.le_refl _) _).setCell (Nat.le_refl _) _).setCell (Nat.le_refl _) _).alloc (by simp [World.setCell]; omega) _
set_option maxRecDepth 100000 in
set_option maxHeartbeats 1000000 in
theorem shapeFor_16_yes (x : Nat) (w : World) (hx : x < 18446744073709551616) (h : x < 65536) : Calls Tryz.prog 35 #[.int .i64 16, .int .u64 (x : Int)] w (SfAns ((16 : Nat) : Int) x w) := by
  have HF : Hid (fits ((16 : Nat) : Int) x) := Lib.hid (⟨by unfold wOk; omega, fun _ => h⟩)
  have q1 : ((x : Int) / 65536 != 0) = false := by simp; omega
  clear h
  have HS : Hid (∀ W, Calls Tryz.prog 78 #[.int .i64 16] W fun e w' => e = .returned (.tuple #[.agg #[.int .i64 16, .int .i64 5, .int .i64 10], .bool true]) ∧ Below W.heap.size W w') := Lib.hid fun W => shapeOf_any 16 W
  have HB := Lib.hid (Rs3.new w 69)
  go_enter Tryz.func35, Tryz.ntmps35
  go_wp2_with fail
  refine (HS.out _).mono ?_
  rintro e w1 ⟨rfl, hb⟩
  have H1 := Lib.hid (HB.out.on hb)
  obtain ⟨c0, c1, c2, f0⟩ := H1.out.all
  have hz := H1.out.z
  have hlt : ∀ o, w.heap.size < (w1.alloc o).heap.size := fun o => by rw [hsz1]; omega
  clear hb
  go_wp2_with fail
  have hne : ¬ w.heap.size = w1.heap.size := by omega
  have hblk := H1.out.blk
  refine bodyPost_ret (v := .tuple #[.agg #[.int .i64 16, .int .i64 5, .int .i64 10], .int .i64 0]) (by simp [results, Tryz.results35, go_sem, World.cell?, World.setCell, World.alloc, Array.getElem?_push, Array.getElem?_modify, hblk, hne]) rfl ⟨?_, ?_⟩
  · unfold sfV paE
    rw [if_pos HF.out, if_pos HF.out]
    rfl
  · exact (((H1.out.b.setCell (Nat.le_refl _) _).setCell (Nat.le_refl _) _).setCell (Nat.le_refl _) _).alloc (by simp [World.setCell]; omega) _
set_option maxRecDepth 100000 in
set_option maxHeartbeats 1000000 in
theorem shapeFor_16_no (x : Nat) (w : World) (hx : x < 18446744073709551616) (h : ¬ x < 65536) : Calls Tryz.prog 35 #[.int .i64 16, .int .u64 (x : Int)] w (SfAns ((16 : Nat) : Int) x w) := by
  have HF : Hid (¬ fits ((16 : Nat) : Int) x) := Lib.hid (fun h' => h (h'.2 (by decide)))
  have q1 : ((x : Int) / 65536 != 0) = true := by simp; omega
  clear h
  have HS : Hid (∀ W, Calls Tryz.prog 78 #[.int .i64 16] W fun e w' => e = .returned (.tuple #[.agg #[.int .i64 16, .int .i64 5, .int .i64 10], .bool true]) ∧ Below W.heap.size W w') := Lib.hid fun W => shapeOf_any 16 W
  have HB := Lib.hid (Rs3.new w 69)
  go_enter Tryz.func35, Tryz.ntmps35
  go_wp2_with fail
  refine (HS.out _).mono ?_
  rintro e w1 ⟨rfl, hb⟩
  have H1 := Lib.hid (HB.out.on hb)
  obtain ⟨c0, c1, c2, f0⟩ := H1.out.all
  have hz := H1.out.z
  have hlt : ∀ o, w.heap.size < (w1.alloc o).heap.size := fun o => by rw [hsz1]; omega
  clear hb
  go_wp2_with fail
  have hne : ¬ w.heap.size = w1.heap.size := by omega
  have hblk := H1.out.blk
  refine bodyPost_ret (v := .tuple #[.agg #[.int .i64 0, .int .i64 0, .int .i64 0], .int .i64 1]) (by simp [results, Tryz.results35, go_sem, World.cell?, World.setCell, World.alloc, Array.getElem?_push, Array.getElem?_modify, hblk, hne]) rfl ⟨?_, ?_⟩
  · unfold sfV paE
    rw [if_neg HF.out, if_neg HF.out]
    rfl
  · exact (((H1.out.b.setCell (Nat.le_refl _) _).setCell (Nat.le_refl _) _).setCell (Nat.le_refl _) _).alloc (by simp [World.setCell]; omega) _
set_option maxRecDepth 100000 in
set_option maxHeartbeats 1000000 in
theorem shapeFor_32_yes (x : Nat) (w : World) (hx : x < 18446744073709551616) (h : x < 4294967296) : Calls Tryz.prog 35 #[.int .i64 32, .int .u64 (x : Int)] w (SfAns ((32 : Nat) : Int) x w) := by
  have HF : Hid (fits ((32 : Nat) : Int) x) := Lib.hid (⟨by unfold wOk; omega, fun _ => h⟩)
  have q1 : ((x : Int) / 4294967296 != 0) = false := by simp; omega
  clear h
  have HS : Hid (∀ W, Calls Tryz.prog 78 #[.int .i64 32] W fun e w' => e = .returned (.tuple #[.agg #[.int .i64 32, .int .i64 8, .int .i64 23], .bool true]) ∧ Below W.heap.size W w') := Lib.hid fun W => shapeOf_any 32 W
  have HB := Lib.hid (Rs3.new w 69)
  go_enter Tryz.func35, Tryz.ntmps35
  go_wp2_with fail
  refine (HS.out _).mono ?_
  rintro e w1 ⟨rfl, hb⟩
  have H1 := Lib.hid (HB.out.on hb)
  obtain ⟨c0, c1, c2, f0⟩ := H1.out.all
  have hz := H1.out.z
  have hlt : ∀ o, w.heap.size < (w1.alloc o).heap.size := fun o => by rw [hsz1]; omega
  clear hb
  go_wp2_with fail
  have hne : ¬ w.heap.size = w1.heap.size := by omega
  have hblk := H1.out.blk
  refine bodyPost_ret (v := .tuple #[.agg #[.int .i64 32, .int .i64 8, .int .i64 23], .int .i64 0]) (by simp [results, Tryz.results35, go_sem, World.cell?, World.setCell, World.alloc, Array.getElem?_push, Array.getElem?_modify, hblk, hne]) rfl ⟨?_, ?_⟩
  · unfold sfV paE
    rw [if_pos HF.out, if_pos HF.out]
    rfl
  · exact (((H1.out.b.setCell (Nat.le_refl _) _).setCell (Nat.le_refl _) _).setCell (Nat.le_refl _) _).alloc (by simp [World.setCell]; omega) _
set_option maxRecDepth 100000 in
set_option maxHeartbeats 1000000 in
theorem shapeFor_32_no (x : Nat) (w : World) (hx : x < 18446744073709551616) (h : ¬ x < 4294967296) : Calls Tryz.prog 35 #[.int .i64 32, .int .u64 (x : Int)] w (SfAns ((32 : Nat) : Int) x w) := by
  have HF : Hid (¬ fits ((32 : Nat) : Int) x) := Lib.hid (fun h' => h (h'.2 (by decide)))
  have q1 : ((x : Int) / 4294967296 != 0) = true := by simp; omega
  clear h
  have HS : Hid (∀ W, Calls Tryz.prog 78 #[.int .i64 32] W fun e w' => e = .returned (.tuple #[.agg #[.int .i64 32, .int .i64 8, .int .i64 23], .bool true]) ∧ Below W.heap.size W w') := Lib.hid fun W => shapeOf_any 32 W
  have HB := Lib.hid (Rs3.new w 69)
  go_enter Tryz.func35, Tryz.ntmps35
  go_wp2_with fail
  refine (HS.out _).mono ?_
  rintro e w1 ⟨rfl, hb⟩
  have H1 := Lib.hid (HB.out.on hb)
  obtain ⟨c0, c1, c2, f0⟩ := H1.out.all
  have hz := H1.out.z
  have hlt : ∀ o, w.heap.size < (w1.alloc o).heap.size := fun o => by rw [hsz1]; omega
  clear hb
  go_wp2_with fail
  have hne : ¬ w.heap.size = w1.heap.size := by omega
  have hblk := H1.out.blk
  refine bodyPost_ret (v := .tuple #[.agg #[.int .i64 0, .int .i64 0, .int .i64 0], .int .i64 1]) (by simp [results, Tryz.results35, go_sem, World.cell?, World.setCell, World.alloc, Array.getElem?_push, Array.getElem?_modify, hblk, hne]) rfl ⟨?_, ?_⟩
  · unfold sfV paE
    rw [if_neg HF.out, if_neg HF.out]
    rfl
  · exact (((H1.out.b.setCell (Nat.le_refl _) _).setCell (Nat.le_refl _) _).setCell (Nat.le_refl _) _).alloc (by simp [World.setCell]; omega) _
set_option maxRecDepth 100000 in
set_option maxHeartbeats 1000000 in
theorem shapeFor_64_yes (x : Nat) (w : World) (hx : x < 18446744073709551616) (_ : x < 18446744073709551616) : Calls Tryz.prog 35 #[.int .i64 64, .int .u64 (x : Int)] w (SfAns ((64 : Nat) : Int) x w) := by
  have HF : Hid (fits ((64 : Nat) : Int) x) := Lib.hid (⟨by unfold wOk; omega, fun h => absurd h (by decide)⟩)
  have q1 : ((x : Int) / 18446744073709551616 != 0) = false := by simp; omega
  have HS : Hid (∀ W, Calls Tryz.prog 78 #[.int .i64 64] W fun e w' => e = .returned (.tuple #[.agg #[.int .i64 64, .int .i64 11, .int .i64 52], .bool true]) ∧ Below W.heap.size W w') := Lib.hid fun W => shapeOf_any 64 W
  have HB := Lib.hid (Rs3.new w 69)
  go_enter Tryz.func35, Tryz.ntmps35
  go_wp2_with fail
  refine (HS.out _).mono ?_
  rintro e w1 ⟨rfl, hb⟩
  have H1 := Lib.hid (HB.out.on hb)
  obtain ⟨c0, c1, c2, f0⟩ := H1.out.all
  have hz := H1.out.z
  have hlt : ∀ o, w.heap.size < (w1.alloc o).heap.size := fun o => by rw [hsz1]; omega
  clear hb
  go_wp2_with fail
  have hne : ¬ w.heap.size = w1.heap.size := by omega
  have hblk := H1.out.blk
  refine bodyPost_ret (v := .tuple #[.agg #[.int .i64 64, .int .i64 11, .int .i64 52], .int .i64 0]) (by simp [results, Tryz.results35, go_sem, World.cell?, World.setCell, World.alloc, Array.getElem?_push, Array.getElem?_modify, hblk, hne]) rfl ⟨?_, ?_⟩
  · unfold sfV paE
    rw [if_pos HF.out, if_pos HF.out]
    rfl
  · exact (((H1.out.b.setCell (Nat.le_refl _) _).setCell (Nat.le_refl _) _).setCell (Nat.le_refl _) _).alloc (by simp [World.setCell]; omega) _

theorem shapeFor_any (k : Int) (x : Nat) (w : World) (hx : x < 18446744073709551616) : Calls Tryz.prog 35 #[.int .i64 k, .int .u64 (x : Int)] w (SfAns k x w) := by
  by_cases hk : wOk k
  · unfold wOk at hk
    rcases hk with rfl | rfl | rfl
    · by_cases h : x < 65536
      · exact shapeFor_16_yes x w hx h
      · exact shapeFor_16_no x w hx h
    · by_cases h : x < 4294967296
      · exact shapeFor_32_yes x w hx h
      · exact shapeFor_32_no x w hx h
    · exact shapeFor_64_yes x w hx hx
  · exact shapeFor_no k x w hk
theorem fits.facts {k : Int} {x : Nat} (h : fits k x) (hx : x < 18446744073709551616) : kOk k.toNat ∧ x < lim k.toNat := by
  obtain ⟨h1, h2⟩ := h
  unfold wOk at h1
  rcases h1 with rfl | rfl | rfl
  · exact ⟨.inl rfl, h2 (by decide)⟩
  · exact ⟨.inr (.inl rfl), h2 (by decide)⟩
  · exact ⟨.inr (.inr rfl), hx⟩
/-- the two ways of shapeFor -/
theorem shapeFor_yes {k : Int} {x : Nat} (W : World) (hx : x < 18446744073709551616) (h : fits k x) : Calls Tryz.prog 35 #[.int .i64 k, .int .u64 (x : Int)] W fun e w' => e = .returned (.tuple #[sv k.toNat, .int .i64 0]) ∧ Below W.heap.size W w' := by
  have := shapeFor_any k x W hx
  unfold SfAns sfV paE at this
  rw [if_pos h, if_pos h] at this
  exact this
theorem shapeFor_not {k : Int} {x : Nat} (W : World) (hx : x < 18446744073709551616) (h : ¬ fits k x) : Calls Tryz.prog 35 #[.int .i64 k, .int .u64 (x : Int)] W fun e w' => e = .returned (.tuple #[z3, .int .i64 1]) ∧ Below W.heap.size W w' := by
  have := shapeFor_any k x W hx
  unfold SfAns sfV paE at this
  rw [if_neg h, if_neg h] at this
  exact this
set_option maxRecDepth 100000 in
set_option maxHeartbeats 1000000 in
theorem fclass_any (k : Int) (x : Nat) (w : World) (hx : x < 18446744073709551616) : Calls Tryz.prog 14 #[.int .i64 k, .int .u64 (x : Int)] w (ClAns k x w) := by
  unfold ClAns
  by_cases hf : fits k x
  · have HS := Lib.hid (fun W => shapeFor_yes W hx hf)
    obtain ⟨hk, hl⟩ := hf.facts hx
    have e3 : paE k x = 0 := by unfold paE; rw [if_pos hf]
    have e4 : clC k x = clk k.toNat x := by unfold clC; rw [if_pos hf]; rfl
    rw [e3, e4]
    have HC := Lib.hid (fun W => class_any k.toNat x W hk hl)
    clear e3 e4 hf hk hl
    obtain ⟨R, hR⟩ : ∃ R, clk k.toNat x = R := ⟨_, rfl⟩
    rw [hR] at HC ⊢
    clear hR
    obtain ⟨K, hK⟩ : ∃ K, k.toNat = K := ⟨_, rfl⟩
    rw [hK] at HC HS
    clear hK
    unfold sv at HS HC
    go_enter Tryz.func14, Tryz.ntmps14
    go_wp2_with fail
    with_reducible refine (HS.out _).mono ?_
    rintro e w1 ⟨rfl, hb⟩
    have H1 := Lib.hid hb
    clear hb
    go_wp2_with fail
    with_reducible refine (HC.out _).mono ?_
    rintro e w2 ⟨rfl, hb⟩
    have H2 := Lib.hid ((H1.out.alloc H1.out.size _).trans (hb.mono (Nat.le_trans H1.out.size (by simp))))
    clear hb
    go_wp2_with fail
    go_ret2
    exact ⟨rfl, H2.out⟩
  · have HS := Lib.hid (fun W => shapeFor_not W hx hf)
    have e3 : paE k x = 1 := by unfold paE; rw [if_neg hf]
    have e4 : clC k x = 0 := by unfold clC; rw [if_neg hf]
    rw [e3, e4]
    clear e3 e4 hf
    unfold z3 at HS
    go_enter Tryz.func14, Tryz.ntmps14
    go_wp2_with fail
    with_reducible refine (HS.out _).mono ?_
    rintro e w1 ⟨rfl, hb⟩
    have H1 := Lib.hid hb
    clear hb
    go_wp2_with fail
    go_ret2
    exact ⟨rfl, H1.out.alloc H1.out.size _⟩
end Go.Proofs.YtcndkhgbgjnclaaGreatDoor.nn
/- The real fbits: compose: the bits of m times 2^e. -/
namespace Go.Proofs.YtcndkhgbgjnclaaGreatDoor.nn
open Go.RowKit

theorem bitLen_log2 : ∀ (f x : Nat), 0 < x → x < 2 ^ f → f ≤ 64 → Lib.bitLen x = x.log2 + 1
  | 0, x, h0, h, _ => by rw [Nat.pow_zero] at h; omega
  | f + 1, x, h0, h, hf => by
    have hx : x < 2 ^ 64 := Nat.lt_of_lt_of_le h (Nat.pow_le_pow_right (by decide) hf)
    rw [Lib.bitLen_half x (by omega) hx]
    by_cases h1 : x < 2
    · obtain rfl : x = 1 := by omega
      decide
    · have h2 : 2 ^ 1 ≤ x := by omega
      have h3 := log2_div h2
      have h4 : 1 ≤ x.log2 := (Nat.le_log2 (by omega)).2 h2
      rw [show (2 : Nat) ^ 1 = 2 by decide] at h3
      rw [bitLen_log2 f (x / 2) (by omega) (by rw [Nat.pow_succ] at h; omega) (by omega), h3]
      omega
section
variable {m a b : Nat} {n : Int}
theorem sV_lt (h : m < 2 ^ a) (hb : (a : Int) + n ≤ (b : Int)) : sV m n < 2 ^ b := by
  unfold sV
  by_cases hn : n < 0
  · rw [if_pos hn]
    obtain ⟨d, rfl⟩ : ∃ d : Nat, n = -(d : Int) := ⟨(-n).toNat, by omega⟩
    rw [show (-(-(d : Int))).toNat = d by omega]
    refine Nat.div_lt_of_lt_mul ?_
    rw [← Nat.pow_add]
    exact Nat.lt_of_lt_of_le h (Nat.pow_le_pow_right (by decide) (by omega))
  · rw [if_neg hn]
    obtain ⟨d, rfl⟩ : ∃ d : Nat, n = (d : Int) := ⟨n.toNat, by omega⟩
    rw [Int.toNat_natCast]
    refine Nat.lt_of_le_of_lt (Nat.mod_le _ _) ?_
    refine Nat.lt_of_lt_of_le (Nat.mul_lt_mul_of_pos_right h (Nat.two_pow_pos d)) ?_
    rw [← Nat.pow_add]
    exact Nat.pow_le_pow_right (by decide) (by omega)
theorem sV_ge (h : 2 ^ a ≤ m) (hb : (a : Int) + n = (b : Int)) (hO : sOk m n = true) : 2 ^ b ≤ sV m n := by
  unfold sOk at hO
  unfold sV
  by_cases hn : n < 0
  · rw [if_pos hn]
    obtain ⟨d, rfl⟩ : ∃ d : Nat, n = -(d : Int) := ⟨(-n).toNat, by omega⟩
    rw [show (-(-(d : Int))).toNat = d by omega]
    refine (Nat.le_div_iff_mul_le (Nat.two_pow_pos d)).2 ?_
    rw [← Nat.pow_add, show b + d = a by omega]
    exact h
  · rw [if_neg hn] at hO ⊢
    obtain ⟨d, rfl⟩ : ∃ d : Nat, n = (d : Int) := ⟨n.toNat, by omega⟩
    rw [Int.toNat_natCast] at hO ⊢
    rw [Nat.mod_eq_of_lt (of_decide_eq_true hO), show b = a + d by omega, Nat.pow_add]
    exact Nat.mul_le_mul_right _ h
end
/-- the unit that m times 2^e is counted in -/
def unt (k m : Nat) (e : Int) : Int := max ((m.log2 : Int) + e - (fb k : Int)) (1 - (bia k : Int) - (fb k : Int))
def cmO (k m : Nat) (e : Int) : Bool := if m = 0 then true else decide ((m.log2 : Int) + e ≤ (bia k : Int)) && sOk m (e - unt k m e)
def cmU (k m : Nat) (e : Int) : Nat := sV m (e - unt k m e)
def cmV (k : Nat) (neg : Bool) (m : Nat) (e : Int) : Nat :=
  if cmO k m e then (if m = 0 then kv (xb k) (fb k) neg 0 0 else if cmU k m e < hdn k then kv (xb k) (fb k) neg 0 (cmU k m e) else kv (xb k) (fb k) neg ((m.log2 : Int) + e + (bia k : Int)).toNat (cmU k m e - hdn k)) else 0
theorem kOk.bt {k : Nat} (h : kOk k) : onz k = 2 * bia k + 1 := by have := h.facts; omega
theorem cmU_lt {k m : Nat} {e : Int} (_ : 0 < m) : cmU k m e < 2 ^ (fb k + 1) := by
  unfold cmU unt
  refine sV_lt (Nat.lt_log2_self (n := m)) ?_
  omega
theorem cmU_low {k m : Nat} {e : Int} (_ : 0 < m) (h : (m.log2 : Int) + e < 1 - (bia k : Int)) : cmU k m e < 2 ^ fb k := by
  unfold cmU unt
  refine sV_lt (Nat.lt_log2_self (n := m)) ?_
  omega
theorem cmU_high {k m : Nat} {e : Int} (h0 : 0 < m) (h : 1 - (bia k : Int) ≤ (m.log2 : Int) + e) (hO : sOk m (e - unt k m e) = true) : 2 ^ fb k ≤ cmU k m e := by
  unfold cmU
  refine sV_ge (Nat.log2_self_le (by omega)) ?_ hO
  unfold unt
  omega
end Go.Proofs.YtcndkhgbgjnclaaGreatDoor.nn
/- The walk of the real compose. -/
namespace Go.Proofs.YtcndkhgbgjnclaaGreatDoor.nn
open Go.RowKit

theorem ret_ub {a c : Int} {b d : Bool} (h1 : a = c) (h2 : b = d) : Ending.returned (.tuple #[.int .u64 a, .bool b]) = .returned (.tuple #[.int .u64 c, .bool d]) := by rw [h1, h2]
end Go.Proofs.YtcndkhgbgjnclaaGreatDoor.nn
/- The real fbits: compose of any; the walk of convert. -/
namespace Go.Proofs.YtcndkhgbgjnclaaGreatDoor.nn
open Go.RowKit

/-- the worlds behind a call's two boxed shapes -/
structure Bs2 (w : World) (k j : Nat) (W : World) : Prop where
  c0 : W.cell? ⟨w.heap.size, 0, none⟩ = some (.int .i64 (k : Int))
  c1 : W.cell? ⟨w.heap.size, 1, none⟩ = some (.int .i64 (xb k : Int))
  c2 : W.cell? ⟨w.heap.size, 2, none⟩ = some (.int .i64 (fb k : Int))
  d0 : W.cell? ⟨w.heap.size + 1, 0, none⟩ = some (.int .i64 (j : Int))
  d1 : W.cell? ⟨w.heap.size + 1, 1, none⟩ = some (.int .i64 (xb j : Int))
  d2 : W.cell? ⟨w.heap.size + 1, 2, none⟩ = some (.int .i64 (fb j : Int))
  b : Below w.heap.size w W
  z : w.heap.size + 1 < W.heap.size
theorem Bs2.new (w : World) (k j : Nat) (T : TypeId) : Bs2 w k j ((w.alloc (.cells #[.int .i64 (k : Int), .int .i64 (xb k : Int), .int .i64 (fb k : Int)] T)).alloc (.cells #[.int .i64 (j : Int), .int .i64 (xb j : Int), .int .i64 (fb j : Int)] T)) := by
  have h := Bs.new w k T
  have h2 := Bs.new (w.alloc (.cells #[.int .i64 (k : Int), .int .i64 (xb k : Int), .int .i64 (fb k : Int)] T)) j T
  have hz : (w.alloc (.cells #[.int .i64 (k : Int), .int .i64 (xb k : Int), .int .i64 (fb k : Int)] T)).heap.size = w.heap.size + 1 := by simp
  have h3 := h.on h2.b
  obtain ⟨x0, x1, x2, _, x4⟩ := h2
  rw [hz] at x0 x1 x2 x4
  exact ⟨h3.c0, h3.c1, h3.c2, x0, x1, x2, h3.b, x4⟩
theorem Bs2.on {w W W' : World} {k j : Nat} (h : Bs2 w k j W) (hB : Below W.heap.size W W') : Bs2 w k j W' := by
  have hz := h.z
  have hz1 : w.heap.size < W.heap.size := by omega
  exact ⟨(hB.cell (p := ⟨_, _, none⟩) hz1).trans h.c0, (hB.cell (p := ⟨_, _, none⟩) hz1).trans h.c1, (hB.cell (p := ⟨_, _, none⟩) hz1).trans h.c2, (hB.cell (p := ⟨_, _, none⟩) hz).trans h.d0, (hB.cell (p := ⟨_, _, none⟩) hz).trans h.d1, (hB.cell (p := ⟨_, _, none⟩) hz).trans h.d2, h.b.trans (hB.mono (by omega)), Nat.lt_of_lt_of_le hz hB.size⟩
theorem Bs2.drew {w W : World} {k j : Nat} (h : Bs2 w k j W) : Bs2 w k j W.drew := h.on (Below.drew (Below.refl _ _))
theorem Bs2.all {w W : World} {k j : Nat} (h : Bs2 w k j W) : W.cell? ⟨w.heap.size, 0, none⟩ = some (.int .i64 (k : Int)) ∧ W.cell? ⟨w.heap.size, 1, none⟩ = some (.int .i64 (xb k : Int)) ∧ W.cell? ⟨w.heap.size, 2, none⟩ = some (.int .i64 (fb k : Int)) ∧
    W.cell? ⟨w.heap.size + 1, 0, none⟩ = some (.int .i64 (j : Int)) ∧ W.cell? ⟨w.heap.size + 1, 1, none⟩ = some (.int .i64 (xb j : Int)) ∧ W.cell? ⟨w.heap.size + 1, 2, none⟩ = some (.int .i64 (fb j : Int)) ∧ Bs2 w k j W := ⟨h.c0, h.c1, h.c2, h.d0, h.d1, h.d2, h⟩
/-- what convert answers -/
def cvO (k j x : Nat) : Bool := if ex k x = onz k then sOk (fr k x) ((fb j : Int) - (fb k : Int)) else cmO j (aM k (ex k x) (fr k x)) (aE k (ex k x))
def cvV (k j x : Nat) : Nat := if ex k x = onz k then (if cvO k j x then kv (xb j) (fb j) (sg k x) (onz j) (sV (fr k x) ((fb j : Int) - (fb k : Int))) else 0) else cmV j (sg k x) (aM k (ex k x) (fr k x)) (aE k (ex k x))
theorem cl5_inf {k X M : Nat} : (3 ≤ cl5 (xb k) X M ↔ X = onz k) ∧ cl5 (xb k) X M < 5 := by
  unfold cl5
  rw [show 2 ^ xb k - 1 = onz k from rfl]
  by_cases h : X = onz k
  · rw [if_pos h]
    split <;> exact ⟨⟨fun _ => h, fun _ => by omega⟩, by omega⟩
  · rw [if_neg h]
    split
    · exact ⟨⟨fun h2 => absurd h2 (by omega), fun h2 => absurd h2 h⟩, by omega⟩
    · split <;> exact ⟨⟨fun h2 => absurd h2 (by omega), fun h2 => absurd h2 h⟩, by omega⟩
theorem aM_lt {k X M : Nat} (hk : kOk k) (hM : M < hdn k) : aM k X M < 9007199254740992 := by
  have := hk.facts
  unfold aM
  split <;> omega
theorem aE_le {k X : Nat} (hk : kOk k) (hX : X ≤ onz k) : -1074 ≤ aE k X ∧ aE k X ≤ 972 := by
  have := hk.facts
  unfold aE
  split <;> omega
end Go.Proofs.YtcndkhgbgjnclaaGreatDoor.nn
/- Plain facts of floats as bits: there and back, order, whole numbers. -/
namespace Go.Proofs.YtcndkhgbgjnclaaGreatDoor.nn

theorem wd_16 (x : Nat) : wdV 16 x = jv (sg 16 x) (wX 15 32 10 (ex 16 x) (fr 16 x)) (wM 32 10 (ex 16 x) (fr 16 x)) := by
  have h1 := ex_lt (w := 16) (x := x)
  rw [show (2 : Nat) ^ xb 16 = 32 from rfl] at h1
  unfold wdV clk cl5 wX wM wdm
  rw [show (2 : Nat) ^ xb 16 - 1 = 31 from rfl, show bia 16 = 15 from rfl, show fb 16 = 10 from rfl, show 32 - 1 = 31 from rfl]
  by_cases c1 : ex 16 x = 31
  · simp only [c1, if_true, true_or]
    by_cases c2 : fr 16 x = 0 <;> simp [c2]
  · simp only [c1, if_false, false_or]
    by_cases c2 : 0 < ex 16 x
    · simp [c2]
    · simp only [c2, if_false]
      by_cases c3 : 0 < fr 16 x
      · simp [c3]
      · simp [c3]
theorem wd_32 (x : Nat) : wdV 32 x = jv (sg 32 x) (wX 127 256 23 (ex 32 x) (fr 32 x)) (wM 256 23 (ex 32 x) (fr 32 x)) := by
  have h1 := ex_lt (w := 32) (x := x)
  rw [show (2 : Nat) ^ xb 32 = 256 from rfl] at h1
  unfold wdV clk cl5 wX wM wdm
  rw [show (2 : Nat) ^ xb 32 - 1 = 255 from rfl, show bia 32 = 127 from rfl, show fb 32 = 23 from rfl, show 256 - 1 = 255 from rfl]
  by_cases c1 : ex 32 x = 255
  · simp only [c1, if_true, true_or]
    by_cases c2 : fr 32 x = 0 <;> simp [c2]
  · simp only [c1, if_false, false_or]
    by_cases c2 : 0 < ex 32 x
    · simp [c2]
    · simp only [c2, if_false]
      by_cases c3 : 0 < fr 32 x
      · simp [c3]
      · simp [c3]
theorem wd_64 {x : Nat} (hx : x < 18446744073709551616) : wdV 64 x = x := by
  have hj := parts_jv hx
  unfold wdV clk cl5 wdm
  rw [show (2 : Nat) ^ xb 64 - 1 = 2047 from rfl, show bia 64 = 1023 from rfl, show 52 - fb 64 = 0 from rfl, Nat.pow_zero, Nat.mul_one]
  by_cases c1 : ex 64 x = 2047
  · simp only [c1, if_true]
    rw [c1] at hj
    by_cases c2 : fr 64 x = 0
    · simp [c2]; rw [c2] at hj; exact hj
    · simp [c2]; exact hj
  · simp only [c1, if_false]
    by_cases c2 : 0 < ex 64 x
    · simp [c2]; exact hj
    · simp only [c2, if_false]
      have c0 : ex 64 x = 0 := by omega
      by_cases c3 : 0 < fr 64 x
      · simp [c3]
      · have c4 : fr 64 x = 0 := by omega
        simp [c4]
        rw [c0, c4] at hj
        exact hj

theorem fits16 {x : Nat} : fits 16 x ↔ x < 65536 := ⟨fun h => h.2 (by decide), fun h => ⟨by unfold wOk; omega, fun _ => h⟩⟩
theorem fits32 {x : Nat} : fits 32 x ↔ x < 4294967296 := ⟨fun h => h.2 (by decide), fun h => ⟨by unfold wOk; omega, fun _ => h⟩⟩
theorem wi_ok {k : Int} {x : Nat} (h : fits k x) : wiV k x = wdV k.toNat x := if_pos h
theorem nr_ok {k : Int} {x : Nat} (hk : wOk k) (h : k ≠ 64) : nrO k x = nwO (xb k.toNat) (fb k.toNat) (ex 64 x) (fr 64 x) ∧ nrV k x = nwA (xb k.toNat) (fb k.toNat) (sg 64 x) (ex 64 x) (fr 64 x) := by
  unfold nrO nrV
  rw [if_pos hk, if_pos hk, if_neg h, if_neg h]
  exact ⟨rfl, rfl⟩
theorem cl_ok {k : Int} {x : Nat} (h : fits k x) : clC k x = cl5 (xb k.toNat) (ex k.toNat x) (fr k.toNat x) := if_pos h

/-- bits that are widened are narrowed to themselves -/
theorem wi_back {k : Int} {b : Nat} (h : fits k b) (hb : b < 18446744073709551616) : wiV k b < 18446744073709551616 ∧ nrO k (wiV k b) = true ∧ nrV k (wiV k b) = b := by
  have hk := h.1
  unfold wOk at hk
  rw [wi_ok h]
  rcases hk with rfl | rfl | rfl
  · have hX := ex_lt (w := 16) (x := b)
    have hM := fr_lt (w := 16) (x := b)
    rw [show (2 : Nat) ^ xb 16 = 32 from rfl] at hX
    rw [show fb 16 = 10 from rfl] at hM
    obtain ⟨a1, a2⟩ := wd16.wide hX hM
    obtain ⟨b1, b2⟩ := wd16.back hX hM (sg 16 b)
    obtain ⟨j1, j2, j3, j4⟩ := jv_parts (S := sg 16 b) (by omega) a2 (X := wX 15 32 10 (ex 16 b) (fr 16 b))
    obtain ⟨n1, n2⟩ := nr_ok (k := 16) (x := wdV 16 b) (by unfold wOk; omega) (by decide)
    rw [show Int.toNat 16 = 16 from rfl, show xb 16 = 5 from rfl, show fb 16 = 10 from rfl] at n1 n2
    rw [show Int.toNat 16 = 16 from rfl, n1, n2, wd_16, j1, j2, j3]
    exact ⟨j4, b1, b2.trans (parts_kv16 (fits16.1 h))⟩
  · have hX := ex_lt (w := 32) (x := b)
    have hM := fr_lt (w := 32) (x := b)
    rw [show (2 : Nat) ^ xb 32 = 256 from rfl] at hX
    rw [show fb 32 = 23 from rfl] at hM
    obtain ⟨a1, a2⟩ := wd32.wide hX hM
    obtain ⟨b1, b2⟩ := wd32.back hX hM (sg 32 b)
    obtain ⟨j1, j2, j3, j4⟩ := jv_parts (S := sg 32 b) (by omega) a2 (X := wX 127 256 23 (ex 32 b) (fr 32 b))
    obtain ⟨n1, n2⟩ := nr_ok (k := 32) (x := wdV 32 b) (by unfold wOk; omega) (by decide)
    rw [show Int.toNat 32 = 32 from rfl, show xb 32 = 8 from rfl, show fb 32 = 23 from rfl] at n1 n2
    rw [show Int.toNat 32 = 32 from rfl, n1, n2, wd_32, j1, j2, j3]
    exact ⟨j4, b1, b2.trans (parts_kv32 (fits32.1 h))⟩
  · rw [show Int.toNat 64 = 64 from rfl, wd_64 hb]
    exact ⟨hb, rfl, rfl⟩
/-- bits that are narrowed are widened to themselves -/
theorem nr_forth {k : Int} {x : Nat} (hk : wOk k) (hx : x < 18446744073709551616) (hO : nrO k x = true) : nrV k x < 18446744073709551616 ∧ fits k (nrV k x) ∧ wiV k (nrV k x) = x ∧ (clC k (nrV k x) = clC 64 x ∨ clC k (nrV k x) = 1 ∧ clC 64 x = 2) := by
  have hX := ex_lt (w := 64) (x := x)
  have hM := fr_lt (w := 64) (x := x)
  rw [show (2 : Nat) ^ xb 64 = 2048 from rfl] at hX
  rw [show (2 : Nat) ^ fb 64 = 4503599627370496 from rfl] at hM
  have hc := cl_ok (fits64 x)
  rw [show Int.toNat 64 = 64 from rfl, show xb 64 = 11 from rfl] at hc
  have hj := parts_jv hx
  unfold wOk at hk
  rcases hk with rfl | rfl | rfl
  · obtain ⟨n1, n2⟩ := nr_ok (k := 16) (x := x) (by unfold wOk; omega) (by decide)
    rw [show Int.toNat 16 = 16 from rfl, show xb 16 = 5 from rfl, show fb 16 = 10 from rfl] at n1 n2
    rw [n1] at hO
    obtain ⟨X, M, x1, x2, x3, x4, x5, x6⟩ := wd16.forth (by omega) hM hO
    obtain ⟨k1, k2, k3, k4⟩ := kv_parts16 (S := sg 64 x) x1 x2
    have hV : nrV 16 x = kv 5 10 (sg 64 x) X M := n2.trans (x3 _)
    rw [hV]
    have hf := fits16.2 k4
    refine ⟨by omega, hf, ?_, ?_⟩
    · rw [wi_ok hf, show Int.toNat 16 = 16 from rfl, wd_16, k1, k2, k3, x4, x5]; exact hj
    · rw [cl_ok hf, hc, show Int.toNat 16 = 16 from rfl, k2, k3]; exact x6
  · obtain ⟨n1, n2⟩ := nr_ok (k := 32) (x := x) (by unfold wOk; omega) (by decide)
    rw [show Int.toNat 32 = 32 from rfl, show xb 32 = 8 from rfl, show fb 32 = 23 from rfl] at n1 n2
    rw [n1] at hO
    obtain ⟨X, M, x1, x2, x3, x4, x5, x6⟩ := wd32.forth (by omega) hM hO
    obtain ⟨k1, k2, k3, k4⟩ := kv_parts32 (S := sg 64 x) x1 x2
    have hV : nrV 32 x = kv 8 23 (sg 64 x) X M := n2.trans (x3 _)
    rw [hV]
    have hf := fits32.2 k4
    refine ⟨by omega, hf, ?_, ?_⟩
    · rw [wi_ok hf, show Int.toNat 32 = 32 from rfl, wd_32, k1, k2, k3, x4, x5]; exact hj
    · rw [cl_ok hf, hc, show Int.toNat 32 = 32 from rfl, k2, k3]; exact x6
  · have hV : nrV 64 x = x := rfl
    rw [hV]
    exact ⟨hx, fits64 x, by rw [wi_ok (fits64 x)]; exact wd_64 hx, .inl rfl⟩

/-! order -/
section
variable {E F B T X M X' M' : Nat}
set_option maxRecDepth 100000 in
theorem Wd.val_lt (h : Wd E F B T) (hX : X < T - 1) (hM : M < 2 ^ F) : wX B T F X M * 4503599627370496 + wM T F X M < (X + 1024 - B) * 4503599627370496 := by
  have hB := h.b
  have hbt := h.bt
  have hF := h.f
  by_cases c2 : 0 < X
  · have hw := (h.wide (X := X) (by omega) hM).2
    have e1 : wX B T F X M = X + 1023 - B := by unfold wX; rw [if_neg (by omega), if_pos c2]
    rw [e1, show X + 1024 - B = X + 1023 - B + 1 by omega, Nat.succ_mul]
    exact Nat.add_lt_add_left hw _
  · obtain rfl : X = 0 := by omega
    by_cases c3 : 0 < M
    · obtain ⟨s1, s2, _⟩ := h.small hM c3
      have hw := (h.wide (X := 0) (by omega) hM).2
      have n3 := nrm_pos s1 s2
      have n4 := h.nrm_le hM c3
      have e1 : wX B T F 0 M = 1024 - B - nrm (M * 2 ^ (52 - F)) := by unfold wX; rw [if_neg (by omega), if_neg c2, if_pos c3]
      rw [e1]
      omega
    · have e1 : wX B T F 0 M = 0 := by unfold wX; rw [if_neg (by omega), if_neg c2, if_neg c3]
      have e2 : wM T F 0 M = 0 := by unfold wM; rw [if_neg (by omega), if_neg c3]
      rw [e1, e2, Nat.zero_mul, Nat.zero_add]
      exact Nat.mul_pos (by omega) (by decide)
set_option maxRecDepth 100000 in
theorem Wd.mono (h : Wd E F B T) (hX' : X' < T) (hM : M < 2 ^ F) (hM' : M' < 2 ^ F) (hi : X' = T - 1 → M' = 0) (hl : X < X' ∨ X = X' ∧ M < M') :
    wX B T F X M * 4503599627370496 + wM T F X M < wX B T F X' M' * 4503599627370496 + wM T F X' M' := by
  have hB := h.b
  have hbt := h.bt
  have hF := h.f
  have hp := Nat.two_pow_pos (52 - F)
  rcases hl with hl | ⟨rfl, hl⟩
  · have h1 := h.val_lt (X := X) (by omega) hM
    have h2 : X' + 1023 - B ≤ wX B T F X' M' := by
      unfold wX
      split
      · omega
      · rw [if_pos (by omega)]; exact Nat.le_refl _
    have h3 : (X + 1024 - B) * 4503599627370496 ≤ wX B T F X' M' * 4503599627370496 := Nat.mul_le_mul_right _ (by omega)
    exact Nat.lt_of_lt_of_le h1 (Nat.le_trans h3 (Nat.le_add_right _ _))
  · have c1 : X ≠ T - 1 := fun h => by have := hi h; omega
    have hN : M * 2 ^ (52 - F) < M' * 2 ^ (52 - F) := Nat.mul_lt_mul_of_pos_right hl hp
    by_cases c2 : 0 < X
    · have e1 : ∀ m, wX B T F X m = X + 1023 - B := fun m => by unfold wX; rw [if_neg c1, if_pos c2]
      have e2 : ∀ m, wM T F X m = m * 2 ^ (52 - F) := fun m => if_pos (.inr c2)
      rw [e1, e1, e2, e2]
      omega
    · obtain rfl : X = 0 := by omega
      have c3' : 0 < M' := by omega
      obtain ⟨s1', s2', _⟩ := h.small hM' c3'
      obtain ⟨m1', m2'⟩ := nrm_hi s1' s2'
      have n4' := h.nrm_le hM' c3'
      have e1' : wX B T F 0 M' = 1024 - B - nrm (M' * 2 ^ (52 - F)) := by unfold wX; rw [if_neg c1, if_neg c2, if_pos c3']
      have e2' : wM T F 0 M' = M' * 2 ^ (52 - F) * 2 ^ nrm (M' * 2 ^ (52 - F)) - 4503599627370496 := by unfold wM; rw [if_neg (by omega), if_pos c3']
      rw [e1', e2']
      by_cases c3 : 0 < M
      · obtain ⟨s1, s2, _⟩ := h.small hM c3
        obtain ⟨m1, m2⟩ := nrm_hi s1 s2
        have n4 := h.nrm_le hM c3
        have e1 : wX B T F 0 M = 1024 - B - nrm (M * 2 ^ (52 - F)) := by unfold wX; rw [if_neg c1, if_neg c2, if_pos c3]
        have e2 : wM T F 0 M = M * 2 ^ (52 - F) * 2 ^ nrm (M * 2 ^ (52 - F)) - 4503599627370496 := by unfold wM; rw [if_neg (by omega), if_pos c3]
        rw [e1, e2]
        obtain ⟨N, hNN⟩ : ∃ N, M * 2 ^ (52 - F) = N := ⟨_, rfl⟩
        obtain ⟨N', hNN'⟩ : ∃ N', M' * 2 ^ (52 - F) = N' := ⟨_, rfl⟩
        rw [hNN] at m1 m2 n4 hN s1 s2 ⊢
        rw [hNN'] at m1' m2' n4' hN s1' s2' ⊢
        have ht : nrm N' ≤ nrm N := by
          rcases Nat.lt_or_ge (nrm N) (nrm N') with h1 | h1
          · have h2 := (nrm_lt s1' s2').1 h1
            have h3 : N * 2 ^ nrm N < N' * 2 ^ nrm N := Nat.mul_lt_mul_of_pos_right hN (Nat.two_pow_pos _)
            omega
          · exact h1
        rcases Nat.lt_or_ge (nrm N') (nrm N) with h1 | h1
        · have h2 : (1024 - B - nrm N + 1) * 4503599627370496 ≤ (1024 - B - nrm N') * 4503599627370496 := Nat.mul_le_mul_right _ (by omega)
          rw [Nat.succ_mul] at h2
          obtain ⟨a, ha⟩ : ∃ a, (1024 - B - nrm N) * 4503599627370496 = a := ⟨_, rfl⟩
          obtain ⟨a', ha'⟩ : ∃ a', (1024 - B - nrm N') * 4503599627370496 = a' := ⟨_, rfl⟩
          rw [ha, ha'] at h2 ⊢
          clear ha ha'
          omega
        · have h2 : nrm N = nrm N' := by omega
          have h3 : N * 2 ^ nrm N < N' * 2 ^ nrm N := Nat.mul_lt_mul_of_pos_right hN (Nat.two_pow_pos _)
          rw [h2] at h3 m1 m2 ⊢
          omega
      · have e1 : wX B T F 0 M = 0 := by unfold wX; rw [if_neg c1, if_neg c2, if_neg c3]
        have e2 : wM T F 0 M = 0 := by unfold wM; rw [if_neg (by omega), if_neg c3]
        rw [e1, e2, Nat.zero_mul, Nat.zero_add]
        exact Nat.lt_of_lt_of_le (Nat.mul_pos (by omega) (by decide)) (Nat.le_add_right _ _)
end
theorem lex16 {x y : Nat} (h : x < y) (hy : y ≤ 31744) : (ex 16 x < ex 16 y ∨ ex 16 x = ex 16 y ∧ fr 16 x < fr 16 y) ∧ (ex 16 y = 31 → fr 16 y = 0) ∧ sg 16 x = false ∧ sg 16 y = false := by
  unfold ex fr sg
  rw [show xb 16 + fb 16 = 15 from rfl, show fb 16 = 10 from rfl, show xb 16 = 5 from rfl, show (2 : Nat) ^ 15 = 32768 by decide, show (2 : Nat) ^ 10 = 1024 by decide, show (2 : Nat) ^ 5 = 32 by decide]
  refine ⟨by omega, by omega, decide_eq_false (by omega), decide_eq_false (by omega)⟩
theorem lex32 {x y : Nat} (h : x < y) (hy : y ≤ 2139095040) : (ex 32 x < ex 32 y ∨ ex 32 x = ex 32 y ∧ fr 32 x < fr 32 y) ∧ (ex 32 y = 255 → fr 32 y = 0) ∧ sg 32 x = false ∧ sg 32 y = false := by
  unfold ex fr sg
  rw [show xb 32 + fb 32 = 31 from rfl, show fb 32 = 23 from rfl, show xb 32 = 8 from rfl, show (2 : Nat) ^ 31 = 2147483648 by decide, show (2 : Nat) ^ 23 = 8388608 by decide, show (2 : Nat) ^ 8 = 256 by decide]
  refine ⟨by omega, by omega, decide_eq_false (by omega), decide_eq_false (by omega)⟩
theorem jv_false (X M : Nat) : jv false X M = X * 4503599627370496 + M := by unfold jv; simp
theorem wi_mono16 {x y : Nat} (h : x < y) (hy : y ≤ 31744) : wiV 16 x < wiV 16 y := by
  obtain ⟨h1, h2, h3, h4⟩ := lex16 h hy
  have e1 := ex_lt (w := 16) (x := y)
  have f1 := fr_lt (w := 16) (x := x)
  have f2 := fr_lt (w := 16) (x := y)
  rw [wi_ok (fits16.2 (by omega)), wi_ok (fits16.2 (by omega)), show Int.toNat 16 = 16 from rfl, wd_16, wd_16, h3, h4, jv_false, jv_false]
  exact wd16.mono e1 f1 f2 h2 h1
theorem wi_mono32 {x y : Nat} (h : x < y) (hy : y ≤ 2139095040) : wiV 32 x < wiV 32 y := by
  obtain ⟨h1, h2, h3, h4⟩ := lex32 h hy
  have e1 := ex_lt (w := 32) (x := y)
  have f1 := fr_lt (w := 32) (x := x)
  have f2 := fr_lt (w := 32) (x := y)
  rw [wi_ok (fits32.2 (by omega)), wi_ok (fits32.2 (by omega)), show Int.toNat 32 = 32 from rfl, wd_32, wd_32, h3, h4, jv_false, jv_false]
  exact wd32.mono e1 f1 f2 h2 h1

/-! whole numbers -/
theorem fi_xa {v : Nat} {neg : Bool} (hv : v ≠ 0) (hO : fiO v = true) (hb : v ≤ 2 ^ 64) :
    ∃ q, xaO (fiV neg v) = true ∧ xaS (fiV neg v) = neg ∧ xaM (fiV neg v) = q ∧ xaE (fiV neg v) = (v.log2 : Int) - 52 ∧ v.log2 ≤ 64 ∧ q * 2 ^ v.log2 = v * 2 ^ 52 ∧ 2 ^ 52 ≤ q ∧ q < 2 ^ 53 ∧ fiV neg v < 18446744073709551616 := by
  have hl : v.log2 ≤ 64 := by
    rcases Nat.lt_or_ge 64 v.log2 with h | h
    · have h1 := Nat.log2_self_le hv
      have h2 : 2 ^ 65 ≤ 2 ^ v.log2 := pow_up h
      omega
    · exact h
  obtain ⟨q, hq⟩ : ∃ q, v * 2 ^ 52 / 2 ^ v.log2 = q := ⟨_, rfl⟩
  have he : q * 2 ^ v.log2 = v * 2 ^ 52 := by rw [← hq]; exact Nat.div_mul_cancel (Nat.dvd_of_mod_eq_zero (of_decide_eq_true hO))
  have hp := Nat.two_pow_pos v.log2
  have q1 : 2 ^ 52 ≤ q := by
    have h1 : 2 ^ v.log2 * 2 ^ 52 ≤ v * 2 ^ 52 := Nat.mul_le_mul_right _ (Nat.log2_self_le hv)
    exact Nat.le_of_mul_le_mul_right (by rw [he, Nat.mul_comm]; exact h1) hp
  have q2 : q < 2 ^ 53 := by
    have h1 : v * 2 ^ 52 < 2 ^ (v.log2 + 1) * 2 ^ 52 := Nat.mul_lt_mul_of_pos_right Nat.lt_log2_self (Nat.two_pow_pos _)
    rw [← he, Nat.pow_succ, Nat.mul_assoc, show 2 * 2 ^ 52 = 2 ^ 53 by decide, Nat.mul_comm] at h1
    exact Nat.lt_of_mul_lt_mul_left h1
  have hV := fi_some (neg := neg) hv hO
  rw [hq, b52] at hV
  rw [b52] at q1
  rw [p53] at q2
  obtain ⟨j1, j2, j3, j4⟩ := jv_parts (S := neg) (X := 1023 + v.log2) (M := q - 4503599627370496) (by omega) (by omega)
  refine ⟨q, ?_, ?_, ?_, ?_, hl, he, by rw [b52]; exact q1, by rw [p53]; exact q2, by rw [hV]; exact j4⟩
  · unfold xaO; rw [hV, j2]; exact decide_eq_true (by omega)
  · unfold xaS; rw [hV, j2, if_neg (by omega)]; exact j1
  · unfold xaM hid52; rw [hV, j2, j3, if_neg (by omega), if_neg (by omega)]; omega
  · unfold xaE; rw [hV, j2, if_neg (by omega), if_neg (by omega)]; omega
theorem xa_zero : xaO 0 = true ∧ xaS 0 = false ∧ xaM 0 = 0 ∧ xaE 0 = -1074 := by decide
/-- a whole number that has bits is that of its bits -/
theorem fi_int {n : Nat} {neg : Bool} (hn : n < 18446744073709551616) (hO : fiO (fiN neg n) = true) : inR (fiV neg (fiN neg n)) = (neg, n, true) := by
  obtain ⟨v, hv⟩ : ∃ v, fiN neg n = v := ⟨_, rfl⟩
  have hv2 : v = n + neg.toNat := hv.symm
  rw [hv] at hO ⊢
  have p64 : (2 : Nat) ^ 64 = 18446744073709551616 := by decide
  by_cases h0 : v = 0
  · subst h0
    have h1 : n = 0 := by omega
    have h2 : neg = false := by
      cases neg
      · rfl
      · rw [Bool.toNat_true] at hv2; omega
    subst h1 h2
    decide
  · have hb : v ≤ 2 ^ 64 := by rw [p64, hv2]; cases neg <;> simp <;> omega
    obtain ⟨q, a1, a2, a3, a4, a5, a6, a7, a8, _⟩ := fi_xa (neg := neg) h0 hO hb
    unfold inR iR hid52
    rw [a1, a2, a3, a4]
    rw [b52] at a7
    rw [if_neg (by simp; omega), if_neg (by omega)]
    obtain ⟨k, hk⟩ : ∃ k, v.log2 = k := ⟨_, rfl⟩
    rw [hk] at a4 a5 a6 ⊢
    have hle : 2 ^ k ≤ v := by rw [← hk]; exact Nat.log2_self_le h0
    by_cases c1 : neg = true ∧ (k : Int) - 52 = 12 ∧ q = 4503599627370496
    · rw [if_pos c1]
      obtain ⟨rfl, c2, rfl⟩ := c1
      obtain rfl : k = 64 := by omega
      rw [b52, p64] at a6
      rw [Bool.toNat_true] at hv2
      rw [show n = 18446744073709551615 by omega]
    · rw [if_neg c1]
      by_cases c2 : 11 < (k : Int) - 52
      · exfalso
        obtain rfl : k = 64 := by omega
        rw [b52, p64] at a6
        rw [p64] at hle hb
        cases neg
        · rw [Bool.toNat_false] at hv2; omega
        · exact c1 ⟨rfl, by omega, by omega⟩
      · rw [if_neg c2]
        by_cases c3 : (0 : Int) ≤ (k : Int) - 52
        · rw [if_pos c3]
          obtain ⟨d, rfl⟩ : ∃ d, k = 52 + d := ⟨k - 52, by omega⟩
          have e1 : (((52 + d : Nat) : Int) - 52).toNat = d := by omega
          have e2 : q * 2 ^ d = v := by
            rw [Nat.pow_add, ← Nat.mul_assoc, Nat.mul_right_comm] at a6
            exact Nat.eq_of_mul_eq_mul_right (Nat.two_pow_pos 52) a6
          rw [e1, e2, hv2, Nat.add_sub_cancel]
        · rw [if_neg c3]
          obtain ⟨d, hd⟩ : ∃ d, 52 = k + d := ⟨52 - k, by omega⟩
          have e1 : min (-((k : Int) - 52)).toNat 64 = d := by omega
          have e2 : q = v * 2 ^ d := by
            have e3 : v * 2 ^ 52 = v * 2 ^ d * 2 ^ k := by rw [Nat.mul_assoc, ← Nat.pow_add, show d + k = 52 by omega]
            rw [e3] at a6
            exact Nat.eq_of_mul_eq_mul_right (Nat.two_pow_pos k) a6
          rw [e1, e2, Nat.mul_mod_left, if_pos rfl, Nat.mul_div_cancel _ (Nat.two_pow_pos d), hv2, Nat.add_sub_cancel]
end Go.Proofs.YtcndkhgbgjnclaaGreatDoor.nn
/- Plain facts: what compose and convert answer is what the document's Widen, Narrow and FromInt answer. -/
namespace Go.Proofs.YtcndkhgbgjnclaaGreatDoor.nn

/-- m times 2^e is m' times 2^e' -/
def Sm (m : Nat) (e : Int) (m' : Nat) (e' : Int) : Prop := ∃ a b : Nat, e - (a : Int) = e' - (b : Int) ∧ m * 2 ^ a = m' * 2 ^ b
section
variable {m m' m'' : Nat} {e e' e'' : Int}
theorem Sm.refl (m : Nat) (e : Int) : Sm m e m e := ⟨0, 0, rfl, rfl⟩
theorem Sm.symm (h : Sm m e m' e') : Sm m' e' m e := by
  obtain ⟨a, b, h1, h2⟩ := h
  exact ⟨b, a, h1.symm, h2.symm⟩
theorem Sm.trans (h : Sm m e m' e') (h' : Sm m' e' m'' e'') : Sm m e m'' e'' := by
  obtain ⟨a, b, h1, h2⟩ := h
  obtain ⟨c, d, h3, h4⟩ := h'
  refine ⟨a + c, d + b, by omega, ?_⟩
  rw [Nat.pow_add, Nat.pow_add, ← Nat.mul_assoc, h2, ← Nat.mul_assoc, ← h4, Nat.mul_right_comm]
theorem log2_mul {m a : Nat} (h : 0 < m) : (m * 2 ^ a).log2 = m.log2 + a := by
  have hp := Nat.two_pow_pos a
  have h1 : 2 ^ a ≤ m * 2 ^ a := Nat.le_mul_of_pos_left _ h
  have h2 := log2_div h1
  rw [Nat.mul_div_cancel _ hp] at h2
  have h3 : a ≤ (m * 2 ^ a).log2 := (Nat.le_log2 (by omega)).2 h1
  omega
theorem Sm.pos (h : Sm m e m' e') (h0 : 0 < m) : 0 < m' := by
  obtain ⟨a, b, _, h2⟩ := h
  rcases Nat.eq_zero_or_pos m' with h1 | h1
  · rw [h1, Nat.zero_mul] at h2
    have := Nat.mul_pos h0 (Nat.two_pow_pos a)
    omega
  · exact h1
theorem Sm.log (h : Sm m e m' e') (h0 : 0 < m) : (m.log2 : Int) + e = (m'.log2 : Int) + e' := by
  have hp := h.pos h0
  obtain ⟨a, b, h1, h2⟩ := h
  have l1 := log2_mul (a := a) h0
  have l2 := log2_mul (a := b) hp
  rw [h2, l2] at l1
  omega
/-- m shifted to another unit -/
theorem Sm.shift (h : Sm m e m' e') (hm : m' < 18446744073709551616) : sOk m (e - e') = true ∧ sV m (e - e') = m' := by
  obtain ⟨a, b, h1, h2⟩ := h
  unfold sOk sV
  by_cases hn : e - e' < 0
  · rw [if_pos hn, if_pos hn]
    obtain ⟨d, hd⟩ : ∃ d : Nat, (-(e - e')).toNat = d := ⟨_, rfl⟩
    rw [hd]
    obtain rfl : b = d + a := by omega
    rw [Nat.pow_add, ← Nat.mul_assoc] at h2
    have h3 := Nat.eq_of_mul_eq_mul_right (Nat.two_pow_pos a) h2
    rw [h3]
    exact ⟨decide_eq_true (Nat.mul_mod_left _ _), Nat.mul_div_cancel _ (Nat.two_pow_pos d)⟩
  · rw [if_neg hn, if_neg hn]
    obtain ⟨d, hd⟩ : ∃ d : Nat, (e - e').toNat = d := ⟨_, rfl⟩
    rw [hd]
    obtain rfl : a = d + b := by omega
    rw [Nat.pow_add, ← Nat.mul_assoc] at h2
    have h3 := Nat.eq_of_mul_eq_mul_right (Nat.two_pow_pos b) h2
    rw [h3]
    exact ⟨decide_eq_true hm, Nat.mod_eq_of_lt hm⟩
theorem Sm.of_shift {n : Int} (hO : sOk m n = true) : Sm m e (sV m n) (e - n) := by
  unfold sOk at hO
  unfold sV
  by_cases hn : n < 0
  · rw [if_pos hn] at hO ⊢
    refine ⟨0, (-n).toNat, by omega, ?_⟩
    rw [Nat.pow_zero, Nat.mul_one, Nat.div_mul_cancel (Nat.dvd_of_mod_eq_zero (of_decide_eq_true hO))]
  · rw [if_neg hn] at hO ⊢
    refine ⟨n.toNat, 0, by omega, ?_⟩
    rw [Nat.mod_eq_of_lt (of_decide_eq_true hO), Nat.pow_zero, Nat.mul_one]
end
section
variable {k m X M : Nat} {e : Int}
theorem log2_eq {m F : Nat} (h1 : 2 ^ F ≤ m) (h2 : m < 2 ^ (F + 1)) : m.log2 = F := by
  have hp := Nat.two_pow_pos F
  have h3 : F ≤ m.log2 := (Nat.le_log2 (by omega)).2 h1
  have h4 : m.log2 < F + 1 := (Nat.log2_lt (by omega)).2 h2
  omega
/-- what a shape has is found -/
theorem compose_yes (hk : kOk k) (h0 : 0 < m) (hX : X < onz k) (hM : M < hdn k) (h : Sm m e (aM k X M) (aE k X)) : cmO k m e = true ∧ ∀ neg, cmV k neg m e = kv (xb k) (fb k) neg X M := by
  have hf := hk.facts
  have hbt := hk.bt
  have hH : hdn k = 2 ^ fb k := rfl
  have hH2 : 2 ^ (fb k + 1) = 2 * hdn k := by rw [hH, Nat.pow_succ, Nat.mul_comm]
  have hlog := h.log h0
  have hpos := h.pos h0
  have hlt := aM_lt (X := X) hk hM
  have hsh := h.shift (by omega)
  have hu : unt k m e = aE k X ∧ (m.log2 : Int) + e ≤ (bia k : Int) ∧ (0 < X → ((m.log2 : Int) + e + (bia k : Int)).toNat = X) := by
    unfold unt
    rw [hlog]
    by_cases h1 : X = 0
    · subst h1
      have e1 : aM k 0 M = M := if_pos rfl
      have e2 : aE k 0 = 1 - (bia k : Int) - (fb k : Int) := if_pos rfl
      rw [e1] at hpos
      rw [e1, e2]
      have h2 : M.log2 < fb k := (Nat.log2_lt (by omega)).2 hM
      omega
    · have e1 : aM k X M = M + hdn k := if_neg h1
      have e2 : aE k X = (X : Int) - (bia k : Int) - (fb k : Int) := if_neg h1
      rw [e1, e2, log2_eq (F := fb k) (by omega) (by omega)]
      omega
  obtain ⟨u1, u2, u3⟩ := hu
  have hO : cmO k m e = true := by
    unfold cmO
    rw [if_neg (by omega), u1, hsh.1, decide_eq_true u2]
    rfl
  have hU : cmU k m e = aM k X M := by unfold cmU; rw [u1, hsh.2]
  refine ⟨hO, fun neg => ?_⟩
  unfold cmV
  rw [hO, if_pos rfl, if_neg (by omega), hU]
  by_cases h1 : X = 0
  · subst h1
    rw [show aM k 0 M = M from if_pos rfl, if_pos hM]
  · rw [show aM k X M = M + hdn k from if_neg h1, if_neg (by omega), u3 (by omega), Nat.add_sub_cancel]
/-- what is found, a shape has -/
theorem compose_has (hk : kOk k) (h0 : 0 < m) (hO : cmO k m e = true) : ∃ X M, X < onz k ∧ M < hdn k ∧ Sm m e (aM k X M) (aE k X) := by
  have hbt := hk.bt
  have hH : hdn k = 2 ^ fb k := rfl
  have hH2 : 2 ^ (fb k + 1) = 2 * hdn k := by rw [hH, Nat.pow_succ, Nat.mul_comm]
  unfold cmO at hO
  rw [if_neg (by omega), Bool.and_eq_true] at hO
  obtain ⟨h1, h2⟩ := hO
  have h1 := of_decide_eq_true h1
  have h3 := Sm.of_shift (m := m) (e := e) h2
  rw [show sV m (e - unt k m e) = cmU k m e from rfl, show e - (e - unt k m e) = unt k m e by omega] at h3
  have hl := cmU_lt (k := k) (e := e) h0
  by_cases c : 1 - (bia k : Int) ≤ (m.log2 : Int) + e
  · have h4 := cmU_high h0 c h2
    refine ⟨((m.log2 : Int) + e + (bia k : Int)).toNat, cmU k m e - hdn k, by omega, by omega, ?_⟩
    have e1 : ((m.log2 : Int) + e + (bia k : Int)).toNat ≠ 0 := by omega
    rw [show aM k ((m.log2 : Int) + e + (bia k : Int)).toNat (cmU k m e - hdn k) = cmU k m e - hdn k + hdn k from if_neg e1, show aE k ((m.log2 : Int) + e + (bia k : Int)).toNat = _ from if_neg e1, Nat.sub_add_cancel (by omega)]
    rw [show ((((m.log2 : Int) + e + (bia k : Int)).toNat : Nat) : Int) - (bia k : Int) - (fb k : Int) = unt k m e by unfold unt; omega]
    exact h3
  · have h4 := cmU_low h0 (show (m.log2 : Int) + e < 1 - (bia k : Int) by omega)
    refine ⟨0, cmU k m e, by omega, h4, ?_⟩
    rw [show aM k 0 (cmU k m e) = cmU k m e from if_pos rfl, show aE k 0 = _ from if_pos rfl, show 1 - (bia k : Int) - (fb k : Int) = unt k m e by unfold unt; omega]
    exact h3
end
theorem kv_jv (S : Bool) (X M : Nat) : kv (xb 64) (fb 64) S X M = jv S X M := by
  unfold kv jv
  rw [show xb 64 = 11 from rfl, show fb 64 = 52 from rfl, show 11 + 52 = 63 from rfl, show (2 : Nat) ^ 63 = 9223372036854775808 by decide, b52]
theorem k64 : kOk 64 := .inr (.inr rfl)
/-- the width's parts of a shape -/
theorem kOk.wd {k : Nat} (h : kOk k) (hn : k ≠ 64) : Wd (xb k) (fb k) (bia k) (onz k + 1) := by
  rcases h with rfl | rfl | rfl
  · exact wd16
  · exact wd32
  · exact absurd rfl hn
/-- the wider parts are the same number -/
theorem wide_same {k X M : Nat} (hk : kOk k) (hn : k ≠ 64) (hX : X < onz k) (hM : M < hdn k) :
    Sm (aM k X M) (aE k X) (aM 64 (wX (bia k) (onz k + 1) (fb k) X M) (wM (onz k + 1) (fb k) X M)) (aE 64 (wX (bia k) (onz k + 1) (fb k) X M)) ∧ wX (bia k) (onz k + 1) (fb k) X M < 2047 ∧ wM (onz k + 1) (fb k) X M < 4503599627370496 := by
  have hw := hk.wd hn
  have hF := hw.f
  have hB := hw.b
  have hbt := hk.bt
  have hH : hdn k = 2 ^ fb k := rfl
  have e64 : hdn 64 = 4503599627370496 := by decide
  have c1 : X ≠ onz k + 1 - 1 := by omega
  by_cases c2 : 0 < X
  · have e1 : wX (bia k) (onz k + 1) (fb k) X M = X + 1023 - bia k := by unfold wX; rw [if_neg c1, if_pos c2]
    have e2 : wM (onz k + 1) (fb k) X M = M * 2 ^ (52 - fb k) := if_pos (.inr c2)
    have hwd := hw.wide (X := X) (M := M) (by omega) hM
    refine ⟨?_, by omega, hwd.2⟩
    rw [e1, e2, show aM k X M = M + hdn k from if_neg (by omega), show aE k X = _ from if_neg (by omega), show aM 64 (X + 1023 - bia k) (M * 2 ^ (52 - fb k)) = _ from if_neg (by omega), show aE 64 (X + 1023 - bia k) = _ from if_neg (by omega)]
    refine ⟨52 - fb k, 0, by rw [show bia 64 = 1023 from rfl, show fb 64 = 52 from rfl]; omega, ?_⟩
    rw [Nat.pow_zero, Nat.mul_one, Nat.add_mul, hH, ← Nat.pow_add, show fb k + (52 - fb k) = 52 by omega]
    rfl
  · obtain rfl : X = 0 := by omega
    by_cases c3 : 0 < M
    · obtain ⟨s1, s2, _⟩ := hw.small hM c3
      obtain ⟨n1, n2⟩ := nrm_hi s1 s2
      have n3 := nrm_pos s1 s2
      have n4 := hw.nrm_le hM c3
      have e1 : wX (bia k) (onz k + 1) (fb k) 0 M = 1024 - bia k - nrm (M * 2 ^ (52 - fb k)) := by unfold wX; rw [if_neg c1, if_neg c2, if_pos c3]
      have e2 : wM (onz k + 1) (fb k) 0 M = M * 2 ^ (52 - fb k) * 2 ^ nrm (M * 2 ^ (52 - fb k)) - 4503599627370496 := by unfold wM; rw [if_neg (by omega), if_pos c3]
      rw [e1, e2]
      obtain ⟨t, ht⟩ : ∃ t, nrm (M * 2 ^ (52 - fb k)) = t := ⟨_, rfl⟩
      rw [ht] at n1 n2 n3 n4 ⊢
      refine ⟨?_, by omega, by omega⟩
      rw [show aM k 0 M = M from if_pos rfl, show aE k 0 = _ from if_pos rfl, show aM 64 (1024 - bia k - t) (M * 2 ^ (52 - fb k) * 2 ^ t - 4503599627370496) = _ from if_neg (by omega), show aE 64 (1024 - bia k - t) = _ from if_neg (by omega), e64]
      refine ⟨52 - fb k + t, 0, by rw [show bia 64 = 1023 from rfl, show fb 64 = 52 from rfl]; omega, ?_⟩
      rw [Nat.pow_zero, Nat.mul_one, Nat.sub_add_cancel n2, Nat.pow_add, ← Nat.mul_assoc]
    · obtain rfl : M = 0 := by omega
      have e1 : wX (bia k) (onz k + 1) (fb k) 0 0 = 0 := by unfold wX; rw [if_neg c1, if_neg c2, if_neg c2]
      have e2 : wM (onz k + 1) (fb k) 0 0 = 0 := by unfold wM; rw [if_neg (by omega), if_neg c2]
      rw [e1, e2]
      refine ⟨?_, by omega, by omega⟩
      rw [show aM k 0 0 = 0 from if_pos rfl, show aE k 0 = _ from if_pos rfl, show aM 64 0 0 = 0 from if_pos rfl, show aE 64 0 = -1074 from rfl]
      exact ⟨1075 - bia k - fb k, 0, by omega, by rw [Nat.zero_mul, Nat.zero_mul]⟩
/-- compose of nothing -/
theorem compose_none {k : Nat} {neg : Bool} {e : Int} : cmO k 0 e = true ∧ cmV k neg 0 e = kv (xb k) (fb k) neg 0 0 := by
  have e1 : cmO k 0 e = true := if_pos rfl
  exact ⟨e1, by unfold cmV; rw [e1, if_pos rfl, if_pos rfl]⟩
theorem aM_zero {k X M : Nat} (hk : kOk k) (h : aM k X M = 0) : X = 0 ∧ M = 0 := by
  have := hk.facts
  unfold aM at h
  split at h
  · exact ⟨by assumption, h⟩
  · omega
theorem one_way {X M X' M' : Nat} (h1 : X < 2047) (h2 : M < 4503599627370496) (h3 : X' < 2047) (h4 : M' < 4503599627370496) (h : Sm (aM 64 X M) (aE 64 X) (aM 64 X' M') (aE 64 X')) (h0 : 0 < aM 64 X M) : X = X' ∧ M = M' := by
  have a := (compose_yes k64 h0 h1 h2 (Sm.refl _ _)).2 false
  have b := (compose_yes k64 h0 h3 h4 h).2 false
  rw [a, kv_jv, kv_jv] at b
  have p1 := jv_parts (S := false) (X := X) (M := M) (by omega) h2
  have p2 := jv_parts (S := false) (X := X') (M := M') (by omega) h4
  rw [b] at p1
  exact ⟨p1.2.1.symm.trans p2.2.1, p1.2.2.1.symm.trans p2.2.2.1⟩
end Go.Proofs.YtcndkhgbgjnclaaGreatDoor.nn
/- Plain facts: the real convert against the document's Widen and Narrow; compose against FromInt. -/
namespace Go.Proofs.YtcndkhgbgjnclaaGreatDoor.nn

theorem widen_num {k x : Nat} (hk : kOk k) (hx : x < lim k) : cvO k 64 x = true ∧ cvV k 64 x = wdV k x := by
  have h2 : fr k x < hdn k := fr_lt (w := k) (x := x)
  have h1 := ex_lt (w := k) (x := x)
  have h3 : ex k x ≤ onz k := by unfold onz; omega
  have hf := hk.facts
  by_cases hn : k = 64
  · subst hn
    have hx' : x < 18446744073709551616 := hx
    rw [wd_64 hx']
    have hp := parts_jv hx'
    by_cases hi : ex 64 x = onz 64
    · have hz : Sm (fr 64 x) 0 (fr 64 x) 0 := Sm.refl _ _
      have hs := hz.shift (by omega)
      rw [show (0 : Int) - 0 = (fb 64 : Int) - (fb 64 : Int) by omega] at hs
      have e1 : cvO 64 64 x = true := by unfold cvO; rw [if_pos hi]; exact hs.1
      refine ⟨e1, ?_⟩
      unfold cvV
      rw [if_pos hi, e1, if_pos rfl, kv_jv, hs.2, ← hi]
      exact hp
    · unfold cvO cvV
      rw [if_neg hi, if_neg hi]
      rcases Nat.eq_zero_or_pos (aM 64 (ex 64 x) (fr 64 x)) with h0 | h0
      · obtain ⟨z1, z2⟩ := aM_zero hk h0
        rw [h0]
        refine ⟨(compose_none (neg := false)).1, ?_⟩
        rw [compose_none.2, kv_jv]
        rw [z1, z2] at hp
        exact hp
      · have hy := compose_yes hk h0 (by omega) h2 (Sm.refl _ _)
        refine ⟨hy.1, ?_⟩
        rw [hy.2, kv_jv]
        exact hp
  · have hw := hk.wd hn
    have hF := hw.f
    have hwd : wdV k x = jv (sg k x) (wX (bia k) (onz k + 1) (fb k) (ex k x) (fr k x)) (wM (onz k + 1) (fb k) (ex k x) (fr k x)) := by
      rcases hk with rfl | rfl | rfl
      · exact wd_16 x
      · exact wd_32 x
      · exact absurd rfl hn
    rw [hwd]
    by_cases hi : ex k x = onz k
    · have hl : fr k x * 2 ^ (52 - fb k) < 4503599627370496 := by
        rw [← b52, show 52 = fb k + (52 - fb k) by omega, Nat.pow_add, show fb k + (52 - fb k) - fb k = 52 - fb k by omega]
        exact Nat.mul_lt_mul_of_pos_right h2 (Nat.two_pow_pos _)
      have hz : Sm (fr k x) ((fb 64 : Int) - (fb k : Int)) (fr k x * 2 ^ (52 - fb k)) 0 := ⟨52 - fb k, 0, by rw [show fb 64 = 52 from rfl]; omega, by rw [Nat.pow_zero, Nat.mul_one]⟩
      have hs := hz.shift (by omega)
      rw [Int.sub_zero] at hs
      have e1 : cvO k 64 x = true := by unfold cvO; rw [if_pos hi]; exact hs.1
      refine ⟨e1, ?_⟩
      unfold cvV
      rw [if_pos hi, e1, if_pos rfl, kv_jv, hs.2]
      unfold wX wM
      rw [if_pos (by omega), if_pos (by omega)]
      rfl
    · obtain ⟨s1, s2, s3⟩ := wide_same hk hn (show ex k x < onz k by omega) h2
      unfold cvO cvV
      rw [if_neg hi, if_neg hi]
      rcases Nat.eq_zero_or_pos (aM k (ex k x) (fr k x)) with h0 | h0
      · obtain ⟨z1, z2⟩ := aM_zero hk h0
        rw [h0]
        refine ⟨(compose_none (neg := false)).1, ?_⟩
        rw [compose_none.2, kv_jv, z1, z2]
        unfold wX wM
        rw [if_neg (by omega), if_neg (by omega), if_neg (by omega), if_neg (by omega), if_neg (by omega)]
      · have hy := compose_yes k64 h0 s2 s3 s1
        refine ⟨hy.1, ?_⟩
        rw [hy.2, kv_jv]
theorem narrow_fin {j X' M' : Nat} (hj : kOk j) (hn : j ≠ 64) (hX : X' < 2047) (hM : M' < 4503599627370496) (S : Bool) :
    cmO j (aM 64 X' M') (aE 64 X') = nwO (xb j) (fb j) X' M' ∧ cmV j S (aM 64 X' M') (aE 64 X') = nwA (xb j) (fb j) S X' M' := by
  have hw := hj.wd hn
  have hbt := hj.bt
  rcases Nat.eq_zero_or_pos (aM 64 X' M') with h0 | h0
  · obtain ⟨rfl, rfl⟩ := aM_zero k64 h0
    rw [h0]
    have e1 : nwO (xb j) (fb j) 0 0 = true := by unfold nwO; dsimp only; rw [if_pos rfl]; rfl
    rw [e1, (compose_none (neg := false)).1, compose_none.2]
    refine ⟨rfl, ?_⟩
    unfold nwA nwV kv
    dsimp only
    rw [e1, if_pos rfl, if_pos rfl, Nat.zero_mul]
  · cases hO : nwO (xb j) (fb j) X' M' with
    | true =>
      obtain ⟨X, M, a1, a2, a3, a4, a5, _⟩ := hw.forth (by omega) hM hO
      have hX1 : X < onz j := by
        rcases Nat.lt_or_ge X (onz j) with h | h
        · exact h
        · have : X = onz j + 1 - 1 := by omega
          unfold wX at a4
          rw [if_pos this] at a4
          omega
      obtain ⟨s1, _, _⟩ := wide_same hj hn hX1 a2
      rw [a4, a5] at s1
      have hy := compose_yes hj h0 hX1 a2 s1.symm
      exact ⟨hy.1, by rw [hy.2, a3]⟩
    | false =>
      have hc : cmO j (aM 64 X' M') (aE 64 X') = false := by
        cases h : cmO j (aM 64 X' M') (aE 64 X') with
        | false => rfl
        | true =>
          obtain ⟨X, M, a1, a2, a3⟩ := compose_has hj h0 h
          obtain ⟨s1, s2, s3⟩ := wide_same hj hn a1 a2
          obtain ⟨w1, w2⟩ := one_way hX hM s2 s3 (a3.trans s1) h0
          have hb := (hw.back (X := X) (M := M) (by omega) a2 false).1
          rw [← w1, ← w2, hO] at hb
          exact absurd hb (by decide)
      refine ⟨hc, ?_⟩
      unfold cmV nwA
      rw [hc, hO]
      rfl
theorem narrow_num {j x : Nat} (hj : kOk j) (hx : x < 18446744073709551616) : cvO 64 j x = nrO (j : Int) x ∧ cvV 64 j x = nrV (j : Int) x := by
  by_cases hn : j = 64
  · subst hn
    have h := widen_num k64 (show x < lim 64 from hx)
    rw [wd_64 hx] at h
    exact h
  · have hok : wOk (j : Int) := by
      rcases hj with rfl | rfl | rfl
      · exact .inl rfl
      · exact .inr (.inl rfl)
      · exact .inr (.inr rfl)
    have hr := nr_ok (x := x) hok (by omega)
    rw [Int.toNat_natCast] at hr
    rw [hr.1, hr.2]
    have h1 := ex_lt (w := 64) (x := x)
    have h2 := fr_lt (w := 64) (x := x)
    rw [show 2 ^ xb 64 = 2048 from rfl] at h1
    rw [show 2 ^ fb 64 = 4503599627370496 from rfl] at h2
    by_cases hi : ex 64 x = onz 64
    · have hi' : ex 64 x = 2047 := hi
      have hF := (hj.wd hn).f
      obtain ⟨d, hd⟩ : ∃ d : Nat, 52 - fb j = d := ⟨_, rfl⟩
      have hneg : (fb j : Int) - (fb 64 : Int) = -(d : Int) := by rw [show fb 64 = 52 from rfl]; omega
      have e0 : sOk (fr 64 x) ((fb j : Int) - (fb 64 : Int)) = shOk (fr 64 x) d := by
        rw [hneg]; unfold sOk shOk
        rw [if_pos (by omega), show (-(-(d : Int))).toNat = d by omega]
      have e2 : nwO (xb j) (fb j) (ex 64 x) (fr 64 x) = shOk (fr 64 x) d := by
        unfold nwO; dsimp only
        rw [if_neg (by omega), if_pos hi', hd]
      have e1 : cvO 64 j x = shOk (fr 64 x) d := by unfold cvO; rw [if_pos hi, e0]
      refine ⟨e1.trans e2.symm, ?_⟩
      unfold cvV nwA
      rw [if_pos hi, e1, e2]
      cases hO : shOk (fr 64 x) d with
      | false => rfl
      | true =>
        rw [if_pos rfl, if_pos rfl]
        have e3 : sV (fr 64 x) ((fb j : Int) - (fb 64 : Int)) = shV (fr 64 x) d := by
          rw [hneg]; unfold sV shV
          rw [if_pos (by omega), show (-(-(d : Int))).toNat = d by omega, if_pos (of_decide_eq_true hO)]
        rw [e3]
        unfold kv nwV
        dsimp only
        rw [if_neg (show ¬ ex 64 x = 0 by omega), if_pos hi', hd, Nat.add_assoc]
        rfl
    · have hi' : ex 64 x ≠ 2047 := hi
      unfold cvO cvV
      rw [if_neg hi, if_neg hi]
      exact narrow_fin hj hn (by omega) h2 _
theorem fromInt_num {v : Nat} (neg : Bool) (hv : 0 < v) (hb : v < 18446744073709551616) : cmO 64 v 0 = fiO v ∧ cmV 64 neg v 0 = fiV neg v := by
  have hv0 : v ≠ 0 := by omega
  have hL : v.log2 < 64 := (Nat.log2_lt hv0).2 (by rw [p64]; exact hb)
  cases hO : fiO v with
  | true =>
    obtain ⟨q, _, _, _, _, _, a6, a7, a8, _⟩ := fi_xa (neg := neg) hv0 hO (by rw [p64]; omega)
    rw [b52] at a7
    rw [p53] at a8
    have hs : Sm v 0 (aM 64 (1023 + v.log2) (q - 4503599627370496)) (aE 64 (1023 + v.log2)) := by
      rw [show aM 64 (1023 + v.log2) (q - 4503599627370496) = _ from if_neg (by omega), show aE 64 (1023 + v.log2) = _ from if_neg (by omega), show hdn 64 = 4503599627370496 by decide, Nat.sub_add_cancel a7]
      exact ⟨52, v.log2, by rw [show bia 64 = 1023 from rfl, show fb 64 = 52 from rfl]; omega, a6.symm⟩
    have hy := compose_yes k64 hv (show 1023 + v.log2 < onz 64 by rw [show onz 64 = 2047 by decide]; omega) (show q - 4503599627370496 < hdn 64 by rw [show hdn 64 = 4503599627370496 by decide]; omega) hs
    refine ⟨hy.1, ?_⟩
    have hq : v * 2 ^ 52 / 2 ^ v.log2 = q := by rw [← a6, Nat.mul_div_cancel _ (Nat.two_pow_pos _)]
    rw [hy.2, kv_jv, fi_some hv0 hO, hq, b52]
  | false =>
    have hc : cmO 64 v 0 = false := by
      cases h : cmO 64 v 0 with
      | false => rfl
      | true =>
        obtain ⟨X, M, a1, a2, a, b, a3, a4⟩ := compose_has k64 hv h
        have hd : hdn 64 = 2 ^ 52 := by decide
        rw [hd] at a2
        by_cases hX : X = 0
        · subst hX
          rw [show aM 64 0 M = M from if_pos rfl] at a4
          rw [show aE 64 0 = -1074 from rfl] at a3
          obtain ⟨c, hc, rfl⟩ : ∃ c, 52 ≤ c ∧ a = c + b := ⟨1074, by omega, by omega⟩
          rw [Nat.pow_add, ← Nat.mul_assoc] at a4
          have a5 := Nat.eq_of_mul_eq_mul_right (Nat.two_pow_pos b) a4
          have a6 : 1 * 2 ^ c ≤ v * 2 ^ c := Nat.mul_le_mul_right _ hv
          have a7 : (2 : Nat) ^ 52 ≤ 2 ^ c := Nat.pow_le_pow_right (by decide) hc
          rw [Nat.one_mul] at a6
          rw [a5] at a6
          exact absurd a2 (Nat.not_lt.2 (Nat.le_trans a7 a6))
        · rw [show aM 64 X M = M + hdn 64 from if_neg hX, hd] at a4
          rw [show aE 64 X = (X : Int) - (bia 64 : Int) - (fb 64 : Int) from if_neg hX] at a3
          by_cases hab : a ≤ b
          · obtain ⟨t, rfl⟩ : ∃ t, b = t + a := ⟨b - a, by omega⟩
            rw [Nat.pow_add, ← Nat.mul_assoc] at a4
            have a5 := Nat.eq_of_mul_eq_mul_right (Nat.two_pow_pos a) a4
            have := (fi_up a5 (Nat.le_add_left _ _) (by rw [p53]; rw [b52] at a2 ⊢; omega)).1
            rw [hO] at this
            exact absurd this (by decide)
          · obtain ⟨t, rfl⟩ : ∃ t, a = t + b := ⟨a - b, by omega⟩
            rw [Nat.pow_add, ← Nat.mul_assoc] at a4
            have a5 := Nat.eq_of_mul_eq_mul_right (Nat.two_pow_pos b) a4
            have := (fi_down a5.symm (Nat.le_add_left _ _) (by rw [p53]; rw [b52] at a2 ⊢; omega)).1
            rw [hO] at this
            exact absurd this (by decide)
    refine ⟨hc, ?_⟩
    unfold cmV
    rw [hc, fi_none hv0 hO]
    rfl
end Go.Proofs.YtcndkhgbgjnclaaGreatDoor.nn
/- The contracts of the real fbits: Widen, Narrow, Exact, FromInt. -/
namespace Go.Proofs.YtcndkhgbgjnclaaGreatDoor.nn
open Go.RowKit

end Go.Proofs.YtcndkhgbgjnclaaGreatDoor.nn
/- The contracts of the real fbits: Exact, FromInt, Int. -/
namespace Go.Proofs.YtcndkhgbgjnclaaGreatDoor.nn
open Go.RowKit

theorem xa_amount (x : Nat) (h : ex 64 x ≠ 2047) : xaO x = true ∧ xaS x = sg 64 x ∧ xaM x = aM 64 (ex 64 x) (fr 64 x) ∧ xaE x = aE 64 (ex 64 x) := by
  unfold xaO xaS xaM xaE aM aE
  rw [if_neg h, if_neg h, if_neg h, decide_eq_true h]
  refine ⟨rfl, rfl, ?_, ?_⟩
  · by_cases h0 : ex 64 x = 0
    · rw [if_pos h0, if_pos h0]
    · rw [if_neg h0, if_neg h0]
      rfl
  · by_cases h0 : ex 64 x = 0
    · rw [if_pos h0, if_pos h0]
      rfl
    · rw [if_neg h0, if_neg h0, show bia 64 = 1023 from rfl, show fb 64 = 52 from rfl]
      omega
theorem xa_none (x : Nat) (h : ex 64 x = 2047) : xaO x = false ∧ xaS x = false ∧ xaM x = 0 ∧ xaE x = 0 := by
  unfold xaO xaS xaM xaE
  rw [if_pos h, if_pos h, if_pos h, decide_eq_false (by simp [h])]
  exact ⟨rfl, rfl, rfl, rfl⟩
set_option maxRecDepth 100000 in
set_option maxHeartbeats 1000000 in
theorem fexact_any (x : Nat) (w : World) (hx : x < 18446744073709551616) : Calls Tryz.prog 17 #[.int .u64 (x : Int)] w (XaAns x w) := by
  unfold XaAns
  obtain ⟨c1, c2⟩ := cl5_inf (k := 64) (X := ex 64 x) (M := fr 64 x)
  have hw : ∀ W, Calls Tryz.prog 40 #[] W fun e w' => e = .returned (sv 64) ∧ Below W.heap.size W w' := widest_any
  have hc := fun W => class_any 64 x W k64 hx
  have hs := fun W => split_any 64 x W k64 hx
  have h2 := fr_lt (w := 64) (x := x)
  have h1 := ex_lt (w := 64) (x := x)
  have ha := fun W => amount_any 64 (ex 64 x) (fr 64 x) W k64 (by unfold onz; omega) h2
  have e0 : onz 64 = 2047 := by decide
  rw [e0] at c1
  rw [show clk 64 x = cl5 (xb 64) (ex 64 x) (fr 64 x) from rfl] at hc
  obtain ⟨C, hC⟩ : ∃ C, cl5 (xb 64) (ex 64 x) (fr 64 x) = C := ⟨_, rfl⟩
  rw [hC] at c1 c2 hc
  clear hC h1 h2 e0
  by_cases h : ex 64 x = 2047
  · obtain ⟨x1, x2, x3, x4⟩ := xa_none x h
    rw [x1, x2, x3, x4]
    have h34 : C = 3 ∨ C = 4 := by have := c1.2 h; omega
    clear x1 x2 x3 x4 c1 c2 h hs ha
    obtain ⟨K, hK⟩ : ∃ K, K = 64 := ⟨64, rfl⟩
    rw [← hK] at hc hw
    clear hK
    unfold sv at hc hw
    have HC := Lib.hid hc
    have HW := Lib.hid hw
    clear hc hw
    rcases h34 with rfl | rfl
    all_goals
      go_enter Tryz.func17, Tryz.ntmps17
      go_wp2_with fail
      with_reducible refine (HW.out _).mono ?_
      rintro e w1 ⟨rfl, hb⟩
      have H1 := Lib.hid hb
      clear hb
      have HB := Lib.hid (Bs.new w1 K 69)
      go_wp2_with fail
      with_reducible refine (HC.out _).mono ?_
      rintro e w2 ⟨rfl, hb⟩
      have H2 := Lib.hid (HB.out.on hb)
      clear hb
      go_wp2_with fail
      exact bodyPost_ret (v := .tuple #[.bool false, .int .u64 0, .int .i64 0, .bool false]) (by simp [results, Tryz.results17, go_sem]) rfl ⟨rfl, H1.out.trans (H2.out.b.mono H1.out.size)⟩
  · obtain ⟨x1, x2, x3, x4⟩ := xa_amount x h
    rw [x1, x2, x3, x4]
    have q1 : ((C : Int) == 3) = false := by simp; intro h3; exact h (c1.1 (by omega))
    have q2 : ((C : Int) == 4) = false := by simp; intro h3; exact h (c1.1 (by omega))
    clear x1 x2 x3 x4 c1 c2 h
    obtain ⟨m, hm⟩ : ∃ m, aM 64 (ex 64 x) (fr 64 x) = m := ⟨_, rfl⟩
    obtain ⟨e, he⟩ : ∃ e, aE 64 (ex 64 x) = e := ⟨_, rfl⟩
    rw [hm, he] at ha ⊢
    clear hm he
    obtain ⟨S, hS⟩ : ∃ S, sg 64 x = S := ⟨_, rfl⟩
    obtain ⟨X, hX⟩ : ∃ X, ex 64 x = X := ⟨_, rfl⟩
    obtain ⟨M, hM⟩ : ∃ M, fr 64 x = M := ⟨_, rfl⟩
    rw [hS, hX, hM] at hs
    rw [hX, hM] at ha
    rw [hS]
    clear hS hX hM
    obtain ⟨K, hK⟩ : ∃ K, K = 64 := ⟨64, rfl⟩
    rw [← hK] at hc hw hs ha
    clear hK
    unfold sv at hc hw hs ha
    have HC := Lib.hid hc
    have HW := Lib.hid hw
    have HS := Lib.hid hs
    have HA := Lib.hid ha
    clear hc hw hs ha
    go_enter Tryz.func17, Tryz.ntmps17
    go_wp2_with fail
    with_reducible refine (HW.out _).mono ?_
    rintro r1 w1 ⟨rfl, hb⟩
    have H1 := Lib.hid hb
    clear hb
    have HB := Lib.hid (Bs.new w1 K 69)
    go_wp2_with fail
    with_reducible refine (HC.out _).mono ?_
    rintro r1 w2 ⟨rfl, hb⟩
    have h2 := HB.out.on hb
    have hc2 := h2.all
    clear hb
    go_wp2_with fail
    with_reducible refine (HS.out _).mono ?_
    rintro r1 w3 ⟨rfl, hb⟩
    have h3 := h2.on hb
    have hc3 := h3.all
    clear hb hc2 h2
    go_wp2_with fail
    with_reducible refine (HA.out _).mono ?_
    rintro r1 w4 ⟨rfl, hb⟩
    have H4 := Lib.hid (h3.on hb)
    clear hb hc3 h3
    go_wp2_with fail
    exact bodyPost_ret (v := .tuple #[.bool S, .int .u64 (m : Int), .int .i64 e, .bool true]) (by simp [results, Tryz.results17, go_sem]) rfl ⟨rfl, H1.out.trans (H4.out.b.mono H1.out.size)⟩

/-! FromInt -/
theorem jv_least : jv true 1087 0 = 14118784831806504960 := by decide
end Go.Proofs.YtcndkhgbgjnclaaGreatDoor.nn
/- The real fdec: nearest. -/
namespace Go.Proofs.YtcndkhgbgjnclaaGreatDoor.nn
open Go.RowKit

/-- the bits of what is infinite -/
def inf : Nat := 2047 * h52
theorem inf_eq : inf = 9218868437227405312 := by decide
theorem cl_inf {x : Nat} (hx : x ≤ inf) : (x = inf → clC 64 x = 3) ∧ (x < inf → (clC 64 x : Int) ≠ 3) ∧ clC 64 x < 5 := by
  have e1 : clC 64 x = cls 64 (ex 64 x) (fr 64 x) := by unfold clC; rw [if_pos (fits64 x)]; rfl
  rw [inf_eq] at *
  have e2 : ex 64 x = x / 4503599627370496 % 2048 := rfl
  have e3 : fr 64 x = x % 4503599627370496 := rfl
  rw [e1]
  unfold cls
  rw [show (2 : Nat) ^ xb 64 - 1 = 2047 from rfl]
  refine ⟨fun h => ?_, fun h => ?_, ?_⟩
  · rw [if_pos (by omega), if_pos (by omega)]
  · rw [if_neg (by omega)]
    split
    · decide
    · split <;> decide
  · split
    · split <;> decide
    · split
      · decide
      · split <;> decide

theorem unit_of {X Y : Nat} {h u : Int} (hY : 0 < Y) (hh : HiIs X Y h) (hu : max (h - 52) (-1074) = u) : Unit X Y u := by
  rcases hh with ⟨h0, h1⟩ | ⟨_, h1, h2⟩
  · have hu' : u = -1074 := by omega
    refine ⟨by omega, .inl hu', fun g => ?_⟩
    unfold ge2 at g
    rw [h0, Nat.zero_mul] at g
    have := Nat.mul_pos hY (Nat.two_pow_pos (u + 53).toNat)
    omega
  · refine ⟨by omega, ?_, fun g => h2 (ge2_anti (by omega) g)⟩
    by_cases c : u = -1074
    · exact .inl c
    · exact .inr (by rw [show u + 52 = h by omega]; exact h1)
def neV (b : Nat) : Nat := if b < inf then b else 0
def NeAns (X Y : Nat) (w : World) (e : Ending) (w' : World) : Prop :=
  ∃ b, Near (X * 2 ^ e74) Y b ∧ e = .returned (.tuple #[.int .u64 (neV b : Int), .bool (decide (b < inf))]) ∧ Below w.heap.size w w'
theorem ne_yes {b : Nat} (h : b < inf) : neV b = b ∧ decide (b < inf) = true := ⟨if_pos h, decide_eq_true h⟩
theorem ne_no {b : Nat} (h : inf ≤ b) : neV b = 0 ∧ decide (b < inf) = false := ⟨if_neg (by omega), decide_eq_false (by omega)⟩

set_option maxRecDepth 100000 in
set_option maxHeartbeats 2000000 in
theorem nearest_any (v y : Value) (X Y : Nat) (w : World) (hv : N w v X) (hy : N w y Y) (hX : X < 2 ^ b20) (hY : Y < 2 ^ b20) (h0 : 0 < Y) :
    Calls Tryz.prog 38 #[v, y] w (NeAns X Y w) := by
  have HH := Lib.hid (highest_any v y X Y w hv hy hX hY h0)
  have HCl := Lib.hid (fun (b : Nat) (z : Int) (hz : z = (b : Int)) (hb : b < 18446744073709551616) W => by
    have := fclass_any 64 b W hb
    rw [← hz] at this
    exact this)
  have HV := Lib.hid (And.intro hv hy)
  have HX := Lib.hid (And.intro hX hY)
  clear hv hy hX hY
  go_enter Tryz.func38, Tryz.ntmps38
  go_wp2_with fail
  refine HH.out.mono ?_
  rintro e w1 ⟨h, rfl, hh1, hh2, hi, hb1⟩
  obtain ⟨u, hu⟩ : ∃ u, max (h - 52) (-1074) = u := ⟨_, rfl⟩
  have hU := unit_of h0 hi hu
  have HU := Lib.hid hU
  have HB1 := Lib.hid hb1
  have hlu := hU.least
  have hup : u ≤ 20001 := by omega
  obtain ⟨X', hX'⟩ : ∃ X', X' = X * 2 ^ (-u).toNat := ⟨_, rfl⟩
  obtain ⟨Y', hY'⟩ : ∃ Y', Y' = Y * 2 ^ u.toNat := ⟨_, rfl⟩
  obtain ⟨k, hk⟩ : ∃ k, (u + 1074).toNat = k := ⟨_, rfl⟩
  have k1 : u + 1074 = (k : Int) := by omega
  have HY0 : Hid (0 < Y') := Lib.hid (by rw [hY']; exact Nat.mul_pos h0 (Nat.two_pow_pos _))
  have key := fun up hq => near_unit h0 hU hX' hY' (up := up) hq
  rw [hk] at key
  obtain ⟨Q, hQ⟩ : ∃ Q, X' / Y' = Q := ⟨_, rfl⟩
  obtain ⟨R, hR⟩ : ∃ R, X' % Y' = R := ⟨_, rfl⟩
  have hRl : R < Y' := by rw [← hR]; exact Nat.mod_lt _ HY0.out
  rw [hQ, hR] at key
  obtain ⟨up, hup2⟩ : ∃ up, up = if Y' < 2 * R ∨ (2 * R = Y' ∧ Q % 2 = 1) then 1 else 0 := ⟨_, rfl⟩
  obtain ⟨q1, q2, near⟩ := key up hup2
  have hu01 : up ≤ 1 := by rw [hup2]; split <;> omega
  have HN := Lib.hid near
  clear key near hb1 hi hU
  by_cases hbig : 971 < u
  · have HE : Hid (inf ≤ k * h52 + (Q + up)) := Lib.hid (by
      have h52' : h52 = 4503599627370496 := rfl
      rw [inf_eq]
      rw [h52'] at q2 ⊢
      omega)
    clear q1 q2 hup2 hu01 hX' hY' hQ hR hRl hk k1
    go_wp2_with fail
    go_ret2
    refine ⟨_, HN.out, ?_, HB1.out⟩
    rw [(ne_no HE.out).1, (ne_no HE.out).2]
    rfl
  · have hXf : X * 2 ^ (-u).toNat < big := mul_fits (b := b20) HX.out.1 (by rw [b20_eq]; omega) (by rw [b131_eq, b20_eq]; omega)
    have hYf : Y * 2 ^ u.toNat < big := mul_fits (b := b20) HX.out.2 (by rw [b20_eq]; omega) (by rw [b131_eq, b20_eq]; omega)
    have hYf2 : Y' * 2 ^ 1 < big := by
      rw [hY', Nat.mul_assoc, ← Nat.pow_add]
      exact mul_fits (b := b20) HX.out.2 (by rw [b20_eq]; omega) (by rw [b131_eq, b20_eq]; omega)
    have hT := ftimesPower_any v y X Y (-u) w1 (HV.out.1.below HB1.out) (HV.out.2.below HB1.out) (by omega) (by omega) hXf (by rw [Int.neg_neg]; exact hYf)
    rw [Int.neg_neg, ← hX', ← hY'] at hT
    rw [← hX'] at hXf
    rw [← hY'] at hYf
    have HT := Lib.hid hT
    have HD := Lib.hid (fun W v1 u1 (h1 : N W v1 X') (h2 : N W u1 Y') => fdivide_any v1 u1 X' Y' W h1 h2 hXf hYf HY0.out)
    rw [hQ, hR] at HD
    have q1' : Q < 9007199254740992 := q1
    have HS := Lib.hid (fun W v1 (h1 : N W v1 Q) => fshort_any v1 Q W h1 (by omega))
    have HR2 := Lib.hid (fun W v1 (h1 : N W v1 R) => fshiftUp_any v1 R 1 W h1 (by omega) (by omega))
    have HC := Lib.hid (fun W v1 u1 (h1 : N W v1 (R * 2 ^ 1)) (h2 : N W u1 Y') => fcmp_any v1 u1 (R * 2 ^ 1) Y' W h1 h2)
    have hk2 : k ≤ 2045 := by omega
    obtain ⟨c, hc⟩ : ∃ c, cm (R * 2 ^ 1) Y' = c := ⟨_, rfl⟩
    have cases4 : (c = 1 ∧ up = 1) ∨ (c = 0 ∧ Q % 2 = 1 ∧ up = 1) ∨ (c = 0 ∧ Q % 2 = 0 ∧ up = 0) ∨ (c = -1 ∧ up = 0) := by
      rcases Nat.lt_trichotomy (R * 2 ^ 1) Y' with g | g | g
      · rw [cm_lt g] at hc
        rw [if_neg (by omega)] at hup2
        exact .inr (.inr (.inr ⟨hc.symm, hup2⟩))
      · rw [cm_eq g] at hc
        by_cases par : Q % 2 = 1
        · rw [if_pos (by omega)] at hup2
          exact .inr (.inl ⟨hc.symm, par, hup2⟩)
        · rw [if_neg (by omega)] at hup2
          exact .inr (.inr (.inl ⟨hc.symm, by omega, hup2⟩))
      · rw [cm_gt g] at hc
        rw [if_pos (by omega)] at hup2
        exact .inl ⟨hc.symm, hup2⟩
    rw [hc] at HC
    obtain ⟨b, hb⟩ : ∃ b, k * h52 + (Q + up) = b := ⟨_, rfl⟩
    rw [hb] at HN
    have hb2 : b = k * 4503599627370496 + (Q + up) := hb.symm
    have hb3 : b ≤ inf := by rw [inf_eq]; omega
    obtain ⟨ci, cl, c5⟩ := cl_inf hb3
    rw [inf_eq] at hb3
    clear q2 hup2 hX' hY' hQ hR hk hT hXf hYf hYf2 hRl hc hb q1
    have fin : Hid ((b = inf ∧ clC 64 b = 3) ∨ (b < inf ∧ (clC 64 b : Int) ≠ 3)) := Lib.hid (by
      rcases Nat.lt_or_ge b inf with g | g
      · exact .inr ⟨g, cl g⟩
      · have : b = inf := by rw [inf_eq] at g ⊢; omega
        exact .inl ⟨this, ci this⟩)
    have HK : Hid (∀ z : Int, z = (b : Int) → ∀ W, Calls Tryz.prog 14 #[.int .i64 64, .int .u64 z] W (ClAns 64 b W)) := Lib.hid (fun z hz W => HCl.out b z hz (by omega) W)
    clear ci cl HCl
    obtain ⟨C, hC⟩ : ∃ C, clC 64 b = C := ⟨_, rfl⟩
    unfold ClAns at HK
    rw [hC] at fin HK c5
    clear hC
    have k2 : u - -1074 = (k : Int) := by omega
    rcases cases4 with ⟨rfl, rfl⟩ | ⟨rfl, par, rfl⟩ | ⟨rfl, par, rfl⟩ | ⟨rfl, rfl⟩
    all_goals
      go_wp2_with fail
      refine HT.out.mono ?_
      rintro e w2 ⟨v2, y2, rfl, hN1, hN2, hb1⟩
      have HB2 := Lib.hid (HB1.out.trans (hb1.mono HB1.out.size))
      have HN2 := Lib.hid (And.intro hN1 hN2)
      clear hb1 hN1 hN2
      go_wp2_with fail
      refine (HD.out _ _ _ HN2.out.1 HN2.out.2).mono ?_
      rintro e w3 ⟨v3, y3, rfl, hN1, hN2, hb1⟩
      have HB3 := Lib.hid (HB2.out.trans (hb1.mono HB2.out.size))
      have HN3 := Lib.hid (And.intro (HN2.out.2.below hb1) (And.intro hN1 hN2))
      clear hb1 hN1 hN2
      go_wp2_with fail
      refine (HS.out _ _ HN3.out.2.1).mono ?_
      rintro e w' ⟨rfl, rfl⟩
      go_wp2_with fail
      refine (HR2.out _ _ HN3.out.2.2).mono ?_
      rintro e w4 ⟨v4, rfl, hN1, hb1⟩
      have HB4 := Lib.hid (HB3.out.trans (hb1.mono HB3.out.size))
      have HN4 := Lib.hid (And.intro (HN3.out.1.below hb1) hN1)
      clear hb1 hN1
      go_wp2_with fail
      refine (HC.out _ _ _ HN4.out.2 HN4.out.1).mono ?_
      rintro e w' ⟨rfl, j, rfl⟩
      go_wp2_with fail
      refine (HK.out _ (by omega) _).mono ?_
      rintro e w5 ⟨rfl, hb1⟩
      have HB5 := Lib.hid ((drew_below HB4.out j).trans (hb1.mono (by have := HB4.out.size; simp; omega)))
      clear hb1
      rcases fin.out with ⟨f1, f2⟩ | ⟨f1, f2⟩
      · have HE := Lib.hid (ne_no (Nat.le_of_eq f1.symm))
        clear f1
        obtain rfl : C = 3 := f2
        go_wp2_with fail
        go_ret2
        refine ⟨b, HN.out, ?_, HB5.out⟩
        rw [HE.out.1, HE.out.2]
        rfl
      · have HE := Lib.hid (ne_yes f1)
        have hne : ((C : Int) == 3) = false := by rw [beq_eq_false_iff_ne]; exact f2
        clear f1 f2
        go_wp2_with fail
        go_ret2
        refine ⟨b, HN.out, ?_, HB5.out⟩
        rw [HE.out.1, HE.out.2]
        exact ret_ub (by omega) rfl
end Go.Proofs.YtcndkhgbgjnclaaGreatDoor.nn
/- Plain facts: each number has a nearest float. No program is named here. -/
namespace Go.Proofs.YtcndkhgbgjnclaaGreatDoor.nn

theorem near_ex (X Y : Nat) (hY : 0 < Y) : ∃ b, Near X Y b := by
  obtain ⟨B, hB⟩ : ∃ B, 2 * h52 * Y = B := ⟨_, rfl⟩
  have h0 : 0 < h52 := by decide
  have hB0 : 0 < B := by rw [← hB]; exact Nat.mul_pos (by omega) hY
  have step : ∀ n, X < B * 2 ^ n → ∃ k, X < B * 2 ^ k ∧ (k = 0 ∨ B * 2 ^ (k - 1) ≤ X) := by
    intro n
    induction n with
    | zero => exact fun h => ⟨0, h, .inl rfl⟩
    | succ n ih =>
      intro h
      rcases Nat.lt_or_ge X (B * 2 ^ n) with g | g
      · exact ih g
      · exact ⟨n + 1, h, .inr (by rw [Nat.add_sub_cancel]; exact g)⟩
  obtain ⟨k, h1, h2⟩ := step X (by
    have h3 := Nat.lt_two_pow_self (n := X)
    have h4 : 1 * 2 ^ X ≤ B * 2 ^ X := Nat.mul_le_mul_right _ hB0
    omega)
  have hD : 0 < Y * 2 ^ k := Nat.mul_pos hY (Nat.two_pow_pos k)
  have hdm := Nat.div_add_mod X (Y * 2 ^ k)
  refine ⟨_, near_of (q := X / (Y * 2 ^ k)) (r := X % (Y * 2 ^ k)) (k := k) (up := _) hY (by rw [Nat.mul_comm]; exact hdm.symm) (Nat.mod_lt _ hD) ?_ ?_ rfl⟩
  · rw [Nat.div_lt_iff_lt_mul hD, ← Nat.mul_assoc, hB]
    exact h1
  · rcases h2 with h2 | h2
    · exact .inl h2
    · rcases Nat.eq_zero_or_pos k with h3 | h3
      · exact .inl h3
      · right
        rw [Nat.le_div_iff_mul_le hD]
        have e : B * 2 ^ (k - 1) = h52 * (Y * 2 ^ k) := by
          rw [← hB, show k = k - 1 + 1 by omega, Nat.add_sub_cancel, Nat.pow_succ, ← Nat.mul_assoc, ← Nat.mul_assoc, Nat.mul_right_comm 2 h52 Y, Nat.mul_comm (2 * Y) h52, Nat.mul_comm 2 Y, ← Nat.mul_assoc, Nat.mul_right_comm]
        rw [← e]
        exact h2
theorem ten_two (n : Nat) : 10 ^ n ≤ 2 ^ (4 * n) := by
  rw [Nat.pow_mul]
  exact Nat.pow_le_pow_left (by decide) n
end Go.Proofs.YtcndkhgbgjnclaaGreatDoor.nn
/- The real fdec: Round. -/
namespace Go.Proofs.YtcndkhgbgjnclaaGreatDoor.nn
open Go.RowKit

/-- the number that digits with an exponent are, over another -/
def rX (s : ByteArray) (z : Int) : Nat := dv (bt s) s.size * 10 ^ z.toNat
def rY (z : Int) : Nat := 10 ^ (-z).toNat
theorem rY_pos (z : Int) : 0 < rY z := Nat.pow_pos (by decide)
/-- b is the nearest -/
def RN (s : ByteArray) (z : Int) (b : Nat) : Prop := Near (rX s z * 2 ^ e74) (rY z) b
theorem RN_ex (s : ByteArray) (z : Int) : ∃ b, RN s z b := near_ex _ _ (rY_pos z)
def roV (neg : Bool) (b : Nat) : Nat := if b < inf then sB neg + b else 0
def roE (b : Nat) : Nat := if b < inf then 0 else 8
def RoAns (V E : Nat) (w : World) (e : Ending) (w' : World) : Prop := e = .returned (.tuple #[.int .u64 (V : Int), .int .i64 (E : Int)]) ∧ Below w.heap.size w w'
theorem rf_zero {s : ByteArray} {z : Int} (h : rfE s z = 0) : s.size ≤ 800 ∧ 0 < s.size ∧ dgs (bt s) s.size = true ∧ -2000 ≤ z ∧ z ≤ 2000 := by
  unfold rfE at h
  by_cases h1 : 800 < s.size
  · rw [if_pos h1] at h; omega
  · rw [if_neg h1] at h
    cases h2 : (dgs (bt s) s.size && decide (0 < s.size)) with
    | false => rw [h2, if_pos rfl] at h; omega
    | true =>
      rw [h2, if_neg (by decide)] at h
      rw [Bool.and_eq_true, decide_eq_true_eq] at h2
      split at h
      · omega
      · exact ⟨by omega, h2.2, h2.1, by omega, by omega⟩
theorem rf_le (s : ByteArray) (z : Int) : rfE s z < 8 := by
  unfold rfE
  split
  · decide
  · split
    · decide
    · split <;> decide
theorem rX_fits {s : ByteArray} {z : Int} (h : rfE s z = 0) : rX s z < 2 ^ b20 ∧ rY z < 2 ^ b20 := by
  obtain ⟨h1, h2, h3, h4, h5⟩ := rf_zero h
  have e : ∀ n, n ≤ 2800 → 10 ^ n < 2 ^ b20 := fun n hn => Nat.lt_of_le_of_lt (ten_two n) ((Nat.pow_lt_pow_iff_right (by decide)).2 (by rw [b20_eq]; omega))
  constructor
  · unfold rX
    have h6 := dv_lt h3
    have h7 : dv (bt s) s.size * 10 ^ z.toNat < 10 ^ s.size * 10 ^ z.toNat := Nat.mul_lt_mul_of_pos_right h6 (Nat.pow_pos (by decide))
    rw [← Nat.pow_add] at h7
    exact Nat.lt_trans h7 (e _ (by omega))
  · exact e _ (by omega)

set_option maxRecDepth 100000 in
set_option maxHeartbeats 400000 in
theorem round_no (neg : Bool) (s : ByteArray) (z : Int) (w : World) (hs : s.size ≤ maxLen) (hz1 : -9223372036854775808 ≤ z) (hz2 : z ≤ 9223372036854775807) (hr : rfE s z ≠ 0) :
    Calls Tryz.prog 15 #[.bool neg, .string s, .int .i64 z] w (RoAns 0 (rfE s z) w) := by
  have HR := Lib.hid (refuse_any s z w hs hz1 hz2)
  have HB := Lib.hid (Below.refl w.heap.size w)
  obtain ⟨r, hrr⟩ : ∃ r, rfE s z = r := ⟨_, rfl⟩
  rw [hrr] at hr HR
  rw [hrr]
  have k0 : ((r : Int) != 0) = true := by simp; omega
  clear hrr hr hs
  go_enter Tryz.func15, Tryz.ntmps15
  go_wp2_with fail
  refine HR.out.mono ?_
  rintro e w' ⟨rfl, rfl⟩
  go_wp2_with fail
  go_ret2
  exact ⟨rfl, HB.out⟩

set_option maxRecDepth 100000 in
set_option maxHeartbeats 400000 in
theorem round_yes (neg : Bool) (s : ByteArray) (z : Int) (b : Nat) (w : World) (hr : rfE s z = 0) (hb : RN s z b) :
    Calls Tryz.prog 15 #[.bool neg, .string s, .int .i64 z] w (RoAns (roV neg b) (roE b) w) := by
  obtain ⟨h1, h2, h3, h4, h5⟩ := rf_zero hr
  obtain ⟨f1, f2⟩ := rX_fits hr
  have HR := Lib.hid (refuse_any s z w (by unfold maxLen; omega) (by omega) (by omega))
  have HA := Lib.hid (ratio_any s z w h3 h2 (by omega) (by omega) (by omega))
  have HN := Lib.hid (fun W v u (hv : N W v (rX s z)) (hu : N W u (rY z)) => nearest_any v u (rX s z) (rY z) W hv hu f1 f2 (rY_pos z))
  have HS := Lib.hid (fun m W (hm : m < 9223372036854775808) => fsigned_any neg m W hm)
  rw [hr] at HR
  have HU : Hid (∀ b', Near (rX s z * 2 ^ e74) (rY z) b' → b' = b) := Lib.hid fun b' h => near_uniq (rY_pos z) h hb
  have hA : rX s z = dv (bt s) s.size * 10 ^ z.toNat := rfl
  have hY : rY z = 10 ^ (-z).toNat := rfl
  rw [← hA, ← hY] at HA
  have HB := Lib.hid (Below.refl w.heap.size w)
  clear hb hr h3 f1 f2 hA hY
  obtain ⟨P, hP⟩ : ∃ P, rX s z = P := ⟨_, rfl⟩
  obtain ⟨Q, hQ⟩ : ∃ Q, rY z = Q := ⟨_, rfl⟩
  rw [hP, hQ] at HA HN HU
  clear hP hQ
  by_cases hi : b < inf
  · have e1 : roV neg b = sB neg + b := if_pos hi
    have e2 : roE b = 0 := if_pos hi
    obtain ⟨n1, n2⟩ := ne_yes hi
    rw [e1, e2]
    have hi2 := hi
    rw [inf_eq] at hi2
    have H12 := Lib.hid (And.intro n1 n2)
    clear e1 e2 n1 n2 hi
    go_enter Tryz.func15, Tryz.ntmps15
    go_wp2_with fail
    refine HR.out.mono ?_
    rintro e w' ⟨rfl, rfl⟩
    go_wp2_with fail
    refine HA.out.mono ?_
    rintro e w1 ⟨v, u, rfl, hv, hu, hb1⟩
    have HV := Lib.hid (And.intro hv hu)
    have HB1 := Lib.hid hb1
    clear hv hu hb1
    go_wp2_with fail
    refine (HN.out _ _ _ HV.out.1 HV.out.2).mono ?_
    rintro e w2 ⟨b', hn, rfl, hb2⟩
    obtain rfl := HU.out b' hn
    have HB2 := Lib.hid (HB1.out.trans (hb2.mono HB1.out.size))
    rw [H12.out.1, H12.out.2]
    clear hn hb2
    go_wp2_with fail
    refine (HS.out _ _ (by omega)).mono ?_
    rintro e w' ⟨rfl, rfl⟩
    go_wp2_with fail
    go_ret2
    exact ⟨rfl, HB2.out⟩
  · have e1 : roV neg b = 0 := if_neg hi
    have e2 : roE b = 8 := if_neg hi
    obtain ⟨n1, n2⟩ := ne_no (Nat.le_of_not_lt hi)
    rw [e1, e2]
    have H12 := Lib.hid (And.intro n1 n2)
    clear e1 e2 n1 n2 hi
    go_enter Tryz.func15, Tryz.ntmps15
    go_wp2_with fail
    refine HR.out.mono ?_
    rintro e w' ⟨rfl, rfl⟩
    go_wp2_with fail
    refine HA.out.mono ?_
    rintro e w1 ⟨v, u, rfl, hv, hu, hb1⟩
    have HV := Lib.hid (And.intro hv hu)
    have HB1 := Lib.hid hb1
    clear hv hu hb1
    go_wp2_with fail
    refine (HN.out _ _ _ HV.out.1 HV.out.2).mono ?_
    rintro e w2 ⟨b', hn, rfl, hb2⟩
    obtain rfl := HU.out b' hn
    have HB2 := Lib.hid (HB1.out.trans (hb2.mono HB1.out.size))
    rw [H12.out.1, H12.out.2]
    clear hn hb2
    go_wp2_with fail
    go_ret2
    exact ⟨rfl, HB2.out⟩

theorem two_add {a b c : Nat} (h : c = a + b) : (2 : Nat) ^ c = 2 ^ a * 2 ^ b := by rw [h, Nat.pow_add]
/-- the text 1 with the exponent 0 -/
theorem one_near : RN ⟨#[49]⟩ 0 4607182418800017408 := by
  have e1 : rX ⟨#[49]⟩ 0 * 2 ^ e74 = vf 4607182418800017408 * rY 0 := by
    obtain ⟨j, hj⟩ : ∃ j, j = 1022 := ⟨_, rfl⟩
    have hv : vf (j * h52 + h52) = h52 * 2 ^ j := vf_at (by omega) (.inr (Nat.le_refl _))
    have hx : rX ⟨#[49]⟩ 0 = 1 := by decide
    have hy : rY 0 = 1 := by decide
    have hb : 4607182418800017408 = j * h52 + h52 := by rw [hj]; decide
    rw [hx, hy, hb, hv, Nat.one_mul, Nat.mul_one, ← h52_eq]
    exact two_add (by rw [hj]; rfl)
  unfold RN
  rw [e1]
  exact near_self _ _ (rY_pos 0)
set_option maxRecDepth 100000 in
set_option maxHeartbeats 400000 in
theorem awake_any6 (w : World) : Calls Tryz.prog 11 #[] w fun e w' => e = .returned (.bool true) ∧ Below w.heap.size w w' := by
  have HR := Lib.hid (round_yes false ⟨#[49]⟩ 0 _ w (by decide) one_near)
  rw [show roV false 4607182418800017408 = 4607182418800017408 by decide, show roE 4607182418800017408 = 0 by decide] at HR
  go_enter Tryz.func11, Tryz.ntmps11
  go_wp2_with fail
  refine HR.out.mono ?_
  rintro e w1 ⟨rfl, hb1⟩
  have HB1 := Lib.hid hb1
  clear hb1
  go_wp2_with fail
  go_ret
  exact ⟨rfl, HB1.out⟩
end Go.Proofs.YtcndkhgbgjnclaaGreatDoor.nn
/- The walk of the document's Times. -/
namespace Go.Proofs.YtcndkhgbgjnclaaGreatDoor.nn
open Go.RowKit

theorem wrap_u64_in {x : Nat} (h : x ≤ 18446744073709551615) : IntKind.u64.wrap (x : Int) = (x : Int) := by
  simp [IntKind.wrap, IntKind.bits, IntKind.signed]
  omega

/-- a row within the product: c is carried to place i + k -/
def RowRel (w wr : World) (g : Nat) (e : TypeId) (cur : Array Value) (N : Nat) (f h : Nat → Nat) (m i k c : Nat) : Prop :=
  ∃ (f' : Nat → Nat) (cur' : Array Value), Wrote w wr g e cur cur' 0 N ∧ Ints cur' .u32 0 N f' ∧ Lt (2 ^ 32) f' N ∧ sm (2 ^ 32) f' N + c * (2 ^ 32) ^ (i + k) = sm (2 ^ 32) f i * sm (2 ^ 32) h m + f i * sm (2 ^ 32) (pad h m) k * (2 ^ 32) ^ i

theorem row_math {f h f' : Nat → Nat} {m i k c N t v c' y : Nat} (hv : sm (2 ^ 32) f' N + c * (2 ^ 32) ^ (i + k) = sm (2 ^ 32) f i * sm (2 ^ 32) h m + f i * sm (2 ^ 32) (pad h m) k * (2 ^ 32) ^ i) (hi : i + k < N) (hy : pad h m k = y) (ht : t = c + f' (i + k) + f i * y) (hq : t = v + c' * 2 ^ 32) :
    sm (2 ^ 32) (upd f' (i + k) v) N + c' * (2 ^ 32) ^ (i + (k + 1)) = sm (2 ^ 32) f i * sm (2 ^ 32) h m + f i * sm (2 ^ 32) (pad h m) (k + 1) * (2 ^ 32) ^ i := by
  have h1 := sm_upd (2 ^ 32) f' v hi
  have e1 : sm (2 ^ 32) (pad h m) (k + 1) = sm (2 ^ 32) (pad h m) k + y * (2 ^ 32) ^ k := by rw [← hy]; rfl
  rw [e1, Nat.mul_add, Nat.add_mul, ← Nat.add_assoc i k 1, pow_s (2 ^ 32) (i + k)]
  have h2 := congrArg (· * (2 ^ 32) ^ (i + k)) (ht.symm.trans hq)
  simp only [Nat.add_mul] at h2
  have e2 : c' * ((2 ^ 32) ^ (i + k) * 2 ^ 32) = c' * 2 ^ 32 * (2 ^ 32) ^ (i + k) := by ac_rfl
  have e3 : f i * (y * (2 ^ 32) ^ k) * (2 ^ 32) ^ i = f i * y * (2 ^ 32) ^ (i + k) := by rw [Nat.pow_add]; ac_rfl
  rw [e2, e3]
  omega

/-- a carry behind the row comes one place behind it at most -/
theorem row_bound {f h f' : Nat → Nat} {m n i k c N : Nat} (hv : sm (2 ^ 32) f' N + c * (2 ^ 32) ^ (i + k) = sm (2 ^ 32) f i * sm (2 ^ 32) h m + f i * sm (2 ^ 32) (pad h m) k * (2 ^ 32) ^ i) (lf : Lt (2 ^ 32) f n) (lh : Lt (2 ^ 32) h m) (hi : i < n) (hk : m ≤ k) (hc : 0 < c) : k ≤ m := by
  rw [pad_sm _ _ hk] at hv
  have e : sm (2 ^ 32) f (i + 1) = sm (2 ^ 32) f i + f i * (2 ^ 32) ^ i := rfl
  have e2 : sm (2 ^ 32) f (i + 1) * sm (2 ^ 32) h m = sm (2 ^ 32) f i * sm (2 ^ 32) h m + f i * sm (2 ^ 32) h m * (2 ^ 32) ^ i := by rw [e, Nat.add_mul]; congr 1; ac_rfl
  rw [← e2] at hv
  have h1 := sm_lt (lf.mono (by omega : i + 1 ≤ n))
  have h2 := sm_lt lh
  have hp := Nat.pow_pos (n := m) (Nat.two_pow_pos 32)
  have h3 : sm (2 ^ 32) f (i + 1) * sm (2 ^ 32) h m < (2 ^ 32) ^ (i + 1 + m) := by rw [Nat.pow_add]; exact Nat.mul_lt_mul'' h1 h2
  have h4 : (2 ^ 32) ^ (i + k) ≤ c * (2 ^ 32) ^ (i + k) := Nat.le_mul_of_pos_left _ hc
  have h5 : (2 ^ 32) ^ (i + k) < (2 ^ 32) ^ (i + 1 + m) := by omega
  have h6 := (Nat.pow_lt_pow_iff_right (a := 2 ^ 32) (by decide)).1 h5
  omega

theorem row_step {w wr : World} {g : Nat} {e : TypeId} {cur cur' : Array Value} {N : Nat} {f h f' : Nat → Nat} {m i k c t y : Nat} {zz : Int} (hw : Wrote w wr g e cur cur' 0 N) (hin : Ints cur' .u32 0 N f') (lf' : Lt (2 ^ 32) f' N)
    (hv : sm (2 ^ 32) f' N + c * (2 ^ 32) ^ (i + k) = sm (2 ^ 32) f i * sm (2 ^ 32) h m + f i * sm (2 ^ 32) (pad h m) k * (2 ^ 32) ^ i) (hi : i + k < N) (hy : pad h m k = y) (ht : c + f' (i + k) + f i * y = t) (hz : zz = ((t % 4294967296 : Nat) : Int)) :
    RowRel w (wr.setCell ⟨g, i + k, none⟩ (.int .u32 zz)) g e cur N f h m i (k + 1) (t / 4294967296) := by
  subst hz
  have h1 := hw.set_ (i + k) hi (.int .u32 ((t % 4294967296 : Nat) : Int))
  have h2 := hin.set_ (i + k) (t % 4294967296) hi
  simp only [Nat.zero_add] at h1 h2
  exact ⟨_, _, h1, h2, lf'.upd (Nat.mod_lt _ (by decide)), row_math hv hi hy ht.symm (by omega)⟩

theorem RowRel.end_ {w wr : World} {g : Nat} {e : TypeId} {cur : Array Value} {N : Nat} {f h : Nat → Nat} {m i k : Nat} (H : RowRel w wr g e cur N f h m i k 0) (hk : m ≤ k) : RowRel w wr g e cur N f h m (i + 1) 0 0 := by
  obtain ⟨f', cur', h1, h2, h3, h4⟩ := H
  refine ⟨f', cur', h1, h2, h3, ?_⟩
  rw [pad_sm _ _ hk] at h4
  have e : sm (2 ^ 32) f (i + 1) = sm (2 ^ 32) f i + f i * (2 ^ 32) ^ i := rfl
  have e2 : sm (2 ^ 32) f (i + 1) * sm (2 ^ 32) h m = sm (2 ^ 32) f i * sm (2 ^ 32) h m + f i * sm (2 ^ 32) h m * (2 ^ 32) ^ i := by rw [e, Nat.add_mul]; congr 1; ac_rfl
  rw [e2]
  simp only [sm, Nat.zero_mul, Nat.mul_zero, Nat.add_zero] at h4 ⊢
  exact h4

set_option maxRecDepth 100000 in
set_option maxHeartbeats 2000000 in
theorem times_any (A B : Option Addr) (n m cA dB : Nat) (f h : Nat → Nat) (w : World) (hA : Rd w .u32 A n f) (hB : Rd w .u32 B m h) (lf : Lt (2 ^ 32) f n) (lh : Lt (2 ^ 32) h m) (hn : n ≤ 100000) (hm : m ≤ 100000) :
    Calls Tryz.prog 59 #[.slice A n cA, .slice B m dB] w fun e w' => One w w' e (sm (2 ^ 32) f n * sm (2 ^ 32) h m) (n + m + 1) := by
  obtain ⟨i0, hi, hz0, hz1, hz2⟩ := info_parts info_u32
  have LF := Lib.hid lf
  have LH := Lib.hid lh
  have LHP := Lib.hid (fun N => pad_lt (Nat.two_pow_pos 32) lh N)
  clear lf lh
  go_enter Tryz.func59, Tryz.ntmps59
  go_wp2_with (refine wpList_make_full _ rfl _ _ 52 rfl w.heap.size 100 i0 _ 1 Tryz.underlying52 hi hz0 hz1 .i64 .i64 _ _ (n + m + 1) rfl rfl ?c1 ?c2 ?c3 ?c4 ?c5 ?_; rotate_left 5; intro w1 hown1 hg1)
  case c1 => omega
  case c2 => omega
  case c3 => rw [hz2]; omega
  case c4 => unfold maxLen; omega
  case c5 => omega
  rw [made_vl] at hown1
  obtain ⟨cur, hbk, hint, _, _, _, hcs, hfin⟩ := own_wrote hown1
  have HFIN := Lib.hid hfin
  have hbw1 : Below w.heap.size w w1 := (Below.refl _ _).grown (row := none) hg1 (Nat.le_refl _) (fun k hk => by cases hk)
  have hneA : Hid (∀ b o, A = some ⟨b, o, none⟩ → 0 < n → b ≠ w.heap.size) := Lib.hid fun b o e h0 => by have := hA.lt e h0; omega
  have hneB : Hid (∀ b o, B = some ⟨b, o, none⟩ → 0 < m → b ≠ w.heap.size) := Lib.hid fun b o e h0 => by have := hB.lt e h0; omega
  have hA1 := Lib.hid (hA.below hbw1)
  have hB1 := Lib.hid (hB.below hbw1)
  clear hown1 hcs hg1 hA hB hfin
  go_loopw [6] (fun s6 wr => ∃ i : Nat, i ≤ n ∧ s6 = .int .i64 i ∧ RowRel w1 wr w.heap.size 100 cur (n + m + 1) f h m i 0 0) (fun s6 _ => n - (intOf s6).toNat)
  case atStart => exact ⟨0, Nat.zero_le _, rfl, fun _ => 0, cur, Wrote.refl hbk 0 _, hint, fun _ _ => Nat.two_pow_pos 32, by rw [zero_sm]; simp [sm]⟩
  case round =>
    obtain ⟨i, hi', rfl, hrel0⟩ := hrel
    by_cases hlt : i < n
    · obtain ⟨x, hx⟩ : ∃ x, f i = x := ⟨_, rfl⟩
      have hxl : x < 4294967296 := by rw [← hx]; exact LF.out i hlt
      have HX := Lib.hid hx
      clear hx
      go_wp2
      go_loopw [7, 8] (fun s7 s8 wr => ∃ k c : Nat, k ≤ m + 1 ∧ c < 4294967296 ∧ s7 = .int .u64 c ∧ s8 = .int .i64 k ∧ RowRel w1 wr w.heap.size 100 cur (n + m + 1) f h m i k c) (fun _ s8 _ => m + 2 - (intOf s8).toNat)
      case atStart => exact ⟨0, 0, Nat.zero_le _, by omega, rfl, rfl, hrel0⟩
      case round =>
        clear hrel0
        obtain ⟨k, c, hk, hc, rfl, rfl, f', cur', hw, hin, lf', hv⟩ := hrel
        by_cases hgo : k < m ∨ 0 < c
        · have hkm : k ≤ m := by
            rcases Nat.lt_or_ge k m with h1 | h1
            · omega
            · exact row_bound hv LF.out LH.out hlt h1 (by omega)
          have hc1 := (Bk.cell hw.blk (0 + (i + k))).trans (hin (i + k) (by omega))
          have hf1 := Bk.frozen hw.blk (0 + (i + k))
          rw [Nat.zero_add] at hc1 hf1
          obtain ⟨y, hy⟩ : ∃ y, pad h m k = y := ⟨_, rfl⟩
          have hyl : y < 4294967296 := by rw [← hy]; exact LHP.out (k + 1) k (by omega)
          have hzl : f' (i + k) < 4294967296 := lf' (i + k) (by omega)
          obtain ⟨z, hz⟩ : ∃ z, f' (i + k) = z := ⟨_, rfl⟩
          rw [hz] at hc1 hzl
          have hxy : x * y ≤ 4294967295 * 4294967295 := Nat.mul_le_mul (by omega) (by omega)
          obtain ⟨p, hp⟩ : ∃ p, x * y = p := ⟨_, rfl⟩
          rw [hp] at hxy
          have HAT1 : Hid (∀ j, Calls Tryz.prog 100 #[.slice A n cA, .int .i64 i] (World.drewN _ j) fun e w' => e = .returned (.int .u64 (x : Nat)) ∧ w' = World.drewN _ j) := Lib.hid fun j => by
            have := at_any A n cA i f _ ((hA1.out.wrote hw hneA.out).drewN j) LF.out (by unfold maxLen; omega) (by unfold maxLen; omega)
            have e : pad f n i = x := by rw [← HX.out]; simp [pad, hlt]
            rw [e] at this
            exact this.mono fun _ _ ⟨a, b⟩ => ⟨a, b.symm⟩
          have HAT2 : Hid (∀ j, Calls Tryz.prog 100 #[.slice B m dB, .int .i64 k] (World.drewN _ j) fun e w' => e = .returned (.int .u64 (y : Nat)) ∧ w' = World.drewN _ j) := Lib.hid fun j => by
            have := at_any B m dB k h _ ((hB1.out.wrote hw hneB.out).drewN j) LH.out (by unfold maxLen; omega) (by unfold maxLen; omega)
            rw [hy] at this
            exact this.mono fun _ _ ⟨a, b⟩ => ⟨a, b.symm⟩
          have HV := Lib.hid hv
          have HY := Lib.hid hy
          have HZ := Lib.hid hz
          have HPP := Lib.hid hp
          have LFF := Lib.hid lf'
          have HW := Lib.hid hw
          have HIN := Lib.hid hin
          obtain ⟨t, ht⟩ : ∃ t, c + z + p = t := ⟨_, rfl⟩
          have htl : t ≤ 18446744073709551615 := by omega
          have HTT := Lib.hid ht
          have u1 : IntKind.u64.wrap (z : Int) = (z : Int) := wrap_u64_in (by omega)
          have u2 : IntKind.u64.wrap ((c : Int) + (z : Int)) = (c : Int) + (z : Int) := by
            have := wrap_u64_in (x := c + z) (by omega)
            rwa [Int.natCast_add] at this
          have u3 : IntKind.u64.wrap ((x : Int) * (y : Int)) = (p : Int) := by
            have e : (x : Int) * (y : Int) = (p : Int) := by rw [← hp, Int.natCast_mul]
            rw [e]
            exact wrap_u64_in (by omega)
          have u4 : IntKind.u64.wrap ((c : Int) + (z : Int) + (p : Int)) = (t : Int) := by
            have := wrap_u64_in (x := c + z + p) (by omega)
            rw [ht] at this
            rw [← this]
            congr 1
            omega
          have k1 : IntKind.i64.wrap ((i : Int) + (k : Int)) = (i : Int) + (k : Int) := IntWalk.i64_in _ (by omega)
          have k2 : 0 ≤ (i : Int) + (k : Int) := by omega
          have k3 : ((i : Int) + (k : Int)).toNat = i + k := by omega
          have k4 : (i : Int) + (k : Int) < ((n + m + 1 : Nat) : Int) := by omega
          have hgo' : Hid (k < m ∨ 0 < c) := Lib.hid hgo
          clear hv hy hz hp lf' hw hin ht hgo
          by_cases h1 : k < m
          · go_wp2_with fail
            go_quiet ((first | (go_at_call_of 100 (Value.slice A n cA); exact Calls.quiet_of_same (HAT1.out _)) | (go_at_call_of 100 (Value.slice B m dB); exact Calls.quiet_of_same (HAT2.out _))))
            clear u1 u2 u3 u4 k1 k3
            go_wp2
            go_roundw
            case rel => exact ⟨k + 1, t / 4294967296, by omega, by omega, congrArg (Value.int .u64) (by omega), by go_num, row_step (HW.out.drewN _) HIN.out LFF.out HV.out (by omega) HY.out (by rw [HZ.out, HX.out, HPP.out, HTT.out]) (by omega)⟩
            case measure => simp [intOf]; omega
          · have h2 : 0 < c := by have := hgo'.out; omega
            have h3 : m ≤ k := by omega
            clear h1
            go_wp2_with fail
            go_quiet ((first | (go_at_call_of 100 (Value.slice A n cA); exact Calls.quiet_of_same (HAT1.out _)) | (go_at_call_of 100 (Value.slice B m dB); exact Calls.quiet_of_same (HAT2.out _))))
            clear u1 u2 u3 u4 k1 k3
            go_wp2
            go_roundw
            case rel => exact ⟨k + 1, t / 4294967296, by omega, by omega, congrArg (Value.int .u64) (by omega), by go_num, row_step (HW.out.drewN _) HIN.out LFF.out HV.out (by omega) HY.out (by rw [HZ.out, HX.out, HPP.out, HTT.out]) (by omega)⟩
            case measure => simp [intOf]; omega
        · have hc0 : c = 0 := by omega
          subst hc0
          have hmk : m ≤ k := by omega
          have HEND := Lib.hid (RowRel.end_ ⟨f', cur', hw, hin, lf', hv⟩ hmk)
          clear hgo hw hin lf' hv
          go_wp2
          go_roundw
          case rel => exact ⟨i + 1, by omega, by go_num, HEND.out⟩
          case measure => simp [intOf]; omega
    · obtain rfl : i = n := by omega
      obtain ⟨f', cur', hw, hin, lf', hv⟩ := hrel0
      have ho := HFIN.out _ cur' f' hw hin
      have hbw2 := hbw1.grown hw.grown hbw1.size (fun k hk => by injection hk with hk; exact Nat.le_of_eq hk)
      obtain ⟨A2, c2, e2, hc2, hm2, hr2⟩ := Rd.of_own ho
      injection e2 with e2 _ e3
      subst e2
      subst e3
      simp only [sm, Nat.zero_mul, Nat.mul_zero, Nat.add_zero] at hv
      have HV := Lib.hid hv
      have HRT := Lib.hid (rtrim_any (some ⟨w.heap.size, 0, none⟩) (i + m + 1) (i + m + 1) f' _ hr2 (Nat.le_refl _) (by omega))
      clear hv ho
      go_wp2_with (go_at_call 101; refine HRT.out.mono ?_; rintro e w3 ⟨v3, rfl, hown3, hb3⟩)
      go_ret
      exact One.mk_ hown3 lf' HV.out (Nat.le_refl _) hbw2 hb3
end Go.Proofs.YtcndkhgbgjnclaaGreatDoor.nn
/- The walks of the document's twice and Bits. -/
namespace Go.Proofs.YtcndkhgbgjnclaaGreatDoor.nn
open Go.RowKit

/-- what holds at the head of twice's loop -/
def TwRel (base : Nat) (w0 wr : World) (s : Value) (i b b0 : Nat) (f : Nat → Nat) : Prop :=
  ∃ f' : Nat → Nat, wr.ownsRow base 100 1 s i (vl .u32 f' i) ∧ Below base w0 wr ∧ base ≤ wr.heap.size ∧ Lt (2 ^ 32) f' i ∧ sm (2 ^ 32) f' i + b * (2 ^ 32) ^ i = 2 * sm (2 ^ 32) f i + b0

theorem or_one {x b : Nat} (hb : b ≤ 1) : bits BinOp.or IntKind.u32 ((x : Int) * 2 % 4294967296) (b : Int) = ((x * 2 % 4294967296 + b : Nat) : Int) := by
  have e : (x : Int) * 2 % 4294967296 = ((x * 2 % 4294967296 : Nat) : Int) := by omega
  have h1 : x * 2 % 4294967296 < 4294967296 := Nat.mod_lt _ (by decide)
  rw [e, u32_or_nat _ _ h1 (by omega), nat_join 1 _ _ (by omega) (by omega)]

theorem TwRel.step {base : Nat} {w0 wr w1 : World} {v : Value} {i b b0 : Nat} {f f' : Nat → Nat} (o : Obj) (hb : b ≤ 1) (h2 : Below base w0 wr) (h3 : base ≤ wr.heap.size) (h4 : Lt (2 ^ 32) f' i)
    (h6 : sm (2 ^ 32) f' i + b * (2 ^ 32) ^ i = 2 * sm (2 ^ 32) f i + b0)
    (ho : w1.ownsRow base 100 1 v (i + 1) (vl .u32 (jn f' i (fun _ => f i * 2 % 4294967296 + b)) (i + 1))) (hb1 : Below base (wr.alloc o) w1) : TwRel base w0 w1 v (i + 1) (f i / 2147483648) b0 f := by
  have hb2 := (h2.alloc h3 o).trans hb1
  have hs := hb1.size
  rw [hsz] at hs
  refine ⟨_, ho, hb2, by omega, h4.jn (m := 1) (fun _ _ => by show f i * 2 % 4294967296 + b < 2 ^ 32; omega), ?_⟩
  have e1 : sm (2 ^ 32) (fun _ => f i * 2 % 4294967296 + b) 1 = f i * 2 % 4294967296 + b := by simp [sm]
  have er : sm (2 ^ 32) f (i + 1) = sm (2 ^ 32) f i + f i * (2 ^ 32) ^ i := rfl
  rw [sm_jn, e1, er, pow_s (2 ^ 32) i]
  have e := congrArg (· * (2 ^ 32) ^ i) (show f i * 2 % 4294967296 + b + f i / 2147483648 * 2 ^ 32 = 2 * f i + b by omega)
  simp only [Nat.add_mul] at e
  have e2 : f i / 2147483648 * ((2 ^ 32) ^ i * 2 ^ 32) = f i / 2147483648 * 2 ^ 32 * (2 ^ 32) ^ i := by ac_rfl
  have e3 : 2 * (f i * (2 ^ 32) ^ i) = 2 * f i * (2 ^ 32) ^ i := by ac_rfl
  rw [e2, Nat.mul_add, e3, Nat.add_mul]
  omega

set_option maxHeartbeats 400000 in
theorem rbits_any (A : Option Addr) (n c : Nat) (f : Nat → Nat) (w : World) (hA : Rd w .u32 A n f) (lf : Lt (2 ^ 32) f n) (hn : n ≤ c) (hreach : n * 4 ≤ 140737488355328) :
    Calls Tryz.prog 61 #[.slice A n c] w fun e w' => e = .returned (.int .i64 (bl (sm (2 ^ 32) f n))) ∧ Below w.heap.size w w' := by
  have hle := tr_le f n
  rcases hj : tr f n with _ | j
  · have H0 : Hid (bl (sm (2 ^ 32) f n) = 0) := by
      rw [← sm_tr, hj]; rfl
    have HT := Lib.hid (rtrim_at A n c 0 f w hj hA hn hreach)
    clear hj
    go_enter Tryz.func61, Tryz.ntmps61
    go_wp2_with (go_at_call 101; refine HT.out.mono ?_; rintro e w' ⟨A1, c1, rfl, hr1, hb1⟩)
    go_ret
    exact ⟨by rw [H0.out]; rfl, hb1⟩
  · obtain ⟨h1, h2, h3⟩ := bits_val lf hj
    have bx := lf j h3
    have HT := Lib.hid (rtrim_at A n c (j + 1) f w hj hA hn hreach)
    obtain ⟨K, hK⟩ : ∃ K, bl (sm (2 ^ 32) f n) = K := ⟨_, rfl⟩
    rw [hK] at h1 ⊢
    have H1 := Lib.hid h1
    have hblx := Lib.hid (bl_le bx)
    clear h1 h2 hj hK
    go_enter Tryz.func61, Tryz.ntmps61
    go_wp2_with fail
    refine HT.out.mono ?_
    rintro e w' ⟨A1, c1, rfl, hr1, hb1⟩
    obtain ⟨b, off, rfl, _, hcell⟩ := hr1 (by omega)
    have hx := hcell j (by omega)
    clear hcell hr1
    go_wp2
    go_loop [4, 5] (fun s4 s5 => ∃ N t : Nat, t < 4294967296 ∧ s4 = .int .i64 N ∧ s5 = .int .u32 t ∧ N ≤ 32 * j + 32 ∧ Hid (N + bl t = K)) (fun _ s5 => (intOf s5).toNat)
    case atStart => exact ⟨32 * j, f j, bx, by go_num, rfl, by omega, Lib.hid H1.out.symm⟩
    case round =>
      obtain ⟨N, t, ht, rfl, rfl, hN, hI⟩ := hrel
      rcases Nat.eq_zero_or_pos t with h0 | h0
      · subst h0
        go_wp2
        go_ret
        exact ⟨ret_int (by have := hI.out; rw [bl_zero] at this; omega), hb1⟩
      · have hh := bl_half (x := t) (by omega)
        have hI2 : Hid (N + 1 + bl (t / 2) = K) := Lib.hid (by have := hI.out; omega)
        have hN2 : N + 1 ≤ 32 * j + 32 := by have := hI.out; have := H1.out; have := hblx.out; omega
        clear hh
        go_wp2
        go_round
        case rel => exact ⟨N + 1, t / 2, by omega, by go_num, congrArg (Value.int .u32) (by omega), hN2, hI2⟩
        case measure => simp [intOf]; omega
end Go.Proofs.YtcndkhgbgjnclaaGreatDoor.nn
/- The walk of the document's FromDigits. -/
namespace Go.Proofs.YtcndkhgbgjnclaaGreatDoor.nn
open Go.RowKit

theorem nil_of {s : ByteArray} (h : s.size = 0) : s = ⟨#[]⟩ := by
  apply ByteArray.ext
  exact Array.eq_empty_of_size_eq_zero h
theorem not_nil {s : ByteArray} (h : 0 < s.size) : s.toList.isEmpty = false := by
  have e : s.toList = s.data.toList := ByteArray.toList_eq s
  rw [e, List.isEmpty_eq_false_iff]
  intro h2
  have h3 : s.data.size = 0 := by rw [← Array.length_toList, h2]; rfl
  have h4 : s.size = s.data.size := rfl
  omega

/-- all that stood in a stands in b -/
def Stay (a b : World) : Prop := Below a.heap.size a b
theorem Stay.a1 (a : World) (o : Obj) : Stay a (a.alloc o).drew := ((Below.refl _ _).alloc (Nat.le_refl _) _).drew
theorem Stay.a2 (a : World) (o o' : Obj) : Stay a ((a.alloc o).alloc o').drew := (((Below.refl _ _).alloc (Nat.le_refl _) _).alloc (by rw [hsz]; omega) _).drew
theorem Stay.al {a b : World} (h : Stay a b) (o : Obj) : Stay a (b.alloc o) := Below.alloc h h.size o
/-- one limb stands in block g -/
def Limb (w : World) (g x : Nat) : Prop := Rd w .u32 (some ⟨g, 0, none⟩) 1 (fun _ => x)
theorem Limb.l1 (a : World) (e : TypeId) (x : Nat) {z : Int} (h : z = (x : Int)) : Limb (a.alloc (.cells #[.int .u32 z] e)).drew a.heap.size x := rd_z a .u32 x e h
theorem Limb.l2 (a : World) (e : TypeId) (x : Nat) (o : Obj) {z : Int} (h : z = (x : Int)) : Limb ((a.alloc (.cells #[.int .u32 z] e)).alloc o).drew a.heap.size x := (rd_z a .u32 x e h).alloc o
theorem Limb.l3 (a : World) (e : TypeId) (x : Nat) (o : Obj) {z : Int} (h : z = (x : Int)) : Limb ((a.alloc o).alloc (.cells #[.int .u32 z] e)).drew (a.heap.size + 1) x := by
  have := rd_z (a.alloc o) .u32 x e h
  rw [hsz] at this
  exact this
theorem Limb.l4 (a : World) (e : TypeId) (x : Nat) {z : Int} (h : z = (x : Int)) : Limb (a.alloc (.cells #[.int .u32 z] e)) a.heap.size x := rd_z a .u32 x e h
theorem Num.al {w : World} {A : Option Addr} {n c R : Nat} {f : Nat → Nat} (h : Num w A n c f R) (o : Obj) : Num (w.alloc o) A n c f R := ⟨h.le, h.cap, h.rd.alloc o, h.lt, h.trm, h.val⟩

set_option maxRecDepth 100000 in
set_option maxHeartbeats 2000000 in
theorem rfromDigits_any (s : ByteArray) (w : World) (hs : s.size ≤ maxLen) :
    Calls Tryz.prog 113 #[.string s] w fun e w' => Res w w' e (fdR (bt s) s.size) (fdE (bt s) s.size) := by
  have HN := Lib.hid (num_nil w)
  unfold maxLen at hs
  by_cases hl : 4096 < s.size
  · have e1 : fdR (bt s) s.size = 0 := by unfold fdR; rw [if_pos hl]
    have e2 : fdE (bt s) s.size = 2 := by unfold fdE; rw [if_pos hl]
    rw [e1, e2]
    clear e1 e2
    go_enter Tryz.func113, Tryz.ntmps113
    go_wp2
    go_ret2
    exact ⟨_, _, _, _, rfl, HN.out, Below.refl _ _⟩
  · by_cases h0 : s.size = 0
    · have e1 : fdR (bt s) s.size = 0 := by unfold fdR; rw [if_neg hl, h0]; rfl
      have e2 : fdE (bt s) s.size = 4 := by unfold fdE; rw [if_neg hl, h0]; rfl
      rw [e1, e2]
      obtain rfl := nil_of h0
      clear e1 e2 h0 hl hs
      go_enter Tryz.func113, Tryz.ntmps113
      go_wp2
      go_ret2
      exact ⟨_, _, _, _, rfl, HN.out, Below.refl _ _⟩
    · have hne := not_nil (s := s) (by omega)
      have hl4 : s.size ≤ 4096 := by omega
      have HR : Hid (dgs (bt s) s.size = true → fdR (bt s) s.size = dv (bt s) s.size ∧ fdE (bt s) s.size = 0) := Lib.hid fun hd => by
        unfold fdR fdE
        rw [if_neg hl, if_neg hl, hd, decide_eq_true (by omega)]
        exact ⟨rfl, rfl⟩
      have HW : Hid (∀ i, i < s.size → ¬ (48 ≤ bt s i ∧ bt s i ≤ 57) → fdR (bt s) s.size = 0 ∧ fdE (bt s) s.size = 4) := Lib.hid fun i hi hy => by
        have hd : dgs (bt s) s.size = false := by
          cases hh : dgs (bt s) s.size with
          | false => rfl
          | true => exact absurd (dgs_at hh hi) hy
        unfold fdR fdE
        rw [if_neg hl, if_neg hl, hd]
        exact ⟨rfl, rfl⟩
      clear hl h0
      go_enter Tryz.func113, Tryz.ntmps113
      go_wp2_with fail
      go_loopw [4, 5] (fun s4 s5 wr => ∃ (i : Nat) (A' : Option Addr) (n' c' : Nat) (f' : Nat → Nat), i ≤ s.size ∧ s5 = .int .i64 (i : Int) ∧ s4 = .slice A' n' c' ∧ n' ≤ 3 * i ∧ Hid (dgs (bt s) i = true) ∧ Hid (Num wr A' n' c' f' (dv (bt s) i) ∧ Below w.heap.size w wr)) (fun _ s5 _ => s.size - (intOf s5).toNat)
      case atStart => exact ⟨0, none, 0, 0, fun _ => 0, Nat.zero_le _, rfl, rfl, Nat.le_refl _, Lib.hid rfl, Lib.hid ⟨HN.out, Below.refl _ _⟩⟩
      case round =>
        obtain ⟨i, A', n', c', f', hi, rfl, rfl, hn3, hd, hW⟩ := hrel
        by_cases hlt : i < s.size
        · have hx := bt_at hlt
          obtain ⟨x, hxx⟩ : ∃ x, s[i].toNat = x := ⟨_, rfl⟩
          have hx256 : x < 256 := by rw [← hxx]; exact s[i].toNat_lt
          rw [hxx] at hx
          by_cases hy : 48 ≤ x ∧ x ≤ 57
          · have HD : Hid (dgs (bt s) (i + 1) = true) := Lib.hid (by rw [dgs, hd.out, hx]; exact decide_eq_true hy)
            have HV : Hid (dv (bt s) (i + 1) = dv (bt s) i * 10 + (x - 48)) := Lib.hid (by rw [dv, hx])
            obtain ⟨h1, h2⟩ := hy
            obtain ⟨V, hV⟩ : ∃ V, dv (bt s) i = V := ⟨_, rfl⟩
            rw [hV] at hW HV
            have HT : Hid (∀ (W : World) (g : Nat), Stay wr W → Limb W g 10 → Calls Tryz.prog 59 #[.slice A' n' c', .slice (some ⟨g, 0, none⟩) 1 1] W fun e w' =>
                ∃ A5 n5 c5 f5, e = .returned (.slice A5 n5 c5) ∧ (Num w' A5 n5 c5 f5 (V * 10) ∧ n5 ≤ n' + 2) ∧ Stay wr w' ∧ ∀ g', Limb W g' (x - 48) → Limb w' g' (x - 48)) := Lib.hid fun W g hk hr => by
              have h := times_any A' (some ⟨g, 0, none⟩) n' 1 c' 1 f' (fun _ => 10) W (hW.out.1.rd.below hk) hr hW.out.1.lt (fun _ _ => by show 10 < 2 ^ 32; decide) (by omega) (by omega)
              have e : sm (2 ^ 32) (fun _ => 10) 1 = 10 := by simp [sm]
              rw [hW.out.1.val, e] at h
              exact h.mono fun e w' ⟨A5, n5, c5, f5, k1, k2, k3, k4⟩ => ⟨A5, n5, c5, f5, k1, ⟨k2, by omega⟩, Below.trans hk (k4.mono hk.size), fun g' hg => Rd.below hg k4⟩
            have HS : Hid (∀ (W : World) (A5 : Option Addr) (n5 c5 : Nat) (f5 : Nat → Nat) (g : Nat), Stay wr W → (Num W A5 n5 c5 f5 (V * 10) ∧ n5 ≤ n' + 2) → Limb W g (x - 48) → Calls Tryz.prog 140 #[.slice A5 n5 c5, .slice (some ⟨g, 0, none⟩) 1 1] W fun e w' =>
                ∃ A6 n6 c6 f6, e = .returned (.slice A6 n6 c6) ∧ (Num w' A6 n6 c6 f6 (V * 10 + (x - 48)) ∧ n6 ≤ n' + 3) ∧ Stay wr w') := Lib.hid fun W A5 n5 c5 f5 g hk ⟨hN, hle⟩ hr => by
              have h := rsum_any A5 (some ⟨g, 0, none⟩) n5 1 c5 1 f5 (fun _ => x - 48) W hN.rd hr hN.lt (fun _ _ => by show x - 48 < 2 ^ 32; omega) (by omega) (by omega)
              have e : sm (2 ^ 32) (fun _ => x - 48) 1 = x - 48 := by simp [sm]
              rw [hN.val, e] at h
              exact h.mono fun e w' ⟨A6, n6, c6, f6, k1, k2, k3, k4⟩ => ⟨A6, n6, c6, f6, k1, ⟨k2, by omega⟩, Below.trans hk (k4.mono hk.size)⟩
            obtain ⟨d, hdd⟩ : ∃ d, x - 48 = d := ⟨_, rfl⟩
            have t1 : IntKind.u8.wrap ((x : Int) - 48) = (d : Int) := by rw [IntKind.wrap_u8]; omega
            have t2 : IntKind.u32.wrap (d : Int) = (d : Int) := by rw [IntKind.wrap_u32]; omega
            rw [hdd] at HT HS HV
            have HB := Lib.hid hW.out.2
            clear hx hV hW hd hdd
            go_wp2_with fail
            go_region_with (first
              | (go_at_call 59
                 refine (HT.out _ _ (by first | exact Stay.a1 _ _ | exact Stay.a2 _ _ _) (by first | exact Limb.l1 _ _ 10 rfl | exact Limb.l2 _ _ 10 _ rfl | exact Limb.l3 _ _ 10 _ rfl)).mono ?_
                 rintro e w5 ⟨A5, n5, c5, f5, rfl, hn5, hk5, hd5⟩)
              | (go_at_call 140
                 refine (HS.out _ _ _ _ _ _ (by first | assumption | exact Stay.al (by assumption) _) (by first | assumption | exact ⟨Num.al (And.left (by assumption)) _, (And.right (by assumption))⟩) (by first | exact Limb.l4 _ _ _ rfl | (apply_assumption; first | exact Limb.l1 _ _ _ rfl | exact Limb.l2 _ _ _ _ rfl | exact Limb.l3 _ _ _ _ rfl))).mono ?_
                 rintro e w6 ⟨A6, n6, c6, f6, rfl, hn6, hk6⟩))
            all_goals
              have HF : Hid (Num w6 A6 n6 c6 f6 (dv (bt s) (i + 1)) ∧ Below w.heap.size w w6) := Lib.hid ⟨by rw [HV.out]; exact hn6.1, HB.out.trans (Below.mono hk6 HB.out.size)⟩
              have hn7 : n6 ≤ n' + 3 := hn6.2
              clear hn6 hk6 hn5 hk5 hd5 HT HS t1 t2
              go_wp2
              go_roundw
              case rel => exact ⟨i + 1, A6, n6, c6, f6, by omega, by go_num, rfl, by omega, HD, HF⟩
              case measure => simp [intOf]; omega
          · have HQ := Lib.hid (HW.out i hlt (by rw [hx]; exact hy))
            have HBB := Lib.hid hW.out.2
            clear hx
            by_cases h1 : 48 ≤ x
            · have h2 : 57 < x := by omega
              clear hy
              go_wp2
              go_ret2
              rw [HQ.out.1, HQ.out.2]
              exact ⟨_, _, _, _, rfl, num_nil _, HBB.out⟩
            · clear hy
              go_wp2
              go_ret2
              rw [HQ.out.1, HQ.out.2]
              exact ⟨_, _, _, _, rfl, num_nil _, HBB.out⟩
        · obtain rfl : i = s.size := by omega
          obtain ⟨r1, r2⟩ := HR.out hd.out
          have HR2 := Lib.hid (And.intro r1 r2)
          clear r1 r2
          go_wp2_with fail
          go_ret2
          rw [HR2.out.1, HR2.out.2]
          exact ⟨_, _, _, _, rfl, hW.out.1, hW.out.2⟩
end Go.Proofs.YtcndkhgbgjnclaaGreatDoor.nn
/- The document's answers of layer 6: two, limbs, sign, over, quot; numbers in memory that need not be trimmed. -/
namespace Go.Proofs.YtcndkhgbgjnclaaGreatDoor.nn
open Go.RowKit

/-- the value v is a number in memory, perhaps with zero limbs at its end; at most m limbs -/
def U (w : World) (v : Value) (X m : Nat) : Prop := ∃ A n c f, v = .slice A n c ∧ n ≤ c ∧ c ≤ maxLen ∧ Rd w .u32 A n f ∧ Lt (2 ^ 32) f n ∧ sm (2 ^ 32) f n = X ∧ n ≤ m
section
variable {w w' : World} {v u : Value} {X Y m m' : Nat}
theorem U.below (h : U w v X m) (hb : Below w.heap.size w w') : U w' v X m := by
  obtain ⟨A, n, c, f, rfl, h1, h2, h3, h4, h5, h6⟩ := h
  exact ⟨A, n, c, f, rfl, h1, h2, h3.below hb, h4, h5, h6⟩
theorem U.drewN (h : U w v X m) (j : Nat) : U (w.drewN j) v X m := by
  obtain ⟨A, n, c, f, rfl, h1, h2, h3, h4, h5, h6⟩ := h
  exact ⟨A, n, c, f, rfl, h1, h2, h3.drewN j, h4, h5, h6⟩
theorem U.alloc (h : U w v X m) (o : Obj) : U (w.alloc o) v X m := by
  obtain ⟨A, n, c, f, rfl, h1, h2, h3, h4, h5, h6⟩ := h
  exact ⟨A, n, c, f, rfl, h1, h2, h3.alloc o, h4, h5, h6⟩
theorem U.wide (h : U w v X m) (hm : m ≤ m') : U w v X m' := by
  obtain ⟨A, n, c, f, rfl, h1, h2, h3, h4, h5, h6⟩ := h
  exact ⟨A, n, c, f, rfl, h1, h2, h3, h4, h5, Nat.le_trans h6 hm⟩
theorem U.of (h : N w v X) (hX : X < 2 ^ (32 * m)) : U w v X m := by
  obtain ⟨A, n, c, f, rfl, h1⟩ := h
  refine ⟨A, n, c, f, rfl, h1.le, h1.cap, h1.rd, h1.lt, h1.val, ?_⟩
  rcases Nat.lt_or_ge m n with h2 | h2
  · obtain ⟨j, rfl⟩ : ∃ j, n = j + 1 := ⟨n - 1, by omega⟩
    rcases h1.trm with h3 | h3
    · omega
    · have h4 := sm_ge (B := 2 ^ 32) (f := f) (n := j) (by simpa using h3)
      rw [h1.val, ← Nat.pow_mul] at h4
      have h5 : 2 ^ (32 * m) ≤ 2 ^ (32 * j) := Nat.pow_le_pow_right (by decide) (by omega)
      omega
  · exact h2
end
/-- a number is answered, of at most m limbs -/
def UA (w : World) (R m : Nat) (e : Ending) (w' : World) : Prop := ∃ v, e = .returned v ∧ N w' v R ∧ U w' v R m ∧ Below w.heap.size w w'

theorem rtimes_u (v u : Value) (X Y m m' : Nat) (w : World) (h : U w v X m) (hu : U w u Y m') (hm : m ≤ 10000) (hm' : m' ≤ 10000) :
    Calls Tryz.prog 59 #[v, u] w (UA w (X * Y) (m + m' + 1)) := by
  obtain ⟨A, n, c, f, rfl, h1, h2, h3, h4, h5, h6⟩ := h
  obtain ⟨B, k, d, g, rfl, g1, g2, g3, g4, g5, g6⟩ := hu
  refine (times_any A B n k c d f g w h3 g3 h4 g4 (by omega) (by omega)).mono ?_
  rintro e w' ⟨A1, n1, c1, f1, rfl, hN, hn, hb⟩
  rw [h5, g5] at hN
  exact ⟨_, rfl, ⟨A1, n1, c1, f1, rfl, hN⟩, ⟨A1, n1, c1, f1, rfl, hN.le, hN.cap, hN.rd, hN.lt, hN.val, by omega⟩, hb⟩
theorem rcmp_u (v u : Value) (X Y m m' : Nat) (w : World) (h : U w v X m) (hu : U w u Y m') (hm : m ≤ 100000) (hm' : m' ≤ 100000) :
    Calls Tryz.prog 63 #[v, u] w fun e w' => e = .returned (.int .i64 (cm X Y)) ∧ Below w.heap.size w w' := by
  obtain ⟨A, n, c, f, rfl, h1, h2, h3, h4, h5, h6⟩ := h
  obtain ⟨B, k, d, g, rfl, g1, g2, g3, g4, g5, g6⟩ := hu
  have := rcmp_any A B n k c d f g w h3 g3 h4 g4 h1 g1 (by omega) (by omega)
  rw [h5, g5] at this
  exact this
theorem rbits_u (v : Value) (X m : Nat) (w : World) (h : U w v X m) (hm : m ≤ 100000) :
    Calls Tryz.prog 61 #[v] w fun e w' => e = .returned (.int .i64 (bl X : Int)) ∧ Below w.heap.size w w' := by
  obtain ⟨A, n, c, f, rfl, h1, h2, h3, h4, h5, h6⟩ := h
  have := rbits_any A n c f w h3 h4 h1 (by omega)
  rw [h5] at this
  exact this
/-- less of two that fit -/
theorem rsub_u (v u : Value) (X Y m m' : Nat) (w : World) (h : U w v X m) (hu : U w u Y m') (hm : m ≤ 4096) (hm' : m' ≤ 4096) (hle : Y ≤ X) :
    Calls Tryz.prog 103 #[v, u] w fun e w' => ∃ t, e = .returned (.tuple #[t, .int .i64 0]) ∧ N w' t (X - Y) ∧ Below w.heap.size w w' := by
  obtain ⟨A, n, c, f, rfl, h1, h2, h3, h4, h5, h6⟩ := h
  obtain ⟨B, k, d, g, rfl, g1, g2, g3, g4, g5, g6⟩ := hu
  have t1 := tr_le f n
  have t2 := tr_le g k
  have htl : tl2 n k f g = false := by unfold tl2; simp only [Bool.or_eq_false_iff, decide_eq_false_iff_not]; omega
  have e1 : subR n k f g = X - Y := by unfold subR; rw [htl, if_neg Bool.false_ne_true, h5, g5, if_neg (by omega)]
  have e2 : subE n k f g = 0 := by unfold subE; rw [htl, if_neg Bool.false_ne_true, h5, g5, if_neg (by omega)]
  have hc := rsub_all A B n k c d f g w h3 g3 h4 g4 h1 g1 h2 g2 (by omega) (by omega)
  rw [e1, e2] at hc
  refine hc.mono ?_
  rintro e w' ⟨A1, n1, c1, f1, rfl, hN, hb⟩
  exact ⟨_, rfl, ⟨A1, n1, c1, f1, rfl, hN⟩, hb⟩
end Go.Proofs.YtcndkhgbgjnclaaGreatDoor.nn
/- The document's answers of layer 6: two, sign, over, quot, Power. -/
namespace Go.Proofs.YtcndkhgbgjnclaaGreatDoor.nn
open Go.RowKit

set_option maxRecDepth 100000 in
set_option maxHeartbeats 1000000 in
theorem two_any (n : Nat) (w : World) (hn : n ≤ 100000) :
    Calls Tryz.prog 60 #[.int .i64 (n : Int)] w fun e w' => ∃ v, e = .returned v ∧ U w' v (2 ^ n) (n / 32 + 1) ∧ Below w.heap.size w w' := by
  obtain ⟨i0, hi, hz0, hz1, hz2⟩ := info_parts info_u32
  obtain ⟨m, hm⟩ : ∃ m, n / 32 = m := ⟨_, rfl⟩
  obtain ⟨t, ht⟩ : ∃ t, n % 32 = t := ⟨_, rfl⟩
  have hmt : n = 32 * m + t := by omega
  have ht32 : t < 32 := by omega
  have hm4 : m ≤ 4000 := by omega
  have e1 : (n : Int) / 32 = (m : Int) := by omega
  have e2 : (n : Int) % 32 = (t : Int) := by omega
  have HP : Hid (2 ^ n = 2 ^ t * (2 ^ 32) ^ m) := Lib.hid (by rw [← Nat.pow_mul, ← Nat.pow_add, hmt, Nat.add_comm])
  have hpt : 2 ^ t < 4294967296 := by
    have : 2 ^ t < 2 ^ 32 := (Nat.pow_lt_pow_iff_right (by decide)).2 ht32
    omega
  obtain ⟨P, hP⟩ : ∃ P, 2 ^ t = P := ⟨_, rfl⟩
  rw [hP] at HP hpt
  have hv : (2 : Int) ^ t % 4294967296 = (P : Int) := by
    have : (2 : Int) ^ t = (P : Int) := by rw [← hP]; push_cast; rfl
    rw [this]
    omega
  rw [hm]
  clear hm ht hmt hP
  go_enter Tryz.func60, Tryz.ntmps60
  go_wp2_with (refine wpList_make_full _ rfl _ _ 52 rfl w.heap.size 100 i0 _ 1 Tryz.underlying52 hi hz0 hz1 .i64 .i64 _ _ (m + 1) rfl rfl (by omega) (by omega) (by rw [hz2]; omega) (by unfold maxLen; omega) (by omega) ?_; intro w1 hown1 hg1; rw [made_vl] at hown1; obtain ⟨cur, hbk, hint, _, _, _, hcs, _⟩ := own_wrote hown1; have hc := (Bk.cell hbk m).trans (show cur[m]? = some (.int .u32 ((0 : Nat) : Int)) from by have := hint m (by omega); rw [Nat.zero_add] at this; exact this); have hf := Bk.frozen hbk m; have HK := Lib.hid (And.intro hbk (And.intro hint hg1)); clear hown1 hbk hint hg1)
  go_ret
  obtain ⟨hbk, hint, hg1⟩ := HK.out
  have hin2 := hint.set_ m P (by omega)
  rw [Nat.zero_add] at hin2
  have hlt : Lt (2 ^ 32) (upd (fun _ => 0) m P) (m + 1) := Lt.upd (fun _ _ => Nat.two_pow_pos 32) (by omega)
  have hsm := sm_upd (2 ^ 32) (fun _ => 0) (n := m + 1) (k := m) P (by omega)
  have hz : ∀ k, sm (2 ^ 32) (fun _ => 0) k = 0 := fun k => by
    induction k with
    | zero => rfl
    | succ k ih => rw [sm, ih, Nat.zero_mul]
  rw [hz, Nat.zero_mul, Nat.zero_add, Nat.add_zero] at hsm
  have hb1 : Below w.heap.size w w1 := (Below.refl _ _).grown (row := none) hg1 (Nat.le_refl _) (fun k hk => by cases hk)
  exact ⟨_, rfl, ⟨_, m + 1, m + 1, _, rfl, Nat.le_refl _, by unfold maxLen; omega, hin2.rd (hbk.set_ m _), hlt, by rw [hsm, HP.out], Nat.le_refl _⟩, hb1.setCell (Nat.le_refl _) _⟩
end Go.Proofs.YtcndkhgbgjnclaaGreatDoor.nn
/- The document's answers of layer 6: quot, over, Power, sign. -/
namespace Go.Proofs.YtcndkhgbgjnclaaGreatDoor.nn
open Go.RowKit

theorem half_step {X D : Nat} (h : 0 < D) : (D ≤ X % (D * 2) → X / D = 2 * (X / (D * 2)) + 1 ∧ X % D = X % (D * 2) - D) ∧ (X % (D * 2) < D → X / D = 2 * (X / (D * 2)) ∧ X % D = X % (D * 2)) := by
  have hm := Nat.div_add_mod X (D * 2)
  have hl := Nat.mod_lt X (show 0 < D * 2 by omega)
  obtain ⟨A, hA⟩ : ∃ A, X / (D * 2) = A := ⟨_, rfl⟩
  obtain ⟨r, hr⟩ : ∃ r, X % (D * 2) = r := ⟨_, rfl⟩
  rw [hA, hr] at hm
  rw [hr] at hl
  rw [hA, hr]
  constructor
  · intro hge
    refine (Nat.div_mod_unique h).2 ⟨?_, by omega⟩
    rw [← hm, Nat.mul_add, Nat.mul_one, Nat.mul_assoc]
    omega
  · intro hlt
    refine (Nat.div_mod_unique h).2 ⟨?_, hlt⟩
    rw [← hm, Nat.mul_assoc]
    omega
theorem U.lt {w : World} {v : Value} {X m : Nat} (h : U w v X m) : X < 2 ^ (32 * m) := by
  obtain ⟨A, n, c, f, rfl, h1, h2, h3, h4, h5, h6⟩ := h
  have := sm_lt h4
  rw [h5, ← Nat.pow_mul] at this
  exact Nat.lt_of_lt_of_le this (Nat.pow_le_pow_right (by decide) (by omega))
def QuAns (X Y m : Nat) (w : World) (e : Ending) (w' : World) : Prop := ∃ v, e = .returned (.tuple #[.int .u64 ((X / Y : Nat) : Int), v]) ∧ U w' v (X % Y) m ∧ Below w.heap.size w w'
def TwAns (n : Nat) (w : World) (e : Ending) (w' : World) : Prop := ∃ v, e = .returned v ∧ U w' v (2 ^ n) (n / 32 + 1) ∧ Below w.heap.size w w'

set_option maxRecDepth 100000 in
set_option maxHeartbeats 2000000 in
theorem quot_any (v u : Value) (X Y m m' : Nat) (w : World) (hv : U w v X m) (hu : U w u Y m') (hm : m ≤ 3000) (hm' : m' ≤ 3000) (h0 : 0 < Y) (hX : X < Y * 2 ^ 63) :
    Calls Tryz.prog 64 #[v, u] w (QuAns X Y m w) := by
  have HTW := Lib.hid (fun n W (hn : n ≤ 100000) => (two_any n W hn : Calls _ _ _ _ (TwAns n W)))
  have HTM := Lib.hid (fun u2 n W (h : Below w.heap.size w W) (h2 : U W u2 (2 ^ n) (n / 32 + 1)) (hn : n ≤ 62) => rtimes_u u u2 Y (2 ^ n) m' (n / 32 + 1) W (hu.below h) h2 (by omega) (by omega))
  have HL := Lib.hid hv.lt
  have HR : Hid (U w v (X % (Y * 2 ^ 63)) m) := Lib.hid (by rw [Nat.mod_eq_of_lt hX]; exact hv)
  have e0 : X / (Y * 2 ^ 63) = 0 := Nat.div_eq_of_lt hX
  have HX := Lib.hid (And.intro h0 (show X / Y < 2 ^ 63 by rw [Nat.div_lt_iff_lt_mul h0, Nat.mul_comm]; exact hX))
  have HB := Lib.hid (Below.refl w.heap.size w)
  have HE0 := Lib.hid e0
  clear hv hu hX h0 e0
  go_enter Tryz.func64, Tryz.ntmps64
  go_wp2_with fail
  go_loopw [0, 6, 7] (fun s0 s6 s7 wr => ∃ j : Nat, j ≤ 63 ∧ s7 = .int .i64 ((j : Int) - 1) ∧ s6 = .int .u64 ((X / (Y * 2 ^ j) : Nat) : Int) ∧ Hid (U wr s0 (X % (Y * 2 ^ j)) m ∧ Below w.heap.size w wr)) (fun _ _ s7 _ => (intOf s7 + 1).toNat)
  case atStart => exact ⟨63, by omega, rfl, by rw [HE0.out]; rfl, Lib.hid ⟨HR.out, HB.out⟩⟩
  case round =>
    obtain ⟨j, hj, rfl, rfl, hH⟩ := hrel
    rename_i s0
    by_cases hj0 : j = 0
    · subst hj0
      have hU := hH.out.1
      rw [Nat.pow_zero, Nat.mul_one] at hU
      have HU := Lib.hid hU
      clear hU
      rw [Nat.pow_zero, Nat.mul_one, show (((0 : Nat) : Int) - 1) = -1 by decide]
      go_wp2_with fail
      go_ret2
      exact ⟨_, rfl, HU.out, hH.out.2⟩
    · obtain ⟨i, rfl⟩ : ∃ i, j = i + 1 := ⟨j - 1, by omega⟩
      have e1 : (((i + 1 : Nat) : Int) - 1) = (i : Int) := by omega
      have e2 : Y * 2 ^ (i + 1) = Y * 2 ^ i * 2 := by rw [Nat.pow_succ, Nat.mul_assoc]
      obtain ⟨D, hD⟩ : ∃ D, Y * 2 ^ i = D := ⟨_, rfl⟩
      have hD0 : 0 < D := by rw [← hD]; exact Nat.mul_pos HX.out.1 (Nat.two_pow_pos i)
      obtain ⟨st1, st2⟩ := half_step (X := X) hD0
      have hYD : Y ≤ D := by rw [← hD]; exact Nat.le_mul_of_pos_right _ (Nat.two_pow_pos i)
      have hq : X / D < 2 ^ 63 := Nat.lt_of_le_of_lt (Nat.div_le_div_left hYD HX.out.1) HX.out.2
      rw [show (2 : Nat) ^ 63 = 9223372036854775808 by decide] at hq
      have hU0 := hH.out.1
      have hB0 := Lib.hid hH.out.2
      rw [e1, e2, hD]
      rw [e2, hD] at hU0
      have hlt2 : X % (D * 2) < 2 ^ (32 * m) := Nat.lt_of_le_of_lt (Nat.mod_le _ _) HL.out
      have HDD := Lib.hid hD
      obtain ⟨q, hqq⟩ : ∃ q, X / (D * 2) = q := ⟨_, rfl⟩
      obtain ⟨r, hrr⟩ : ∃ r, X % (D * 2) = r := ⟨_, rfl⟩
      rw [hqq, hrr] at st1 st2
      rw [hrr] at hU0 hlt2
      rw [hqq]
      have HU0 := Lib.hid hU0
      have hi62 : i ≤ 62 := by omega
      by_cases hge : D ≤ r
      · obtain ⟨s1, s2⟩ := st1 hge
        have hq2 : 2 * q + 1 < 9223372036854775808 := by omega
        have HS := Lib.hid (And.intro s1 s2)
        have hc : 0 ≤ cm r D := by unfold cm; split <;> (try split) <;> omega
        obtain ⟨c, hcc⟩ : ∃ c, cm r D = c := ⟨_, rfl⟩
        have HC := Lib.hid hcc
        rw [hcc] at hc
        clear st1 st2 s1 s2 hU0 e1 e2 hD hqq hrr hcc hq hH
        go_wp2_with fail
        refine (HTW.out i _ (by omega)).mono ?_
        rintro e w1 ⟨t1, rfl, hU1, hb1⟩
        have B1 := Lib.hid (hB0.out.trans (hb1.mono hB0.out.size))
        have U1 := Lib.hid (And.intro (HU0.out.below hb1) hU1)
        clear hb1 hU1
        go_wp2_with fail
        refine (HTM.out _ i _ B1.out U1.out.2 hi62).mono ?_
        rintro e w2 ⟨t2, rfl, hN2, hU2, hb2⟩
        have B2 := Lib.hid (B1.out.trans (hb2.mono B1.out.size))
        rw [HDD.out] at hU2
        have U2 := Lib.hid (And.intro (U1.out.1.below hb2) hU2)
        clear hb2 hU2 hN2
        go_wp2_with fail
        refine (rcmp_u _ _ r D m _ _ U2.out.1 U2.out.2 (by omega) (by omega)).mono ?_
        rw [HC.out]
        rintro e w3 ⟨rfl, hb3⟩
        have B3 := Lib.hid (B2.out.trans (hb3.mono B2.out.size))
        have U3 := Lib.hid (And.intro (U2.out.1.below hb3) (U2.out.2.below hb3))
        clear hb3
        go_wp2_with fail
        refine (rsub_u _ _ r D m _ _ U3.out.1 U3.out.2 (by omega) (by omega) hge).mono ?_
        rintro e w4 ⟨t4, rfl, hN4, hb4⟩
        have B4 := Lib.hid (B3.out.trans (hb4.mono B3.out.size))
        have U4 := Lib.hid (U.of (m := m) hN4 (by omega))
        clear hb4 hN4
        go_wp2_with fail
        go_roundw
        case rel => exact ⟨i, by omega, rfl, by rw [HDD.out, HS.out.1]; rfl, Lib.hid ⟨by rw [HDD.out, HS.out.2]; exact U4.out, B4.out⟩⟩
        case measure => simp [intOf]
      · obtain ⟨s1, s2⟩ := st2 (by omega)
        have hq2 : 2 * q + 1 < 9223372036854775809 := by omega
        have HS := Lib.hid (And.intro s1 s2)
        have HC := Lib.hid (cm_lt (show r < D by omega))
        clear st1 st2 s1 s2 hU0 e1 e2 hD hqq hrr hq hH
        go_wp2_with fail
        refine (HTW.out i _ (by omega)).mono ?_
        rintro e w1 ⟨t1, rfl, hU1, hb1⟩
        have B1 := Lib.hid (hB0.out.trans (hb1.mono hB0.out.size))
        have U1 := Lib.hid (And.intro (HU0.out.below hb1) hU1)
        clear hb1 hU1
        go_wp2_with fail
        refine (HTM.out _ i _ B1.out U1.out.2 hi62).mono ?_
        rintro e w2 ⟨t2, rfl, hN2, hU2, hb2⟩
        have B2 := Lib.hid (B1.out.trans (hb2.mono B1.out.size))
        rw [HDD.out] at hU2
        have U2 := Lib.hid (And.intro (U1.out.1.below hb2) hU2)
        clear hb2 hU2 hN2
        go_wp2_with fail
        refine (rcmp_u _ _ r D m _ _ U2.out.1 U2.out.2 (by omega) (by omega)).mono ?_
        rw [HC.out]
        rintro e w3 ⟨rfl, hb3⟩
        have B3 := Lib.hid (B2.out.trans (hb3.mono B2.out.size))
        have U3 := Lib.hid (U2.out.1.below hb3)
        clear hb3
        go_wp2_with fail
        go_roundw
        case rel => exact ⟨i, by omega, rfl, by rw [HDD.out, HS.out.1]; rfl, Lib.hid ⟨by rw [HDD.out, HS.out.2]; exact U3.out, B3.out⟩⟩
        case measure => simp [intOf]
end Go.Proofs.YtcndkhgbgjnclaaGreatDoor.nn
