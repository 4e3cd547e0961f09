/- The walk of math/bits.Sub32: difference and borrow. -/
import Derived.Test.YtnikoojgoiobjaaDoorProg
import Derived.WalkKit
import Derived.Lib.Hide
import Derived.Laws.BitsAllLaws
import Derived.Laws.BitsLemmas
import Derived.Test.YtnikoojgoiobjaaDoorNum
namespace Go.Proofs.YtnikoojgoiobjaaDoor.nn
open Go.RowKit

/-- difference and borrow -/
def sd (x y b : Nat) : Nat := (x + 4294967296 - y - b) % 4294967296
def sb (x y b : Nat) : Nat := if x < y + b then 1 else 0

theorem top_bit {n : Nat} (h : n < 4294967296) : n / 2147483648 = (n.testBit 31).toNat := by
  rw [Nat.testBit_eq_decide_div_mod_eq]
  have e : (2 : Nat) ^ 31 = 2147483648 := by decide
  rw [e]
  by_cases h1 : n / 2147483648 % 2 = 1
  · simp [h1]; omega
  · simp [h1]; omega

theorem sub32_nat (x y b : Nat) (hx : x < 4294967296) (hy : y < 4294967296) (hb : b ≤ 1) :
    (((4294967295 ^^^ x) &&& y) ||| ((4294967295 ^^^ (x ^^^ y)) &&& sd x y b)) / 2147483648 = sb x y b := by
  have hd : sd x y b < 4294967296 := Nat.mod_lt _ (by decide)
  have l1 : (4294967295 ^^^ x) &&& y < 2 ^ 32 := Nat.and_lt_two_pow _ (by omega)
  have l2 : (4294967295 ^^^ (x ^^^ y)) &&& sd x y b < 2 ^ 32 := Nat.and_lt_two_pow _ (by omega)
  have l3 := Nat.or_lt_two_pow l1 l2
  rw [top_bit (by omega)]
  simp only [Nat.testBit_or, Nat.testBit_and, Nat.testBit_xor]
  have t0 : Nat.testBit 4294967295 31 = true := by decide
  rw [t0]
  have e : (2 : Nat) ^ 31 = 2147483648 := by decide
  have tx : x.testBit 31 = decide (2147483648 ≤ x) := by
    rw [Nat.testBit_eq_decide_div_mod_eq, e]; congr 1; apply propext; omega
  have ty : y.testBit 31 = decide (2147483648 ≤ y) := by
    rw [Nat.testBit_eq_decide_div_mod_eq, e]; congr 1; apply propext; omega
  have td : (sd x y b).testBit 31 = decide (2147483648 ≤ sd x y b) := by
    rw [Nat.testBit_eq_decide_div_mod_eq, e]; congr 1; apply propext; omega
  rw [tx, ty, td]
  have hs : sd x y b = if x < y + b then x + 4294967296 - y - b else x - y - b := by
    unfold sd; split <;> omega
  have hq : sb x y b = if x < y + b then 1 else 0 := rfl
  rw [hq]
  rw [hs]
  by_cases h1 : x < y + b
  · simp only [if_pos h1]
    by_cases h2 : 2147483648 ≤ x <;> by_cases h3 : 2147483648 ≤ y <;> by_cases h4 : 2147483648 ≤ x + 4294967296 - y - b <;> simp [h2, h3, h4] <;> omega
  · simp only [if_neg h1]
    by_cases h2 : 2147483648 ≤ x <;> by_cases h3 : 2147483648 ≤ y <;> by_cases h4 : 2147483648 ≤ x - y - b <;> simp [h2, h3, h4] <;> omega

theorem sub32_bits (x y b : Nat) (hx : x < 4294967296) (hy : y < 4294967296) (hb : b ≤ 1) :
    bits .or .u32 (bits .and .u32 (bits .xor .u32 IntKind.u32.max (x : Int)) (y : Int)) (bits .and .u32 (bits .xor .u32 IntKind.u32.max (bits .xor .u32 (x : Int) (y : Int))) (((x : Int) - (y : Int) - (b : Int)) % 4294967296)) / 2147483648 = ((sb x y b : Nat) : Int) := by
  have hm : IntKind.u32.max = ((4294967295 : Nat) : Int) := rfl
  have hd : ((x : Int) - (y : Int) - (b : Int)) % 4294967296 = ((sd x y b : Nat) : Int) := by unfold sd; omega
  have hd' : sd x y b < 4294967296 := Nat.mod_lt _ (by decide)
  have x1 : 4294967295 ^^^ x < 2 ^ 32 := Nat.xor_lt_two_pow (by decide) (by omega)
  have x2 : x ^^^ y < 2 ^ 32 := Nat.xor_lt_two_pow (by omega) (by omega)
  have x3 : 4294967295 ^^^ (x ^^^ y) < 2 ^ 32 := Nat.xor_lt_two_pow (by decide) x2
  have l1 : (4294967295 ^^^ x) &&& y < 2 ^ 32 := Nat.and_lt_two_pow _ (by omega)
  have l2 : (4294967295 ^^^ (x ^^^ y)) &&& sd x y b < 2 ^ 32 := Nat.and_lt_two_pow _ (by omega)
  rw [hm, hd, u32_xor_nat _ _ (by decide) hx, u32_xor_nat _ _ hx hy, u32_and_nat _ _ (by omega) hy, u32_xor_nat _ _ (by decide) (by omega), u32_and_nat _ _ (by omega) hd', u32_or_nat _ _ (by omega) (by omega)]
  rw [← sub32_nat x y b hx hy hb]
  rfl

set_option maxHeartbeats 400000 in
theorem sub32_any (x y b : Nat) (w : World) (hx : x < 4294967296) (hy : y < 4294967296) (hb : b ≤ 1) :
    Calls Tryd.prog 57 #[.int .u32 x, .int .u32 y, .int .u32 b] w fun e w' => e = .returned (.tuple #[.int .u32 (sd x y b : Nat), .int .u32 (sb x y b : Nat)]) ∧ w = w' := by
  have H := Lib.hid (sub32_bits x y b hx hy hb)
  have hd := Lib.hid (show ((x : Int) - (y : Int) - (b : Int)) % 4294967296 = ((sd x y b : Nat) : Int) by unfold sd; omega)
  go_enter Tryd.func57, Tryd.ntmps57
  go_wp2
  all_goals
    go_ret2
    rw [← H.out, ← hd.out]
    exact ⟨rfl, rfl⟩
end Go.Proofs.YtnikoojgoiobjaaDoor.nn
