/- The walk of addTimes: in place it adds a limb times a number. -/
import Derived.Test.YtnikoojgoiobjaaDoorShelf
import Derived.Test.YtnikoojgoiobjaaDoorAddRel
import Derived.Test.YtnikoojgoiobjaaDoorProg
import Derived.Laws.Externs
import Derived.WalkKit
import Derived.Lib.Hide
namespace Go.Proofs.YtnikoojgoiobjaaDoor.nn
open Go.RowKit

/-- the base of wide limbs -/
def W64 : Nat := 18446744073709551616

theorem run_add64_at (x y : Nat) (w : World) : (callFunc 45 #[.int .u64 x, .int .u64 y, .int .u64 0]).run Tryd.prog w =
    .ok (.value (.tuple #[.int .u64 (((x + y) % W64 : Nat) : Int), .int .u64 (((x + y) / W64 : Nat) : Int)])) w := by
  rw [run_callFunc_extern Tryd.func45 (by kernel_rfl) (by kernel_rfl) (by kernel_rfl) (e := add64Entry) (by kernel_rfl), run_add64 x y 0 (by omega) (by omega) (by omega) (by omega)]
  simp only [Result.andThen, W64]
  congr 5 <;> omega

/-- what holds when i limbs are done, with the carry k -/
def MulRel (w wr : World) (g : Nat) (e : TypeId) (cur : Array Value) (off n : Nat) (f h : Nat → Nat) (F : Nat) (f' : Nat → Nat) (cur' : Array Value) (k i : Nat) : Prop :=
  Wrote w wr g e cur cur' off n ∧ Ints cur' .u64 off n f' ∧ Lt W64 f' n ∧ (∀ j, i ≤ j → j < n → f' j = f j) ∧ sm W64 f' i + k * W64 ^ i = sm W64 f i + F * sm W64 h i

theorem MulRel.step {w wr : World} {g : Nat} {e : TypeId} {cur : Array Value} {off n : Nat} {f h : Nat → Nat} {F : Nat} {f' : Nat → Nat} {cur' : Array Value} {k i : Nat} (H : MulRel w wr g e cur off n f h F f' cur' k i) (hi : i < n) (k' v : Nat)
    (hk : f' i + h i * F + k = v + k' * W64) (hv : v < W64) :
    MulRel w (wr.setCell ⟨g, off + i, none⟩ (.int .u64 (v : Int))) g e cur off n f h F (upd f' i v) (cur'.setIfInBounds (off + i) (.int .u64 (v : Int))) k' (i + 1) := by
  obtain ⟨h1, h2, h3, h4, h5⟩ := H
  refine ⟨h1.set_ i hi _, h2.set_ i _ hi, h3.upd hv, fun j ha hb => ?_, ?_⟩
  · rw [upd_ne f' (by omega)]; exact h4 j (by omega) hb
  · have e1 : sm W64 f (i + 1) = sm W64 f i + f i * W64 ^ i := rfl
    have e2 : sm W64 h (i + 1) = sm W64 h i + h i * W64 ^ i := rfl
    rw [sm_snoc, e1, e2, ← h4 i (Nat.le_refl _) hi, Nat.pow_succ W64 i, Nat.mul_add]
    have := carry_eq (P := W64 ^ i) hk
    have e3 : F * (h i * W64 ^ i) = h i * F * W64 ^ i := by rw [← Nat.mul_assoc, Nat.mul_comm F]
    rw [e3]
    omega

/-- the words of one round -/
theorem round_words {a x F k : Nat} (ha : a < W64) (hx : x < W64) (hF : F < W64) (hk : k < W64) :
    x * F / W64 + (x * F % W64 + k) / W64 < W64 ∧ x * F / W64 + (x * F % W64 + k) / W64 + (a + (x * F % W64 + k) % W64) / W64 < W64 ∧
      a + x * F + k = (a + (x * F % W64 + k) % W64) % W64 + (x * F / W64 + (x * F % W64 + k) / W64 + (a + (x * F % W64 + k) % W64) / W64) * W64 := by
  have hm : x * F ≤ (W64 - 1) * (W64 - 1) := Nat.mul_le_mul (by omega) (by omega)
  have hc : (W64 - 1) * (W64 - 1) + 2 * (W64 - 1) = W64 * W64 - 1 := by decide
  have h1 := Nat.div_add_mod (x * F) W64
  have h2 := Nat.div_add_mod (x * F % W64 + k) W64
  have h3 := Nat.div_add_mod (a + (x * F % W64 + k) % W64) W64
  generalize x * F = p at *
  generalize p / W64 = u at *
  generalize p % W64 = v at *
  generalize (v + k) / W64 = u1 at *
  generalize (v + k) % W64 = v1 at *
  generalize (a + v1) / W64 = u2 at *
  generalize (a + v1) % W64 = v2 at *
  simp only [W64] at *
  omega
end Go.Proofs.YtnikoojgoiobjaaDoor.nn
