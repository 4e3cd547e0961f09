/- What holds while limbs are added in place, at any base. No program is named here. -/
import Derived.Test.YtnikoojgoiobjaaDoorWrite
namespace Go.Proofs.YtnikoojgoiobjaaDoor.nn
open Go.RowKit

/-- what holds when the first i limbs are added (m of h's), with the carry k -/
def AddRel (K : IntKind) (Bs : Nat) (w wr : World) (g : Nat) (e : TypeId) (cur : Array Value) (off n : Nat) (f h f' : Nat → Nat) (cur' : Array Value) (k i m : Nat) : Prop :=
  Wrote w wr g e cur cur' off n ∧ Ints cur' K off n f' ∧ Lt Bs f' n ∧ (∀ j, i ≤ j → j < n → f' j = f j) ∧
    sm Bs f' i + k * Bs ^ i = sm Bs f i + sm Bs h m

section
variable {K : IntKind} {Bs : Nat} {w wr : World} {g : Nat} {e : TypeId} {cur : Array Value} {off n : Nat} {f h f' : Nat → Nat} {cur' : Array Value} {k i m : Nat}

theorem carry_eq {a b c v k' Bs P : Nat} (hk : a + b + c = v + k' * Bs) : a * P + b * P + c * P = v * P + k' * (P * Bs) := by
  have e2 := congrArg (· * P) hk
  simp only [Nat.add_mul] at e2
  rw [Nat.mul_comm P Bs, ← Nat.mul_assoc]
  exact e2

theorem AddRel.step (H : AddRel K Bs w wr g e cur off n f h f' cur' k i i) (hi : i < n) (k' v : Nat) (hk : f' i + h i + k = v + k' * Bs) (hv : v < Bs) {z : Int} (hz : z = (v : Int)) :
    AddRel K Bs w (wr.setCell ⟨g, off + i, none⟩ (.int K z)) g e cur off n f h (upd f' i v) (cur'.setIfInBounds (off + i) (.int K (v : Int))) k' (i + 1) (i + 1) := by
  obtain ⟨h1, h2, h3, h4, h5⟩ := H
  rw [hz]
  refine ⟨h1.set_ i hi _, h2.set_ i _ hi, h3.upd hv, fun j ha hb => ?_, ?_⟩
  · rw [upd_ne f' (by omega)]; exact h4 j (by omega) hb
  · rw [sm_snoc, sm, sm, ← h4 i (Nat.le_refl _) hi, Nat.pow_succ]
    have := carry_eq (P := Bs ^ i) hk
    omega

/-- one more limb, of the greater number alone -/
theorem AddRel.more (H : AddRel K Bs w wr g e cur off n f h f' cur' k i m) (hi : i < n) (k' v : Nat) (hk : f' i + k = v + k' * Bs) (hv : v < Bs) {z : Int} (hz : z = (v : Int)) :
    AddRel K Bs w (wr.setCell ⟨g, off + i, none⟩ (.int K z)) g e cur off n f h (upd f' i v) (cur'.setIfInBounds (off + i) (.int K (v : Int))) k' (i + 1) m := by
  obtain ⟨h1, h2, h3, h4, h5⟩ := H
  rw [hz]
  refine ⟨h1.set_ i hi _, h2.set_ i _ hi, h3.upd hv, fun j ha hb => ?_, ?_⟩
  · rw [upd_ne f' (by omega)]; exact h4 j (by omega) hb
  · rw [sm_snoc, sm, ← h4 i (Nat.le_refl _) hi, Nat.pow_succ]
    have := carry_eq (a := f' i) (b := 0) (P := Bs ^ i) (by simpa using hk)
    omega

/-- the end: the limbs f' are the sum, but for the carry k -/
def AddEnd (K : IntKind) (Bs : Nat) (w w' : World) (g : Nat) (e : TypeId) (cur : Array Value) (off n : Nat) (f : Nat → Nat) (S k : Nat) : Prop :=
  ∃ (f' : Nat → Nat) (cur' : Array Value), Wrote w w' g e cur cur' off n ∧ Ints cur' K off n f' ∧ Lt Bs f' n ∧ sm Bs f' n + k * Bs ^ n = sm Bs f n + S

/-- where no carry is left the rest is as it was -/
theorem AddRel.done (H : AddRel K Bs w wr g e cur off n f h f' cur' k i m) (hi : i ≤ n) (he : i = n ∨ k = 0) : AddEnd K Bs w wr g e cur off n f (sm Bs h m) k := by
  obtain ⟨h1, h2, h3, h4, h5⟩ := H
  refine ⟨f', cur', h1, h2, h3, ?_⟩
  rcases he with rfl | rfl
  · exact h5
  · obtain ⟨j, rfl⟩ : ∃ j, n = i + j := ⟨n - i, by omega⟩
    rw [sm_split, sm_split Bs f, sm_congr Bs (f := fun t => f' (i + t)) (g := fun t => f (i + t)) (fun t ht => h4 (i + t) (by omega) (by omega))]
    simp only [Nat.zero_mul] at h5 ⊢
    omega
end
end Go.Proofs.YtnikoojgoiobjaaDoor.nn
