/- Joined texts, what is wanted of them: Flt, FdA, FdB, FdC, Bits, Fb, RefParts, RefClass, RefJoin, RefExact, RefWiden, Shape, RefInt, FbNum, Shape2, Shape4, Shape5, Shape6, Shape7, Shape8, Shape9. -/
import Derived.Below
import Derived.Laws.BitsAllLaws
import Derived.RowKit
import Derived.IntWalk
import Derived.Test.YtljbnnpmnoejeaaGreatDoorProg
import Derived.WalkKit
import Derived.Lib.Hide
import Derived.Deep.QuietTactic
import Derived.BigQuiet
import Derived.Deep.RegionHeld3
import Derived.Lib.MinMax
import Derived.Great.Walk
import Derived.KernelRfl
import Derived.Deep.WholeRow
import Derived.Deep.CutBlock
import Derived.Test.YtljbnnpmnoejeaaGreatDoorShelf
import Derived.Test.YtljbnnpmnoejeaaGreatDoorJb
import Derived.Test.YtljbnnpmnoejeaaGreatDoorJa
namespace Go.Proofs.YtljbnnpmnoejeaaGreatDoor.nn

def h52 : Nat := 4503599627370496
/-- the least unit's exponent, below 0 -/
def e74 : Nat := 1074
theorem e74_eq : e74 = 1074 := rfl
theorem h52_eq : (2 : Nat) ^ 52 = h52 := by decide
/-- what the bits b (without a sign) say, in least units; beyond the greatest it goes on -/
def vf (b : Nat) : Nat := if b / h52 = 0 then b else (h52 + b % h52) * 2 ^ (b / h52 - 1)

theorem vf_at {k c : Nat} (hc : c ≤ 2 * h52) (hk : k = 0 ∨ h52 ≤ c) : vf (k * h52 + c) = c * 2 ^ k := by
  have h0 : 0 < h52 := by decide
  unfold vf
  by_cases h1 : c < h52
  · obtain rfl : k = 0 := by omega
    rw [Nat.zero_mul, Nat.zero_add, Nat.div_eq_of_lt h1, if_pos rfl, Nat.pow_zero, Nat.mul_one]
  · by_cases h2 : c < 2 * h52
    · obtain ⟨d, rfl⟩ : ∃ d, c = h52 + d := ⟨c - h52, by omega⟩
      have hd : d < h52 := by omega
      have e : k * h52 + (h52 + d) = d + h52 * (k + 1) := by rw [Nat.mul_add, Nat.mul_comm h52 k]; omega
      rw [e, Nat.add_mul_div_left _ _ h0, Nat.div_eq_of_lt hd, Nat.add_mul_mod_self_left, Nat.mod_eq_of_lt hd, if_neg (by omega)]
      congr 2
      omega
    · obtain rfl : c = 2 * h52 := by omega
      have e : k * h52 + 2 * h52 = 0 + h52 * (k + 2) := by rw [Nat.mul_add, Nat.mul_comm h52 k]; omega
      rw [e, Nat.add_mul_div_left _ _ h0, Nat.zero_div, Nat.add_mul_mod_self_left, Nat.zero_mod, if_neg (by omega), Nat.zero_add, show k + 2 - 1 = k + 1 by omega, Nat.pow_succ, Nat.add_zero, ← Nat.mul_assoc, Nat.mul_right_comm, Nat.mul_comm h52 2]
theorem bits_form (b : Nat) : ∃ k c, b = k * h52 + c ∧ c < 2 * h52 ∧ (k = 0 ∨ h52 ≤ c) := by
  have h0 : 0 < h52 := by decide
  have h1 := Nat.div_add_mod b h52
  have h2 := Nat.mod_lt b h0
  by_cases h : b / h52 = 0
  · rw [h, Nat.mul_zero, Nat.zero_add] at h1
    rw [h1] at h2
    exact ⟨0, b, by omega, by omega, .inl rfl⟩
  · obtain ⟨k, hk⟩ := Nat.exists_eq_succ_of_ne_zero h
    refine ⟨k, h52 + b % h52, ?_, by omega, .inr (by omega)⟩
    rw [hk, Nat.succ_eq_add_one, Nat.mul_add, Nat.mul_comm h52 k] at h1
    omega
theorem vf_succ (b : Nat) : vf b < vf (b + 1) := by
  obtain ⟨k, c, rfl, hc, hk⟩ := bits_form b
  rw [Nat.add_assoc, vf_at (by omega) hk, vf_at (by omega) (by omega)]
  exact Nat.mul_lt_mul_of_pos_right (by omega) (Nat.two_pow_pos k)
theorem vf_mono {a b : Nat} (h : a ≤ b) : vf a ≤ vf b := by
  induction b with
  | zero => obtain rfl : a = 0 := by omega
            exact Nat.le_refl _
  | succ b ih =>
    by_cases e : a = b + 1
    · subst e; exact Nat.le_refl _
    · exact Nat.le_trans (ih (by omega)) (Nat.le_of_lt (vf_succ b))
theorem vf_lt {a b : Nat} (h : a < b) : vf a < vf b := Nat.lt_of_lt_of_le (vf_succ a) (vf_mono h)
theorem vf_zero : vf 0 = 0 := by decide

/-- X over Y is nearest to b -/
structure Near (X Y b : Nat) : Prop where
  lo : b = 0 ∨ (vf (b - 1) + vf b) * Y < 2 * X ∨ ((vf (b - 1) + vf b) * Y = 2 * X ∧ b % 2 = 0)
  hi : 2 * X < (vf b + vf (b + 1)) * Y ∨ (2 * X = (vf b + vf (b + 1)) * Y ∧ b % 2 = 0)

theorem near_mono {X Y X' Y' b b' : Nat} (hY : 0 < Y) (hY' : 0 < Y') (h : X * Y' ≤ X' * Y) (n : Near X Y b) (n' : Near X' Y' b') : b ≤ b' := by
  rcases Nat.lt_or_ge b' b with hlt | hge
  · exfalso
    have m1 : vf b' ≤ vf (b - 1) := vf_mono (by omega)
    have m2 : vf (b' + 1) ≤ vf b := vf_mono (by omega)
    have hPQ : vf b' + vf (b' + 1) ≤ vf (b - 1) + vf b := by omega
    have hPQ' : b' ≠ b - 1 → vf b' + vf (b' + 1) < vf (b - 1) + vf b := fun hne => by
      have := vf_lt (show b' < b - 1 by omega)
      omega
    have lo := n.lo
    have hi := n'.hi
    obtain ⟨P, hP⟩ : ∃ P, vf b' + vf (b' + 1) = P := ⟨_, rfl⟩
    obtain ⟨Q, hQ⟩ : ∃ Q, vf (b - 1) + vf b = Q := ⟨_, rfl⟩
    rw [hP, hQ] at hPQ
    rw [hP, hQ] at hPQ'
    rw [hQ] at lo
    rw [hP] at hi
    have hYY := Nat.mul_pos hY hY'
    have a1 : P * (Y * Y') ≤ Q * (Y * Y') := Nat.mul_le_mul_right _ hPQ
    have lo' : (Q * Y) * Y' < (2 * X) * Y' ∨ ((Q * Y) * Y' = (2 * X) * Y' ∧ b % 2 = 0) := by
      rcases lo with lo | lo | ⟨lo, hb⟩
      · omega
      · exact .inl (Nat.mul_lt_mul_of_pos_right lo hY')
      · exact .inr ⟨by rw [lo], hb⟩
    have hi' : (2 * X') * Y < (P * Y') * Y ∨ ((2 * X') * Y = (P * Y') * Y ∧ b' % 2 = 0) := by
      rcases hi with hi | ⟨hi, hb⟩
      · exact .inl (Nat.mul_lt_mul_of_pos_right hi hY)
      · exact .inr ⟨by rw [hi], hb⟩
    have e1 : (Q * Y) * Y' = Q * (Y * Y') := Nat.mul_assoc _ _ _
    have e2 : (P * Y') * Y = P * (Y * Y') := by rw [Nat.mul_assoc, Nat.mul_comm Y' Y]
    have e3 : (2 * X) * Y' = 2 * (X * Y') := Nat.mul_assoc _ _ _
    have e4 : (2 * X') * Y = 2 * (X' * Y) := Nat.mul_assoc _ _ _
    by_cases hb : b' = b - 1
    · omega
    · have a2 : P * (Y * Y') < Q * (Y * Y') := Nat.mul_lt_mul_of_pos_right (hPQ' hb) hYY
      omega
  · exact hge
theorem near_uniq {X Y b b' : Nat} (hY : 0 < Y) (n : Near X Y b) (n' : Near X Y b') : b = b' :=
  Nat.le_antisymm (near_mono hY hY (Nat.le_refl _) n n') (near_mono hY hY (Nat.le_refl _) n' n)
/-- the same number, otherwise written -/
theorem near_same {X Y X' Y' b : Nat} (hY : 0 < Y) (hY' : 0 < Y') (h : X * Y' = X' * Y) (n : Near X Y b) : Near X' Y' b := by
  have e (P : Nat) : (P * Y) * Y' = (P * Y') * Y := Nat.mul_right_comm _ _ _
  have ex : (2 * X) * Y' = (2 * X') * Y := by rw [Nat.mul_assoc, h, Nat.mul_assoc]
  have lt1 (P : Nat) (g : P * Y < 2 * X) : P * Y' < 2 * X' := by
    have := Nat.mul_lt_mul_of_pos_right g hY'
    rw [e, ex] at this
    exact Nat.lt_of_mul_lt_mul_right this
  have lt2 (P : Nat) (g : 2 * X < P * Y) : 2 * X' < P * Y' := by
    have := Nat.mul_lt_mul_of_pos_right g hY'
    rw [e, ex] at this
    exact Nat.lt_of_mul_lt_mul_right this
  have eq1 (P : Nat) (g : P * Y = 2 * X) : P * Y' = 2 * X' := by
    have : (P * Y) * Y' = (2 * X) * Y' := by rw [g]
    rw [e, ex] at this
    exact Nat.eq_of_mul_eq_mul_right hY this
  constructor
  · rcases n.lo with g | g | ⟨g, hb⟩
    · exact .inl g
    · exact .inr (.inl (lt1 _ g))
    · exact .inr (.inr ⟨eq1 _ g, hb⟩)
  · rcases n.hi with g | ⟨g, hb⟩
    · exact .inl (lt2 _ g)
    · exact .inr ⟨(eq1 _ g.symm).symm, hb⟩
/-- a float is the nearest of itself -/
theorem near_self (Y b : Nat) (hY : 0 < Y) : Near (vf b * Y) Y b := by
  have h2 : (2 * (vf b * Y)) = (vf b + vf b) * Y := by rw [← Nat.mul_assoc, Nat.two_mul]
  constructor
  · by_cases hb : b = 0
    · exact .inl hb
    · refine .inr (.inl ?_)
      have := vf_lt (show b - 1 < b by omega)
      rw [h2]
      exact Nat.mul_lt_mul_of_pos_right (by omega) hY
  · refine .inl ?_
    have := vf_succ b
    rw [h2]
    exact Nat.mul_lt_mul_of_pos_right (by omega) hY

/-- counted in units of 2^k, rounded to the even one -/
theorem near_of {X Y k q r : Nat} {up : Nat} (hY : 0 < Y) (hX : X = q * (Y * 2 ^ k) + r) (hr : r < Y * 2 ^ k) (hq : q < 2 * h52) (hk : k = 0 ∨ h52 ≤ q)
    (hup : up = if Y * 2 ^ k < 2 * r ∨ (2 * r = Y * 2 ^ k ∧ q % 2 = 1) then 1 else 0) : Near X Y (k * h52 + (q + up)) := by
  have hD : 0 < Y * 2 ^ k := Nat.mul_pos hY (Nat.two_pow_pos k)
  have par (c : Nat) : (k * h52 + c) % 2 = c % 2 := by
    have : k * h52 = 2 * (k * 2251799813685248) := by rw [show h52 = 2251799813685248 * 2 from rfl, ← Nat.mul_assoc, Nat.mul_comm]
    omega
  have e0 (c : Nat) : (c * 2 ^ k) * Y = c * (Y * 2 ^ k) := by rw [Nat.mul_assoc, Nat.mul_comm (2 ^ k) Y]
  have v0 := vf_at (k := k) (c := q) (by omega) hk
  have v1 := vf_at (k := k) (c := q + 1) (by omega) (by omega)
  obtain ⟨D, hDD⟩ : ∃ D, Y * 2 ^ k = D := ⟨_, rfl⟩
  rw [hDD] at hX hr hup hD
  have hm : 2 * X = 2 * (q * D) + 2 * r := by omega
  by_cases hu : D < 2 * r ∨ (2 * r = D ∧ q % 2 = 1)
  · obtain rfl : up = 1 := by rw [hup, if_pos hu]
    have hs := vf_succ (k * h52 + (q + 1))
    refine ⟨.inr ?_, .inl ?_⟩
    · rw [show k * h52 + (q + 1) - 1 = k * h52 + q by omega, v0, v1, Nat.add_mul, e0, e0, hDD, Nat.add_mul, Nat.one_mul, par]
      omega
    · have : 2 * X < (vf (k * h52 + (q + 1)) + vf (k * h52 + (q + 1))) * Y := by
        rw [v1, Nat.add_mul, e0, hDD, Nat.add_mul, Nat.one_mul]
        omega
      refine Nat.lt_of_lt_of_le this (Nat.mul_le_mul_right _ ?_)
      omega
  · obtain rfl : up = 0 := by rw [hup, if_neg hu]
    rw [Nat.add_zero]
    refine ⟨?_, ?_⟩
    · by_cases hb : k * h52 + q = 0
      · exact .inl hb
      · refine .inr (.inl ?_)
        have hs := vf_lt (show k * h52 + q - 1 < k * h52 + q by omega)
        have h1 : (vf (k * h52 + q) + vf (k * h52 + q)) * Y ≤ 2 * X := by
          rw [v0, Nat.add_mul, e0, hDD]
          omega
        exact Nat.lt_of_lt_of_le (Nat.mul_lt_mul_of_pos_right (by omega) hY) h1
    · rw [Nat.add_assoc, v0, v1, Nat.add_mul, e0, e0, hDD, Nat.add_mul, Nat.one_mul, par]
      omega

/-! powers of two as bounds -/
/-- x over y is at least 2^n -/
def ge2 (x y : Nat) (n : Int) : Prop := y * 2 ^ n.toNat ≤ x * 2 ^ (-n).toNat
theorem ge2_iff (x y : Nat) {n : Int} {a b : Nat} (h : n = (a : Int) - (b : Int)) : ge2 x y n ↔ y * 2 ^ a ≤ x * 2 ^ b := by
  obtain ⟨c, h1, h2⟩ : ∃ c, a = n.toNat + c ∧ b = (-n).toNat + c := ⟨a - n.toNat, by omega, by omega⟩
  unfold ge2
  rw [h1, h2, Nat.pow_add, Nat.pow_add, ← Nat.mul_assoc, ← Nat.mul_assoc]
  exact ⟨fun g => Nat.mul_le_mul_right _ g, fun g => Nat.le_of_mul_le_mul_right g (Nat.two_pow_pos c)⟩
theorem ge2_bits {x y a b : Nat} (hx1 : 2 ^ (a - 1) ≤ x) (ha : 0 < a) (hx2 : x < 2 ^ a) (hy1 : 2 ^ (b - 1) ≤ y) (hb : 0 < b) (hy2 : y < 2 ^ b) :
    ge2 x y ((a : Int) - (b : Int) - 1) ∧ ¬ ge2 x y ((a : Int) - (b : Int) + 1) := by
  rw [ge2_iff x y (show (a : Int) - (b : Int) - 1 = ((a - 1 : Nat) : Int) - (b : Int) by omega), ge2_iff x y (show (a : Int) - (b : Int) + 1 = ((a : Nat) : Int) - ((b - 1 : Nat) : Int) by omega)]
  constructor
  · refine Nat.le_trans (Nat.mul_le_mul_right _ (Nat.le_of_lt hy2)) ?_
    rw [Nat.mul_comm]
    exact Nat.mul_le_mul_right _ hx1
  · intro h
    have h1 : x * 2 ^ (b - 1) < 2 ^ a * 2 ^ (b - 1) := Nat.mul_lt_mul_of_pos_right hx2 (Nat.two_pow_pos _)
    have h2 : 2 ^ (b - 1) * 2 ^ a ≤ y * 2 ^ a := Nat.mul_le_mul_right _ hy1
    rw [Nat.mul_comm] at h2
    omega

/-- what is counted: u is the unit's exponent, h the greatest with 2^h at most x over y (or x is 0) -/
structure Unit (x y : Nat) (u : Int) : Prop where
  least : -1074 ≤ u
  low : u = -1074 ∨ ge2 x y (u + 52)
  high : ¬ ge2 x y (u + 53)
theorem near_unit {x y : Nat} {u : Int} (hy : 0 < y) (hu : Unit x y u) {x' y' up : Nat} (hx' : x' = x * 2 ^ (-u).toNat) (hy' : y' = y * 2 ^ u.toNat)
    (hup : up = if y' < 2 * (x' % y') ∨ (2 * (x' % y') = y' ∧ x' / y' % 2 = 1) then 1 else 0) :
    x' / y' < 2 * h52 ∧ (u = -1074 ∨ h52 ≤ x' / y') ∧ Near (x * 2 ^ e74) y ((u + 1074).toNat * h52 + (x' / y' + up)) := by
  obtain ⟨k, hk⟩ : ∃ k, (u + 1074).toNat = k := ⟨_, rfl⟩
  have huk : u = (k : Int) - 1074 := by have := hu.least; omega
  have hy0 : 0 < y' := by rw [hy']; exact Nat.mul_pos hy (Nat.two_pow_pos _)
  have e53 : 2 * h52 = 2 ^ 53 := by decide
  have q1 : x' / y' < 2 * h52 := by
    rw [Nat.div_lt_iff_lt_mul hy0]
    have h1 := hu.high
    rw [ge2_iff x y (show u + 53 = ((u.toNat + 53 : Nat) : Int) - ((-u).toNat : Int) by omega), Nat.pow_add, ← Nat.mul_assoc, ← hx', ← hy'] at h1
    rw [e53, Nat.mul_comm]
    omega
  have q2 : u = -1074 ∨ h52 ≤ x' / y' := by
    rcases hu.low with h | h
    · exact .inl h
    · right
      rw [Nat.le_div_iff_mul_le hy0]
      rw [ge2_iff x y (show u + 52 = ((u.toNat + 52 : Nat) : Int) - ((-u).toNat : Int) by omega), Nat.pow_add, ← Nat.mul_assoc, ← hx', ← hy', h52_eq] at h
      rw [Nat.mul_comm]
      exact h
  have q3 : k = 0 ∨ h52 ≤ x' / y' := by omega
  refine ⟨q1, q2, ?_⟩
  rw [hk]
  have hdm := Nat.div_add_mod x' y'
  have hml := Nat.mod_lt x' hy0
  obtain ⟨c, hc1, hc2⟩ : ∃ c, x' * 2 ^ c = x * 2 ^ e74 ∧ y' * 2 ^ c = y * 2 ^ k := by
    by_cases h0 : u ≤ 0
    · refine ⟨k, ?_, ?_⟩
      · rw [hx', Nat.mul_assoc, ← Nat.pow_add, show (-u).toNat + k = e74 by rw [e74_eq]; omega]
      · rw [hy', show u.toNat = 0 by omega, Nat.pow_zero, Nat.mul_one]
    · refine ⟨e74, ?_, ?_⟩
      · rw [hx', show (-u).toNat = 0 by omega, Nat.pow_zero, Nat.mul_one]
      · rw [hy', Nat.mul_assoc, ← Nat.pow_add, show u.toNat + e74 = k by rw [e74_eq]; omega]
  have hc := Nat.two_pow_pos c
  obtain ⟨q, hq⟩ : ∃ q, x' / y' = q := ⟨_, rfl⟩
  obtain ⟨r, hr⟩ : ∃ r, x' % y' = r := ⟨_, rfl⟩
  rw [hq] at q1 q2 q3 hup hdm
  rw [hr] at hup hdm hml
  rw [hq]
  obtain ⟨C, hC⟩ : ∃ C, 2 ^ c = C := ⟨_, rfl⟩
  rw [hC] at hc hc1 hc2
  have t1 : 2 * (r * C) = 2 * r * C := by rw [Nat.mul_assoc]
  refine near_of (r := r * C) hy ?_ ?_ q1 q3 ?_
  · rw [← hc2, ← hc1, ← hdm, Nat.add_mul, Nat.mul_comm y' q, Nat.mul_assoc]
  · rw [← hc2]; exact Nat.mul_lt_mul_of_pos_right hml hc
  · rw [hup, ← hc2, t1]
    have c1 : (y' < 2 * r) ↔ (y' * C < 2 * r * C) := ⟨fun g => Nat.mul_lt_mul_of_pos_right g hc, fun g => Nat.lt_of_mul_lt_mul_right g⟩
    have c2 : (2 * r = y') ↔ (2 * r * C = y' * C) := ⟨fun g => by rw [g], fun g => Nat.eq_of_mul_eq_mul_right hc g⟩
    by_cases a1 : y' < 2 * r
    · rw [if_pos (.inl a1), if_pos (.inl (c1.1 a1))]
    · by_cases a2 : 2 * r = y' ∧ q % 2 = 1
      · rw [if_pos (.inr a2), if_pos (.inr ⟨c2.1 a2.1, a2.2⟩)]
      · rw [if_neg (fun g => g.elim a1 a2), if_neg (fun g => g.elim (fun g => a1 (c1.2 g)) (fun g => a2 ⟨c2.2 g.1, g.2⟩))]
end Go.Proofs.YtljbnnpmnoejeaaGreatDoor.nn
namespace Go.Proofs.YtljbnnpmnoejeaaGreatDoor.nn
open Go.RowKit

/-- the value v is a trimmed number in memory -/
def N (w : World) (v : Value) (X : Nat) : Prop := ∃ A n c f, v = .slice A n c ∧ Num w A n c f X
/-- a number is answered -/
def NA (w : World) (R : Nat) (e : Ending) (w' : World) : Prop := ∃ v, e = .returned v ∧ N w' v R ∧ Below w.heap.size w w'
def NA2 (w : World) (Q R : Nat) (e : Ending) (w' : World) : Prop := ∃ v u, e = .returned (.tuple #[v, u]) ∧ N w' v Q ∧ N w' u R ∧ Below w.heap.size w w'
section
variable {w w' : World} {v u : Value} {X Y : Nat}
theorem N.below (h : N w v X) (hb : Below w.heap.size w w') : N w' v X := by
  obtain ⟨A, n, c, f, rfl, h1⟩ := h
  exact ⟨A, n, c, f, rfl, h1.le, h1.cap, h1.rd.below hb, h1.lt, h1.trm, h1.val⟩
theorem N.drewN (h : N w v X) (j : Nat) : N (w.drewN j) v X := by
  obtain ⟨A, n, c, f, rfl, h1⟩ := h
  exact ⟨A, n, c, f, rfl, h1.le, h1.cap, h1.rd.drewN j, h1.lt, h1.trm, h1.val⟩
theorem N.drew (h : N w v X) : N w.drew v X := by
  obtain ⟨A, n, c, f, rfl, h1⟩ := h
  exact ⟨A, n, c, f, rfl, h1.le, h1.cap, h1.rd.drew, h1.lt, h1.trm, h1.val⟩
theorem N.alloc (h : N w v X) (o : Obj) : N (w.alloc o) v X := by
  obtain ⟨A, n, c, f, rfl, h1⟩ := h
  exact ⟨A, n, c, f, rfl, h1.le, h1.cap, h1.rd.alloc o, h1.lt, h1.trm, h1.val⟩
theorem Num.short {A : Option Addr} {n c : Nat} {f : Nat → Nat} (h : Num w A n c f X) (hX : X < big) : n ≤ 4096 := by
  rcases Nat.lt_or_ge 4096 n with h1 | h1
  · have := trm_long h.trm h1
    rw [h.val] at this
    omega
  · exact h1
end
def b131 : Nat := 131072
theorem b131_eq : b131 = 131072 := rfl
theorem pw_two {k j : Nat} (h : j = 32 * k) : pw k = 2 ^ j := by
  unfold pw
  rw [h, Nat.pow_mul]
theorem big_two : big = 2 ^ b131 := pw_two (k := 4096) (j := b131) rfl
/-- numbers of so many bits fit -/
theorem fits_of {X k : Nat} (h : X < 2 ^ k) (hk : k ≤ b131) : X < big := by
  rw [big_two]
  exact Nat.lt_of_lt_of_le h (Nat.pow_le_pow_right (by decide) hk)
theorem bl_fits {X s : Nat} (h0 : X ≠ 0) (h : X * 2 ^ s < big) : bl X + s ≤ 131072 := by
  rw [big_two] at h
  have := bl_le h
  rw [bl_mul h0] at this
  exact this
theorem le_mul_two (X s : Nat) : X ≤ X * 2 ^ s := Nat.le_mul_of_pos_right _ (Nat.two_pow_pos s)
theorem len_reach {w : World} {A : Option Addr} {n c X : Nat} {f : Nat → Nat} (h : Num w A n c f X) (hX : X < big) : n * 4 ≤ 140737488351232 := by
  have := h.short hX
  omega

set_option maxRecDepth 100000 in
set_option maxHeartbeats 400000 in
theorem fshiftUp_any (v : Value) (X s : Nat) (w : World) (h : N w v X) (hs : s ≤ 131072) (hb : X * 2 ^ s < big) :
    Calls Tryz.prog 158 #[v, .int .i64 (s : Int)] w (NA w (X * 2 ^ s)) := by
  obtain ⟨A, n, c, f, rfl, h1⟩ := h
  have hXb : X < big := Nat.lt_of_le_of_lt (le_mul_two X s) hb
  have hn := h1.short hXb
  have hc := shl_any A n c s f w h1.rd h1.lt h1.le h1.cap (by omega) (by omega) (by omega)
  have ht := tr_le f n
  have e1 : shlR n f s = X * 2 ^ s := by
    unfold shlR
    rw [h1.val, Int.toNat_natCast]
    by_cases h0 : X = 0
    · rw [if_pos (.inr (.inr (.inl h0))), h0, Nat.zero_mul]
    · have := bl_fits h0 hb
      rw [if_neg (by omega)]
  have e2 : shlE n f s = 0 := by
    unfold shlE
    rw [h1.val, if_neg (by omega), if_neg (by omega)]
    by_cases h0 : X = 0
    · rw [if_pos h0]
    · have := bl_fits h0 hb
      rw [if_neg h0, if_neg (by omega)]
  rw [e1, e2] at hc
  obtain ⟨R, hR⟩ : ∃ R, X * 2 ^ s = R := ⟨_, rfl⟩
  rw [hR] at hc
  rw [hR]
  have HC := Lib.hid hc
  clear hc e1 e2 hR hb h1 hXb
  go_enter Tryz.func158, Tryz.ntmps158
  go_wp2_with fail
  refine HC.out.mono ?_
  rintro e w1 ⟨A1, n1, c1, f1, rfl, hN, hb1⟩
  go_wp2_with fail
  go_ret
  exact ⟨_, rfl, ⟨A1, n1, c1, f1, rfl, hN⟩, hb1⟩

set_option maxRecDepth 100000 in
set_option maxHeartbeats 400000 in
theorem fdivide_any (v u : Value) (X Y : Nat) (w : World) (h : N w v X) (hu : N w u Y) (hX : X < big) (hY : Y < big) (h0 : 0 < Y) :
    Calls Tryz.prog 156 #[v, u] w (NA2 w (X / Y) (X % Y)) := by
  obtain ⟨A, n, c, f, rfl, h1⟩ := h
  obtain ⟨B, m, d, g, rfl, h2⟩ := hu
  have hn := h1.short hX
  have hm := h2.short hY
  have t1 := tr_le f n
  have t2 := tr_le g m
  have htl : tl2 n m f g = false := by unfold tl2; simp only [Bool.or_eq_false_iff, decide_eq_false_iff_not]; omega
  have hc := div_all A B n m c d f g w h1.rd h2.rd h1.lt h2.lt h1.le h2.le h1.cap (by omega) h2.cap
  have e1 : divQ n m f g = X / Y := by unfold divQ; rw [htl, if_neg Bool.false_ne_true, h1.val, h2.val]
  have e2 : divR n m f g = X % Y := by unfold divR; rw [htl, if_neg Bool.false_ne_true, h1.val, h2.val, if_neg (by omega)]
  have e3 : divE n m f g = 0 := by unfold divE; rw [htl, if_neg Bool.false_ne_true, h2.val, if_neg (by omega)]
  rw [e1, e2, e3] at hc
  obtain ⟨Q, hQ⟩ : ∃ Q, X / Y = Q := ⟨_, rfl⟩
  obtain ⟨R, hR⟩ : ∃ R, X % Y = R := ⟨_, rfl⟩
  rw [hQ, hR] at hc
  rw [hQ, hR]
  have HC := Lib.hid hc
  clear hc e1 e2 e3 hQ hR h1 h2 hX hY h0 htl t1 t2
  go_enter Tryz.func156, Tryz.ntmps156
  go_wp2_with fail
  refine HC.out.mono ?_
  rintro e w1 ⟨A1, n1, c1, f1, A2, n2, c2, f2, rfl, hN, hN2, hb1⟩
  go_wp2_with fail
  go_ret2
  exact ⟨_, _, rfl, ⟨A1, n1, c1, f1, rfl, hN⟩, ⟨A2, n2, c2, f2, rfl, hN2⟩, hb1⟩

set_option maxRecDepth 100000 in
set_option maxHeartbeats 400000 in
theorem ffromDigits_any (s : ByteArray) (w : World) (hs : s.size ≤ 4096) (h0 : 0 < s.size) (hd : dgs (bt s) s.size = true) :
    Calls Tryz.prog 160 #[.string s] w (NA w (dv (bt s) s.size)) := by
  have hc := fromDigits_any s w (by unfold maxLen; omega)
  have e1 : fdR (bt s) s.size = dv (bt s) s.size := by unfold fdR; rw [if_neg (by omega), hd, decide_eq_true h0, if_pos (show (true && true) = true from rfl)]
  have e2 : fdE (bt s) s.size = 0 := by unfold fdE; rw [if_neg (by omega), hd, decide_eq_true h0, if_pos (show (true && true) = true from rfl)]
  rw [e1, e2] at hc
  obtain ⟨R, hR⟩ : ∃ R, dv (bt s) s.size = R := ⟨_, rfl⟩
  rw [hR] at hc
  rw [hR]
  have HC := Lib.hid hc
  clear hc e1 e2 hR hd
  go_enter Tryz.func160, Tryz.ntmps160
  go_wp2_with fail
  refine HC.out.mono ?_
  rintro e w1 ⟨A1, n1, c1, f1, rfl, hN, hb1⟩
  go_wp2_with fail
  go_ret
  exact ⟨_, rfl, ⟨A1, n1, c1, f1, rfl, hN⟩, hb1⟩

theorem fcmp_any (v u : Value) (X Y : Nat) (w : World) (h : N w v X) (hu : N w u Y) :
    Calls Tryz.prog 66 #[v, u] w fun e w' => e = .returned (.int .i64 (cm X Y)) ∧ ∃ j, w' = w.drewN j := by
  obtain ⟨A, n, c, f, rfl, h1⟩ := h
  obtain ⟨B, m, d, g, rfl, h2⟩ := hu
  have := Cmp_any A B n m c d f g w h1.rd h2.rd h1.lt h2.lt h1.le h2.le h1.cap h2.cap
  rw [h1.val, h2.val] at this
  exact this
theorem fbits_any (v : Value) (X : Nat) (w : World) (h : N w v X) (hX : X < big) :
    Calls Tryz.prog 70 #[v] w fun e w' => e = .returned (.int .i64 (bl X : Int)) ∧ w = w' := by
  obtain ⟨A, n, c, f, rfl, h1⟩ := h
  have := bits_any A n c f w h1.rd h1.lt h1.le h1.cap (by have := len_reach h1 hX; omega)
  rw [h1.val] at this
  exact this

set_option maxRecDepth 100000 in
set_option maxHeartbeats 400000 in
/-- x over y times 2^z, as two numbers -/
theorem ftimesPower_any (v u : Value) (X Y : Nat) (z : Int) (w : World) (h : N w v X) (hu : N w u Y) (hz1 : -131072 ≤ z) (hz2 : z ≤ 131072) (hX : X * 2 ^ z.toNat < big) (hY : Y * 2 ^ (-z).toNat < big) :
    Calls Tryz.prog 155 #[v, u, .int .i64 z] w (NA2 w (X * 2 ^ z.toNat) (Y * 2 ^ (-z).toNat)) := by
  have HA := Lib.hid (fun W (hW : Below w.heap.size w W) => fshiftUp_any v X z.toNat W (h.below hW) (by omega) hX)
  have HB := Lib.hid (fun W (hW : Below w.heap.size w W) => fshiftUp_any u Y (-z).toNat W (hu.below hW) (by omega) hY)
  obtain ⟨R, hR⟩ : ∃ R, X * 2 ^ z.toNat = R := ⟨_, rfl⟩
  obtain ⟨Q, hQ⟩ : ∃ Q, Y * 2 ^ (-z).toNat = Q := ⟨_, rfl⟩
  rw [hR] at HA
  rw [hQ] at HB
  rw [hR, hQ]
  obtain ⟨a, ha⟩ : ∃ a, z.toNat = a := ⟨_, rfl⟩
  obtain ⟨b, hb⟩ : ∃ b, (-z).toNat = b := ⟨_, rfl⟩
  rw [ha] at HA
  rw [hb] at HB
  have m1 : max z 0 = (a : Int) := by omega
  have m2 : max (-z) 0 = (b : Int) := by omega
  have HR := Lib.hid (Below.refl w.heap.size w)
  clear hR hQ ha hb hX hY h hu
  go_enter Tryz.func155, Tryz.ntmps155
  go_wp2_with fail
  refine (HA.out _ HR.out).mono ?_
  rintro e w1 ⟨v1, rfl, hN1, hb1⟩
  have H1 := Lib.hid hN1
  have HB1 := Lib.hid hb1
  clear hN1 hb1
  go_wp2_with fail
  refine (HB.out _ HB1.out).mono ?_
  rintro e w2 ⟨v2, rfl, hN2, hb2⟩
  have H2 := Lib.hid hN2
  have HB2 := Lib.hid hb2
  clear hN2 hb2
  go_wp2_with fail
  go_ret2
  exact ⟨_, _, rfl, H1.out.below HB2.out, H2.out, HB1.out.trans (HB2.out.mono HB1.out.size)⟩
end Go.Proofs.YtljbnnpmnoejeaaGreatDoor.nn
namespace Go.Proofs.YtljbnnpmnoejeaaGreatDoor.nn
open Go.RowKit

theorem or_two {a b : Nat} (ha : a < 2 ^ 32) (hb : b < 2 ^ 32) : bits .or .u64 (a : Int) ((b * 4294967296 : Nat) : Int) = ((a + b * 4294967296 : Nat) : Int) := by
  rw [u64_or_nat _ _ (by omega) (by omega)]
  have h := Nat.two_pow_add_eq_or_of_lt (i := 32) (b := a) ha b
  rw [Nat.or_comm, show b * 4294967296 = 2 ^ 32 * b by omega, ← h]
  congr 1
  omega
theorem or_zero {a : Nat} (ha : a < 2 ^ 32) : bits .or .u64 0 (a : Int) = (a : Int) := by
  have := u64_or_nat 0 a (by decide) (by omega)
  rw [show ((0 : Nat) : Int) = 0 from rfl, Nat.zero_or] at this
  exact this
theorem len_two {X n : Nat} {f : Nat → Nat} (ht : Trm f n) (hv : sm (2 ^ 32) f n = X) (hX : X < 18446744073709551616) : n ≤ 2 := by
  rcases Nat.lt_or_ge 2 n with h | h
  · obtain ⟨j, rfl⟩ : ∃ j, n = j + 1 := ⟨n - 1, by omega⟩
    rcases ht with ht | ht
    · omega
    · have h1 := sm_ge (B := 2 ^ 32) (f := f) (n := j) (by simpa using ht)
      have h2 : (2 ^ 32) ^ 2 ≤ (2 ^ 32) ^ j := Nat.pow_le_pow_right (by decide) (by omega)
      have h3 : ((2 : Nat) ^ 32) ^ 2 = 18446744073709551616 := by decide
      omega
  · exact h

set_option maxRecDepth 100000 in
set_option maxHeartbeats 1000000 in
theorem fshort_any (v : Value) (X : Nat) (w : World) (h : N w v X) (hX : X < 18446744073709551616) :
    Calls Tryz.prog 157 #[v] w fun e w' => e = .returned (.int .u64 (X : Int)) ∧ w = w' := by
  obtain ⟨A, n, c, f, rfl, h1⟩ := h
  have hn := len_two h1.trm h1.val hX
  have hv := Lib.hid h1.val
  have hr := h1.rd
  have lf := h1.lt
  clear h1 hX
  go_enter Tryz.func157, Tryz.ntmps157
  go_wp2
  go_loop [3, 8] (fun s3 s8 => ∃ i : Nat, i ≤ n ∧ s8 = .int .i64 (i : Int) ∧ s3 = .int .u64 (sm (2 ^ 32) f i : Int)) (fun _ s8 => n - (intOf s8).toNat)
  case atStart => exact ⟨0, Nat.zero_le _, rfl, rfl⟩
  case round =>
    obtain ⟨i, hi, rfl, rfl⟩ := hrel
    by_cases hlt : i < n
    · obtain ⟨b, off, rfl, _, hcell⟩ := hr (by omega)
      have hx := hcell i hlt
      have hl := lf i hlt
      have hi2 : i = 0 ∨ i = 1 := by omega
      rcases hi2 with rfl | rfl
      · have e1 : Hid (sm (2 ^ 32) f 1 = f 0) := Lib.hid (by simp [sm])
        have e0 : sm (2 ^ 32) f 0 = 0 := rfl
        obtain ⟨y, hy⟩ : ∃ y, f 0 = y := ⟨_, rfl⟩
        rw [hy] at hx hl e1
        have HO := Lib.hid (or_zero hl)
        rw [e0]
        rw [Nat.add_zero] at hx
        clear hcell hr lf e0 hy
        go_wp2
        go_round
        case rel => exact ⟨1, by omega, by go_num, by rw [e1.out]; first | (rw [HO.out]) | (simp [HO.out]) | skip⟩
        case measure => simp [intOf]; omega
      · have l0 := lf 0 (by omega)
        have e1 : sm (2 ^ 32) f 1 = f 0 := by simp [sm]
        have e2 : Hid (sm (2 ^ 32) f 2 = f 0 + f 1 * 4294967296) := Lib.hid (by simp [sm])
        obtain ⟨x, hxx⟩ : ∃ x, f 0 = x := ⟨_, rfl⟩
        obtain ⟨y, hy⟩ : ∃ y, f 1 = y := ⟨_, rfl⟩
        rw [e1, hxx]
        rw [hxx] at e2 l0
        rw [hy] at hx hl e2
        have HO := Lib.hid (or_two l0 hl)
        clear hcell hr lf e1 hxx hy
        go_wp2
        go_round
        case rel => exact ⟨2, by omega, by go_num, by rw [e2.out]; first | (rw [← HO.out]; rfl) | (simp [← HO.out])⟩
        case measure => simp [intOf]; omega
    · obtain rfl : i = n := by omega
      rw [hv.out]
      go_wp2
      go_ret
      exact ⟨rfl, rfl⟩

/-- the sign's bit -/
def sB (neg : Bool) : Nat := if neg then 9223372036854775808 else 0
theorem or_sign {m : Nat} (h : m < 9223372036854775808) : bits .or .u64 (m : Int) 9223372036854775808 = ((9223372036854775808 + m : Nat) : Int) := by
  have := u64_or_nat m 9223372036854775808 (by omega) (by decide)
  rw [show ((9223372036854775808 : Nat) : Int) = 9223372036854775808 from rfl] at this
  rw [this, Nat.or_comm]
  have h2 := Nat.two_pow_add_eq_or_of_lt (i := 63) (b := m) (by omega) 1
  rw [show (2 : Nat) ^ 63 * 1 = 9223372036854775808 by decide] at h2
  rw [← h2]
set_option maxRecDepth 100000 in
theorem fsigned_any (neg : Bool) (m : Nat) (w : World) (hm : m < 9223372036854775808) :
    Calls Tryz.prog 74 #[.bool neg, .int .u64 (m : Int)] w fun e w' => e = .returned (.int .u64 ((sB neg + m : Nat) : Int)) ∧ w = w' := by
  cases neg with
  | false =>
    have e1 : Hid (sB false + m = m) := Lib.hid (by simp [sB])
    go_enter Tryz.func74, Tryz.ntmps74
    go_wp2
    go_ret
    exact ⟨ret_int (by rw [e1.out]), rfl⟩
  | true =>
    have e1 : Hid (((sB true + m : Nat) : Int) = bits .or .u64 (m : Int) 9223372036854775808) := Lib.hid (by rw [or_sign hm]; rfl)
    clear hm
    go_enter Tryz.func74, Tryz.ntmps74
    go_wp2
    go_ret
    exact ⟨ret_int (by rw [e1.out]), rfl⟩

/-- how many of the first n bytes are digits, without a gap -/
def dc (f : Nat → Nat) : Nat → Nat
  | 0 => 0
  | n + 1 => if dc f n = n ∧ dg (f n) = true then n + 1 else dc f n
theorem dc_facts (f : Nat → Nat) (n : Nat) : dc f n ≤ n ∧ dgs f (dc f n) = true ∧ (dc f n = n ∨ dg (f (dc f n)) = false) := by
  induction n with
  | zero => exact ⟨Nat.le_refl _, rfl, .inl rfl⟩
  | succ n ih =>
    obtain ⟨h1, h2, h3⟩ := ih
    unfold dc
    by_cases h : dc f n = n ∧ dg (f n) = true
    · rw [if_pos h]
      refine ⟨Nat.le_refl _, ?_, .inl rfl⟩
      rw [h.1] at h2
      rw [dgs, h2, h.2]
      rfl
    · rw [if_neg h]
      refine ⟨by omega, h2, .inr ?_⟩
      rcases h3 with h3 | h3
      · rw [h3]
        cases hd : dg (f n) with
        | false => rfl
        | true => exact absurd ⟨h3, hd⟩ h
      · exact h3
theorem dgs_no {f : Nat → Nat} {n k : Nat} (h : dgs f n = true) (hk : k < n) (hd : dg (f k) = false) : False := by
  have := dgs_at h hk
  have h2 : dg (f k) = true := decide_eq_true this
  rw [hd] at h2
  cases h2
theorem dc_eq {f : Nat → Nat} {n k : Nat} (hk : k ≤ n) (h : dgs f k = true) (he : k = n ∨ dg (f k) = false) : dc f n = k := by
  obtain ⟨h1, h2, h3⟩ := dc_facts f n
  rcases Nat.lt_trichotomy (dc f n) k with g | g | g
  · rcases h3 with h3 | h3
    · omega
    · exact (dgs_no h g h3).elim
  · exact g
  · rcases he with he | he
    · omega
    · exact (dgs_no h2 g he).elim
theorem dc_all {f : Nat → Nat} {n : Nat} : dc f n = n ↔ dgs f n = true := by
  constructor
  · intro h
    have := (dc_facts f n).2.1
    rwa [h] at this
  · intro h
    exact dc_eq (Nat.le_refl _) h (.inl rfl)

set_option maxRecDepth 100000 in
set_option maxHeartbeats 1000000 in
theorem countDigits_any (s : ByteArray) (w : World) (hs : s.size ≤ maxLen) :
    Calls Tryz.prog 150 #[.string s] w fun e w' => e = .returned (.int .i64 (dc (bt s) s.size : Int)) ∧ w = w' := by
  unfold maxLen at hs
  go_enter Tryz.func150, Tryz.ntmps150
  go_wp2
  go_loop [3] (fun s3 => ∃ i : Nat, i ≤ s.size ∧ s3 = .int .i64 (i : Int) ∧ Hid (dgs (bt s) i = true)) (fun s3 => s.size - (intOf s3).toNat)
  case atStart => exact ⟨0, Nat.zero_le _, rfl, Lib.hid rfl⟩
  case round =>
    obtain ⟨i, hi, rfl, hd⟩ := hrel
    by_cases hlt : i < s.size
    · have hx := bt_at hlt
      obtain ⟨x, hxx⟩ : ∃ x, s[i].toNat = x := ⟨_, rfl⟩
      have hx256 : x < 256 := by rw [← hxx]; exact s[i].toNat_lt
      rw [hxx] at hx
      by_cases hy : 48 ≤ x ∧ x ≤ 57
      · have HD : Hid (dgs (bt s) (i + 1) = true) := Lib.hid (by rw [dgs, hd.out, hx]; exact decide_eq_true hy)
        obtain ⟨h1, h2⟩ := hy
        clear hx
        go_wp2
        go_round
        case rel => exact ⟨i + 1, by omega, by go_num, HD⟩
        case measure => simp [intOf]; omega
      · have HD : Hid (dc (bt s) s.size = i) := Lib.hid (dc_eq hi hd.out (.inr (by rw [hx]; exact decide_eq_false hy)))
        clear hx
        by_cases h1 : 48 ≤ x
        · have h2 : 57 < x := by omega
          clear hy
          go_wp2
          go_ret
          exact ⟨ret_int (by rw [HD.out]), rfl⟩
        · clear hy
          go_wp2
          go_ret
          exact ⟨ret_int (by rw [HD.out]), rfl⟩
    · obtain rfl : i = s.size := by omega
      have HD : Hid (dc (bt s) s.size = s.size) := Lib.hid (dc_eq hi hd.out (.inl rfl))
      go_wp2
      go_ret
      exact ⟨ret_int (by rw [HD.out]), rfl⟩

/-- what is wrong with a decimal -/
def rfE (s : ByteArray) (z : Int) : Nat := if 800 < s.size then 2 else if (dgs (bt s) s.size && decide (0 < s.size)) = false then 4 else if z < -2000 ∨ 2000 < z then 1 else 0
theorem nil_text {s : ByteArray} (h : s.size = 0) : s = ⟨#[]⟩ := by
  obtain ⟨d⟩ := s
  congr 1
  exact Array.eq_empty_of_size_eq_zero h
theorem not_nil_text {s : ByteArray} (h : 0 < s.size) : s.toList.isEmpty = false := by
  rw [ByteArray.toList_eq]
  cases hl : s.data.toList with
  | nil =>
    have : s.data.toList.length = s.size := rfl
    rw [hl] at this
    simp at this
    omega
  | cons a l => rfl
set_option maxRecDepth 100000 in
set_option maxHeartbeats 1000000 in
theorem refuse_any (s : ByteArray) (z : Int) (w : World) (hs : s.size ≤ maxLen) (hz1 : -9223372036854775808 ≤ z) (hz2 : z ≤ 9223372036854775807) :
    Calls Tryz.prog 119 #[.string s, .int .i64 z] w fun e w' => e = .returned (.int .i64 (rfE s z : Int)) ∧ w = w' := by
  have HC := Lib.hid (fun W => countDigits_any s W hs)
  unfold maxLen at hs
  by_cases h1 : 800 < s.size
  · have HR : Hid (rfE s z = 2) := Lib.hid (if_pos h1)
    go_enter Tryz.func119, Tryz.ntmps119
    go_wp2
    go_ret
    exact ⟨ret_int (by rw [HR.out]; rfl), rfl⟩
  · by_cases h0 : s.size = 0
    · have HR : Hid (rfE s z = 4) := Lib.hid (by unfold rfE; rw [if_neg h1, if_pos (by rw [h0]; rfl)])
      obtain rfl := nil_text h0
      clear h0 h1 hs
      go_enter Tryz.func119, Tryz.ntmps119
      go_wp2
      go_ret
      exact ⟨ret_int (by rw [HR.out]; rfl), rfl⟩
    · have hne := not_nil_text (show 0 < s.size by omega)
      have hle := (dc_facts (bt s) s.size).1
      cases hd : dgs (bt s) s.size with
      | false =>
        have hne2 : dc (bt s) s.size ≠ s.size := fun h => by rw [dc_all.1 h] at hd; cases hd
        have HR : Hid (rfE s z = 4) := Lib.hid (by unfold rfE; rw [if_neg h1, hd, if_pos (by rfl)])
        obtain ⟨k, hk⟩ : ∃ k, dc (bt s) s.size = k := ⟨_, rfl⟩
        rw [hk] at HC hle hne2
        have hlt : k < s.size := by omega
        clear hd hk hne2 h0 hle
        go_enter Tryz.func119, Tryz.ntmps119
        go_wp2_with fail
        refine (HC.out _).mono ?_
        rintro e w' ⟨rfl, rfl⟩
        go_wp2_with fail
        go_ret
        exact ⟨ret_int (by rw [HR.out]; rfl), rfl⟩
      | true =>
        rw [dc_all.2 hd] at HC
        have hb : (dgs (bt s) s.size && decide (0 < s.size)) = true := by rw [hd, decide_eq_true (by omega)]; rfl
        have hR : rfE s z = if z < -2000 ∨ 2000 < z then 1 else 0 := by unfold rfE; rw [if_neg h1, if_neg (by rw [hb]; decide)]
        clear hd hle h0 hb
        by_cases c1 : z < -2000
        · have HR : Hid (rfE s z = 1) := Lib.hid (by rw [hR, if_pos (.inl c1)])
          clear hR
          go_enter Tryz.func119, Tryz.ntmps119
          go_wp2_with fail
          refine (HC.out _).mono ?_
          rintro e w' ⟨rfl, rfl⟩
          go_wp2_with fail
          go_ret
          exact ⟨ret_int (by rw [HR.out]; rfl), rfl⟩
        · by_cases c2 : 2000 < z
          · have HR : Hid (rfE s z = 1) := Lib.hid (by rw [hR, if_pos (.inr c2)])
            clear hR
            go_enter Tryz.func119, Tryz.ntmps119
            go_wp2_with fail
            refine (HC.out _).mono ?_
            rintro e w' ⟨rfl, rfl⟩
            go_wp2_with fail
            go_ret
            exact ⟨ret_int (by rw [HR.out]; rfl), rfl⟩
          · have HR : Hid (rfE s z = 0) := Lib.hid (by rw [hR, if_neg (by omega)])
            clear hR
            go_enter Tryz.func119, Tryz.ntmps119
            go_wp2_with fail
            refine (HC.out _).mono ?_
            rintro e w' ⟨rfl, rfl⟩
            go_wp2_with fail
            go_ret
            exact ⟨ret_int (by rw [HR.out]; rfl), rfl⟩
end Go.Proofs.YtljbnnpmnoejeaaGreatDoor.nn
namespace Go.Proofs.YtljbnnpmnoejeaaGreatDoor.nn
open Go.RowKit

/-- so many letters 0 -/
def zk (k : Nat) : ByteArray := ⟨(List.replicate k 48).toArray⟩
theorem zk_size (k : Nat) : (zk k).size = k := by simp [zk, ByteArray.size]
theorem zk_rep (k : Nat) : (⟨(Lib.repeatL (⟨#[48]⟩ : ByteArray).data.toList k).toArray⟩ : ByteArray) = zk k := by
  have : ∀ k, Lib.repeatL (⟨#[48]⟩ : ByteArray).data.toList k = List.replicate k 48 := by
    intro k
    induction k with
    | zero => rfl
    | succ k ih => rw [Lib.repeatL, ih]; rfl
  rw [this]
  rfl
theorem fbt_app_right {a b : ByteArray} {i : Nat} (h : i < b.size) : bt (a ++ b) (a.size + i) = bt b i := by
  have h1 : a.size + i < (a ++ b).size := by rw [ByteArray.size_append]; omega
  rw [bt_at h1, bt_at h, ByteArray.getElem_append_right (by omega)]
  simp
theorem fbt_app_left {a b : ByteArray} {i : Nat} (h : i < a.size) : bt (a ++ b) i = bt a i := by
  have h1 : i < (a ++ b).size := by rw [ByteArray.size_append]; omega
  rw [bt_at h1, bt_at h, ByteArray.getElem_append_left h]
theorem zk_at {k i : Nat} (h : i < k) : bt (zk k) i = 48 := by
  have h1 : i < (zk k).size := by rw [zk_size]; exact h
  rw [bt_at h1]
  show ((List.replicate k (48 : UInt8)).toArray[i]'(by simpa [zk, ByteArray.size] using h1)).toNat = 48
  simp
theorem zk_num (k : Nat) : dgs (bt (zk k)) k = true ∧ dv (bt (zk k)) k = 0 := by
  have : ∀ j, j ≤ k → dgs (bt (zk k)) j = true ∧ dv (bt (zk k)) j = 0 := by
    intro j
    induction j with
    | zero => exact fun _ => ⟨rfl, rfl⟩
    | succ j ih =>
      intro hj
      obtain ⟨h1, h2⟩ := ih (by omega)
      rw [dgs, dv, h1, h2, zk_at (by omega)]
      exact ⟨by decide, rfl⟩
  exact this k (Nat.le_refl k)
/-- the number of two texts of digits, one behind the other -/
theorem app_num {a b : ByteArray} (ha : dgs (bt a) a.size = true) (hb : dgs (bt b) b.size = true) :
    dgs (bt (a ++ b)) (a ++ b).size = true ∧ dv (bt (a ++ b)) (a ++ b).size = dv (bt a) a.size * 10 ^ b.size + dv (bt b) b.size := by
  rw [ByteArray.size_append]
  have l : ∀ i, i < a.size → bt (a ++ b) i = bt a i := fun i hi => fbt_app_left hi
  have r : ∀ i, i < b.size → bt (a ++ b) (a.size + i) = bt b i := fun i hi => fbt_app_right hi
  constructor
  · have : ∀ j, j ≤ b.size → dgs (bt (a ++ b)) (a.size + j) = true := by
      intro j
      induction j with
      | zero => exact fun _ => by rw [Nat.add_zero, dgs_congr l]; exact ha
      | succ j ih =>
        intro hj
        rw [← Nat.add_assoc, dgs, ih (by omega), r j (by omega)]
        have := dgs_at hb (show j < b.size by omega)
        exact decide_eq_true this
    exact this _ (Nat.le_refl _)
  · rw [dv_add, dv_congr l, dv_congr r]
theorem dv_zk {a : ByteArray} (ha : dgs (bt a) a.size = true) (k : Nat) : dgs (bt (a ++ zk k)) (a ++ zk k).size = true ∧ dv (bt (a ++ zk k)) (a ++ zk k).size = dv (bt a) a.size * 10 ^ k := by
  obtain ⟨z1, z2⟩ := zk_num k
  obtain ⟨h1, h2⟩ := app_num ha (b := zk k) (by rw [zk_size]; exact z1)
  rw [zk_size, z2, Nat.add_zero] at h2
  exact ⟨h1, h2⟩

set_option maxRecDepth 100000 in
set_option maxHeartbeats 400000 in
theorem zeros_any (z : Int) (w : World) (hz1 : -100000 ≤ z) (hz2 : z ≤ 100000) :
    Calls Tryz.prog 132 #[.int .i64 z] w fun e w' => e = .returned (.string (zk z.toNat)) ∧ Below w.heap.size w w' := by
  obtain ⟨k, hk⟩ : ∃ k, z.toNat = k := ⟨_, rfl⟩
  have m1 : max z 0 = (k : Int) := by omega
  have HS := Lib.hid (fun W => Tryz.strings_Repeat ⟨#[48]⟩ k W (by omega) (by show 1 * k ≤ _; omega))
  rw [zk_rep] at HS
  rw [hk]
  clear hk
  go_enter Tryz.func132, Tryz.ntmps132
  go_wp2_with fail
  refine (HS.out _).mono ?_
  rintro e w1 ⟨rfl, hb⟩
  have HB := Lib.hid hb
  clear hb
  go_wp2_with fail
  go_ret
  exact ⟨rfl, HB.out⟩

set_option maxRecDepth 100000 in
set_option maxHeartbeats 400000 in
theorem ratio_any (d : ByteArray) (z : Int) (w : World) (hd : dgs (bt d) d.size = true) (h0 : 0 < d.size) (h8 : d.size ≤ 1000) (hz1 : -3000 ≤ z) (hz2 : z ≤ 3000) :
    Calls Tryz.prog 121 #[.string d, .int .i64 z] w (NA2 w (dv (bt d) d.size * 10 ^ z.toNat) (10 ^ (-z).toNat)) := by
  have HZ1 := Lib.hid (fun W => zeros_any z W (by omega) (by omega))
  have HZ2 := Lib.hid (fun W => zeros_any (-z) W (by omega) (by omega))
  obtain ⟨d1, d2⟩ := dv_zk hd z.toNat
  obtain ⟨o1, o2⟩ := dv_zk (a := ⟨#[49]⟩) (by decide) (-z).toNat
  rw [show dv (bt ⟨#[49]⟩) (ByteArray.size ⟨#[49]⟩) = 1 by decide, Nat.one_mul] at o2
  have s1 : (d ++ zk z.toNat).size = d.size + z.toNat := by rw [ByteArray.size_append, zk_size]
  have s2 : ((⟨#[49]⟩ : ByteArray) ++ zk (-z).toNat).size = 1 + (-z).toNat := by rw [ByteArray.size_append, zk_size]; rfl
  have HA := Lib.hid (fun W => ffromDigits_any (d ++ zk z.toNat) W (by omega) (by omega) d1)
  have HB := Lib.hid (fun W => ffromDigits_any (⟨#[49]⟩ ++ zk (-z).toNat) W (by omega) (by omega) o1)
  rw [d2] at HA
  rw [o2] at HB
  obtain ⟨X, hX⟩ : ∃ X, dv (bt d) d.size * 10 ^ z.toNat = X := ⟨_, rfl⟩
  obtain ⟨Y, hY⟩ : ∃ Y, 10 ^ (-z).toNat = Y := ⟨_, rfl⟩
  rw [hX] at HA
  rw [hY] at HB
  rw [hX, hY]
  obtain ⟨a, ha⟩ : ∃ a, zk z.toNat = a := ⟨_, rfl⟩
  obtain ⟨b, hb⟩ : ∃ b, zk (-z).toNat = b := ⟨_, rfl⟩
  rw [ha] at HZ1 HA s1
  rw [hb] at HZ2 HB s2
  rw [ByteArray.size_append] at s1 s2
  have t1 : a.size ≤ 100000 := by omega
  have t2 : b.size ≤ 100000 := by omega
  have HR := Lib.hid (Below.refl w.heap.size w)
  clear hX hY ha hb d1 d2 o1 o2 s1 s2 hd
  go_enter Tryz.func121, Tryz.ntmps121
  go_wp2_with fail
  refine (HZ1.out _).mono ?_
  rintro e w1 ⟨rfl, hb1⟩
  have HB1 := Lib.hid hb1
  clear hb1
  go_wp2_with fail
  refine (HA.out _).mono ?_
  rintro e w2 ⟨v2, rfl, hN2, hb2⟩
  have HB2 := Lib.hid (HB1.out.trans (hb2.mono HB1.out.size))
  have HN2 := Lib.hid hN2
  clear hb2 hN2
  go_wp2_with fail
  refine (HZ2.out _).mono ?_
  rintro e w3 ⟨rfl, hb3⟩
  have HB3 := Lib.hid (HB2.out.trans (hb3.mono HB2.out.size))
  have HN3 := Lib.hid (HN2.out.below hb3)
  clear hb3
  go_wp2_with fail
  refine (HB.out _).mono ?_
  rintro e w4 ⟨v4, rfl, hN4, hb4⟩
  have HB4 := Lib.hid (HB3.out.trans (hb4.mono HB3.out.size))
  have HN5 := Lib.hid (HN3.out.below hb4)
  have HN4 := Lib.hid hN4
  clear hb4 hN4
  go_wp2_with fail
  go_ret2
  exact ⟨_, _, rfl, HN5.out, HN4.out, HB4.out⟩

theorem ge2_anti {x y : Nat} {m n : Int} (h : m ≤ n) (hg : ge2 x y n) : ge2 x y m := by
  obtain ⟨d, hd⟩ : ∃ d : Nat, n = m + d := ⟨(n - m).toNat, by omega⟩
  rw [ge2_iff x y (show n = ((m.toNat + d : Nat) : Int) - ((-m).toNat : Int) by omega)] at hg
  rw [ge2_iff x y (show m = (m.toNat : Int) - ((-m).toNat : Int) by omega)]
  refine Nat.le_trans (Nat.mul_le_mul_left _ (Nat.pow_le_pow_right (by decide) (Nat.le_add_right _ d))) hg
/-- the exponent of the greatest power of 2 that is not above X over Y -/
def HiIs (X Y : Nat) (h : Int) : Prop := (X = 0 ∧ h = -1074) ∨ (X ≠ 0 ∧ ge2 X Y h ∧ ¬ ge2 X Y (h + 1))
def HiAns (X Y : Nat) (w : World) (e : Ending) (w' : World) : Prop := ∃ h : Int, e = .returned (.int .i64 h) ∧ -20001 ≤ h ∧ h ≤ 20001 ∧ HiIs X Y h ∧ Below w.heap.size w w'
theorem ge2_cmp {X Y : Nat} {n : Int} : cm (X * 2 ^ (-n).toNat) (Y * 2 ^ n.toNat) < 0 ↔ ¬ ge2 X Y n := by
  unfold ge2 cm
  by_cases h : X * 2 ^ (-n).toNat < Y * 2 ^ n.toNat
  · rw [if_pos h]; constructor
    · intro _; omega
    · intro _; decide
  · rw [if_neg h]
    constructor
    · intro g; split at g <;> omega
    · intro g; omega
theorem mul_fits {X a s b : Nat} (h : X < 2 ^ a) (hs : s ≤ b) (hk : a + b ≤ b131) : X * 2 ^ s < big := by
  refine fits_of (k := a + s) ?_ (by omega)
  rw [Nat.pow_add]
  exact Nat.mul_lt_mul_of_pos_right h (Nat.two_pow_pos s)
def b20 : Nat := 20000
theorem b20_eq : b20 = 20000 := rfl

set_option maxRecDepth 100000 in
set_option maxHeartbeats 1000000 in
theorem highest_any (v u : Value) (X Y : Nat) (w : World) (hv : N w v X) (hu : N w u Y) (hX : X < 2 ^ b20) (hY : Y < 2 ^ b20) (h0 : 0 < Y) :
    Calls Tryz.prog 154 #[v, u] w (HiAns X Y w) := by
  have hXb : X < big := fits_of hX (by rw [b131_eq, b20_eq]; omega)
  have hYb : Y < big := fits_of hY (by rw [b131_eq, b20_eq]; omega)
  have HBX := Lib.hid (fbits_any v X w hv hXb)
  have HBY := Lib.hid (fbits_any u Y w hu hYb)
  have lx := bl_le hX
  have ly := bl_le hY
  rw [b20_eq] at lx ly
  have HR := Lib.hid (Below.refl w.heap.size w)
  by_cases hx0 : X = 0
  · have HA := Lib.hid (show HiIs X Y (-1074) from .inl ⟨hx0, rfl⟩)
    rw [hx0, bl_zero] at HBX
    clear hX hY hXb hYb hx0 hv hu
    go_enter Tryz.func154, Tryz.ntmps154
    go_wp2_with fail
    refine HBX.out.mono ?_
    rintro e w' ⟨rfl, rfl⟩
    go_wp2_with fail
    go_ret
    exact ⟨_, rfl, by omega, by omega, HA.out, HR.out⟩
  · obtain ⟨x1, x2⟩ := bl_ge hx0
    obtain ⟨y1, y2⟩ := bl_ge (show Y ≠ 0 by omega)
    obtain ⟨g1, g2⟩ := ge2_bits x1 x2 (bl_lt X) y1 y2 (bl_lt Y)
    obtain ⟨a, ha⟩ : ∃ a, bl X = a := ⟨_, rfl⟩
    obtain ⟨b, hb⟩ : ∃ b, bl Y = b := ⟨_, rfl⟩
    rw [ha] at g1 g2 lx x2 HBX
    rw [hb] at g1 g2 ly y2 HBY
    obtain ⟨n, hn⟩ : ∃ n : Int, (a : Int) - (b : Int) = n := ⟨_, rfl⟩
    have hnb : -20000 ≤ n ∧ n ≤ 20000 := by omega
    have hT := ftimesPower_any v u X Y (-n) w hv hu (by omega) (by omega) (mul_fits (b := b20) hX (by rw [b20_eq]; omega) (by rw [b131_eq, b20_eq]; omega)) (mul_fits (b := b20) hY (by rw [b20_eq]; omega) (by rw [b131_eq, b20_eq]; omega))
    rw [Int.neg_neg] at hT
    have hc := ge2_cmp (X := X) (Y := Y) (n := n)
    rw [show (a : Int) - (b : Int) - 1 = n - 1 by omega] at g1
    rw [show (a : Int) - (b : Int) + 1 = n + 1 by omega] at g2
    obtain ⟨P, hP⟩ : ∃ P, X * 2 ^ (-n).toNat = P := ⟨_, rfl⟩
    obtain ⟨Q, hQ⟩ : ∃ Q, Y * 2 ^ n.toNat = Q := ⟨_, rfl⟩
    rw [hP, hQ] at hT hc
    have HT := Lib.hid hT
    have HC := Lib.hid (fun W v1 u1 (h1 : N W v1 P) (h2 : N W u1 Q) => fcmp_any v1 u1 P Q W h1 h2)
    have k0 : ((a : Int) == 0) = false := by rw [beq_eq_false_iff_ne]; omega
    obtain ⟨hn1, hn2⟩ := hnb
    obtain ⟨c, hcc⟩ : ∃ c, cm P Q = c := ⟨_, rfl⟩
    rw [hcc] at hc HC
    clear hP hQ hT ha hb x1 x2 y1 y2 hX hY hXb hYb hv hu hcc
    by_cases hlt : c < 0
    · have HA := Lib.hid (show HiIs X Y (n - 1) from .inr ⟨hx0, g1, by rw [Int.sub_add_cancel]; exact hc.1 hlt⟩)
      clear hc g1 g2 hx0
      go_enter Tryz.func154, Tryz.ntmps154
      go_wp2_with fail
      refine HBX.out.mono ?_
      rintro e w' ⟨rfl, rfl⟩
      go_wp2_with fail
      refine HBX.out.mono ?_
      rintro e w' ⟨rfl, rfl⟩
      go_wp2_with fail
      refine HBY.out.mono ?_
      rintro e w' ⟨rfl, rfl⟩
      go_wp2_with fail
      refine HT.out.mono ?_
      rintro e w1 ⟨v1, u1, rfl, hN1, hN2, hb1⟩
      have HB1 := Lib.hid hb1
      have HNN := Lib.hid (And.intro hN1 hN2)
      clear hb1 hN1 hN2
      go_wp2_with fail
      refine (HC.out _ _ _ HNN.out.1 HNN.out.2).mono ?_
      rintro e w' ⟨rfl, j, rfl⟩
      go_wp2_with fail
      go_ret
      exact ⟨_, rfl, by omega, by omega, HA.out, drew_below HB1.out _⟩
    · have HA := Lib.hid (show HiIs X Y n from .inr ⟨hx0, by by_cases hg : ge2 X Y n; exact hg; exact absurd (hc.2 hg) hlt, g2⟩)
      clear hc g1 g2 hx0
      go_enter Tryz.func154, Tryz.ntmps154
      go_wp2_with fail
      refine HBX.out.mono ?_
      rintro e w' ⟨rfl, rfl⟩
      go_wp2_with fail
      refine HBX.out.mono ?_
      rintro e w' ⟨rfl, rfl⟩
      go_wp2_with fail
      refine HBY.out.mono ?_
      rintro e w' ⟨rfl, rfl⟩
      go_wp2_with fail
      refine HT.out.mono ?_
      rintro e w1 ⟨v1, u1, rfl, hN1, hN2, hb1⟩
      have HB1 := Lib.hid hb1
      have HNN := Lib.hid (And.intro hN1 hN2)
      clear hb1 hN1 hN2
      go_wp2_with fail
      refine (HC.out _ _ _ HNN.out.1 HNN.out.2).mono ?_
      rintro e w' ⟨rfl, j, rfl⟩
      go_wp2_with fail
      go_ret
      exact ⟨_, rfl, by omega, by omega, HA.out, drew_below HB1.out _⟩
end Go.Proofs.YtljbnnpmnoejeaaGreatDoor.nn
namespace Go.Proofs.YtljbnnpmnoejeaaGreatDoor.nn
open Go.RowKit

theorem ofInt_64 (a : Nat) (ha : a < 9223372036854775808) : (BitVec.ofInt 64 (a : Int)).toNat = a := by
  rw [BitVec.ofInt_natCast, BitVec.toNat_ofNat]
  exact Nat.mod_eq_of_lt (by omega)
theorem wrapi64_nat {n : Nat} (h : n < 9223372036854775808) : IntKind.i64.wrap (n : Int) = (n : Int) := IntWalk.i64_in _ ⟨by omega, by omega⟩
theorem i64_and_nat (a b : Nat) (ha : a < 9223372036854775808) (hb : b < 9223372036854775808) : bits .and .i64 (a : Int) (b : Int) = ((a &&& b : Nat) : Int) := by
  have hx : a &&& b < 2 ^ 63 := Nat.and_lt_two_pow _ (by omega)
  show IntKind.i64.wrap ((BitVec.ofInt 64 (a : Int) &&& BitVec.ofInt 64 (b : Int)).toNat : Int) = _
  rw [BitVec.toNat_and, ofInt_64 a ha, ofInt_64 b hb, wrapi64_nat (by omega)]
theorem and_mask (x k : Nat) : x &&& (2 ^ k - 1) = x % 2 ^ k := Nat.and_two_pow_sub_one_eq_mod x k
end Go.Proofs.YtljbnnpmnoejeaaGreatDoor.nn
namespace Go.Proofs.YtljbnnpmnoejeaaGreatDoor.nn

/-- bits of an exponent, of a fraction -/
def xb (w : Nat) : Nat := if w = 16 then 5 else if w = 32 then 8 else 11
def fb (w : Nat) : Nat := if w = 16 then 10 else if w = 32 then 23 else 52
/-- a width, and bits that it has -/
def wOk (w : Int) : Prop := w = 16 ∨ w = 32 ∨ w = 64
instance (w : Int) : Decidable (wOk w) := by unfold wOk; infer_instance
def fits (w : Int) (x : Nat) : Prop := wOk w ∧ (w < 64 → x < 2 ^ w.toNat)
instance (w : Int) (x : Nat) : Decidable (fits w x) := by unfold fits; infer_instance
def sg (w x : Nat) : Bool := decide (x / 2 ^ (xb w + fb w) = 1)
def ex (w x : Nat) : Nat := x / 2 ^ fb w % 2 ^ xb w
def fr (w x : Nat) : Nat := x % 2 ^ fb w
/-- what Parts answers -/
def paS (w : Int) (x : Nat) : Bool := if fits w x then sg w.toNat x else false
def paX (w : Int) (x : Nat) : Nat := if fits w x then ex w.toNat x else 0
def paF (w : Int) (x : Nat) : Nat := if fits w x then fr w.toNat x else 0
def paE (w : Int) (x : Nat) : Nat := if fits w x then 0 else 1
/-- the class of parts -/
def cls (w e m : Nat) : Nat := if e = 2 ^ xb w - 1 then (if m = 0 then 3 else 4) else if 0 < e then 2 else if 0 < m then 1 else 0
def clC (w : Int) (x : Nat) : Nat := if fits w x then cls w.toNat (ex w.toNat x) (fr w.toNat x) else 0
end Go.Proofs.YtljbnnpmnoejeaaGreatDoor.nn
namespace Go.Proofs.YtljbnnpmnoejeaaGreatDoor.nn
open Go.RowKit

theorem ne_int {c k : Int} (h : c ≠ k) : (c == k) = false := by simp [h]
set_option maxRecDepth 100000 in
theorem widths_any (k : Nat) (w : World) (hk : k = 16 ∨ k = 32 ∨ k = 64) :
    Calls Tryz.prog 181 #[.int .i64 (k : Int)] w fun e w' => e = .returned (.tuple #[.int .i64 (xb k : Int), .int .i64 (fb k : Int)]) ∧ w = w' := by
  rcases hk with rfl | rfl | rfl
  all_goals
    go_enter Tryz.func181, Tryz.ntmps181
    go_wp2
    go_ret2
    exact ⟨rfl, rfl⟩
set_option maxRecDepth 100000 in
theorem widths_no (k : Int) (w : World) (hk : ¬ wOk k) :
    Calls Tryz.prog 181 #[.int .i64 k] w fun e w' => e = .returned (.tuple #[.int .i64 0, .int .i64 0]) ∧ w = w' := by
  unfold wOk at hk
  have q0 := ne_int (c := k) (k := 16) (by omega)
  have q1 := ne_int (c := k) (k := 32) (by omega)
  have q2 := ne_int (c := k) (k := 64) (by omega)
  clear hk
  go_enter Tryz.func181, Tryz.ntmps181
  go_wp2
  go_ret2
  exact ⟨rfl, rfl⟩
def PaAns (w : Int) (x : Nat) (W : World) (e : Ending) (W' : World) : Prop := e = .returned (.tuple #[.bool (paS w x), .int .i64 (paX w x : Int), .int .u64 (paF w x : Int), .int .i64 (paE w x : Int)]) ∧ ∃ n, W' = W.drewN n
theorem beq_nat_div {x d : Nat} : ((x : Int) / (d : Int) == 1) = decide (x / d = 1) := by
  rw [← Int.natCast_ediv]
  by_cases h : x / d = 1
  · rw [h]; rfl
  · rw [decide_eq_false h]; simp; omega
theorem pa_fin {k : Nat} {x : Nat} {b : Bool} {i j : Int} (h : fits (k : Int) x) (h1 : b = sg k x) (h2 : i = (ex k x : Int)) (h3 : j = (fr k x : Int)) :
    Ending.returned (.tuple #[.bool b, .int .i64 i, .int .u64 j, .int .i64 0]) = .returned (.tuple #[.bool (paS (k : Int) x), .int .i64 (paX (k : Int) x : Int), .int .u64 (paF (k : Int) x : Int), .int .i64 (paE (k : Int) x : Int)]) := by
  unfold paS paX paF paE
  rw [if_pos h, if_pos h, if_pos h, if_pos h, Int.toNat_natCast, h1, h2, h3]
  rfl
theorem pa_no {k : Int} {x : Nat} (h : ¬ fits k x) : Ending.returned (.tuple #[.bool false, .int .i64 0, .int .u64 0, .int .i64 1]) = .returned (.tuple #[.bool (paS k x), .int .i64 (paX k x : Int), .int .u64 (paF k x : Int), .int .i64 (paE k x : Int)]) := by
  unfold paS paX paF paE
  rw [if_neg h, if_neg h, if_neg h, if_neg h]
  rfl
set_option maxRecDepth 100000 in
set_option maxHeartbeats 1000000 in
theorem rparts_any (k : Int) (x : Nat) (w : World) (hx : x < 18446744073709551616) :
    Calls Tryz.prog 142 #[.int .i64 k, .int .u64 (x : Int)] w (PaAns k x w) := by
  by_cases hk : wOk k
  · unfold wOk at hk
    rcases hk with rfl | rfl | rfl
    · have HW := Lib.hid (fun w => widths_any 16 w (by omega))
      rw [show xb 16 = 5 from rfl, show fb 16 = 10 from rfl] at HW
      by_cases h : x < 65536
      · have q1 : ((x : Int) / 65536 != 0) = false := by simp; omega
        have hok : fits (16 : Int) x := ⟨by unfold wOk; omega, fun _ => h⟩
        have hd : ((x : Int) / 32768 == 1) = sg 16 x := by
          unfold sg
          rw [show xb 16 + fb 16 = 15 from rfl, show (2 : Nat) ^ 15 = 32768 from rfl]
          exact beq_nat_div
        have hm : bits .and .i64 ((x : Int) / 1024) 31 = (ex 16 x : Int) := by
          unfold ex
          rw [show xb 16 = 5 from rfl, show fb 16 = 10 from rfl, show (2 : Nat) ^ 10 = 1024 from rfl]
          rw [show ((x : Int) / 1024) = ((x / 1024 : Nat) : Int) by omega]
          exact (i64_and_nat (x / 1024) 31 (by omega) (by decide)).trans (by rw [and_mask (x / 1024) 5])
        have hf : bits .and .u64 (x : Int) 1023 = (fr 16 x : Int) := by
          unfold fr
          rw [show fb 16 = 10 from rfl]
          exact (u64_and_nat x 1023 (by omega) (by decide)).trans (by rw [and_mask x 10])
        have HD := Lib.hid hd
        have HM := Lib.hid hm
        have HF := Lib.hid hf
        have HOK := Lib.hid hok
        clear hd hm hf hok
        go_enter Tryz.func142, Tryz.ntmps142
        go_wp2_with fail
        refine (HW.out _).mono ?_
        rintro e w1 ⟨rfl, rfl⟩
        go_wp2_with fail
        clear q1
        go_quiet (fail)
        go_wp2_with fail
        exact bodyPost_ret (v := .tuple #[.bool ((x : Int) / 32768 == 1), .int .i64 (bits .and .i64 ((x : Int) / 1024) 31), .int .u64 (bits .and .u64 (x : Int) 1023), .int .i64 0]) (by simp [results, Tryz.results142, go_sem]) rfl ⟨pa_fin HOK.out HD.out HM.out HF.out, nq, rfl⟩
      · have q1 : ((x : Int) / 65536 != 0) = true := by simp; omega
        have HNO : Hid (¬ fits (16 : Int) x) := Lib.hid fun h' => h (h'.2 (by decide))
        go_enter Tryz.func142, Tryz.ntmps142
        go_wp2_with fail
        refine (HW.out _).mono ?_
        rintro e w1 ⟨rfl, rfl⟩
        go_wp2_with fail
        exact bodyPost_ret (v := .tuple #[.bool false, .int .i64 0, .int .u64 0, .int .i64 1]) (by simp [results, Tryz.results142, go_sem]) rfl ⟨pa_no HNO.out, 0, rfl⟩
    · have HW := Lib.hid (fun w => widths_any 32 w (by omega))
      rw [show xb 32 = 8 from rfl, show fb 32 = 23 from rfl] at HW
      by_cases h : x < 4294967296
      · have q1 : ((x : Int) / 4294967296 != 0) = false := by simp; omega
        have hok : fits (32 : Int) x := ⟨by unfold wOk; omega, fun _ => h⟩
        have hd : ((x : Int) / 2147483648 == 1) = sg 32 x := by
          unfold sg
          rw [show xb 32 + fb 32 = 31 from rfl, show (2 : Nat) ^ 31 = 2147483648 from rfl]
          exact beq_nat_div
        have hm : bits .and .i64 ((x : Int) / 8388608) 255 = (ex 32 x : Int) := by
          unfold ex
          rw [show xb 32 = 8 from rfl, show fb 32 = 23 from rfl, show (2 : Nat) ^ 23 = 8388608 from rfl]
          rw [show ((x : Int) / 8388608) = ((x / 8388608 : Nat) : Int) by omega]
          exact (i64_and_nat (x / 8388608) 255 (by omega) (by decide)).trans (by rw [and_mask (x / 8388608) 8])
        have hf : bits .and .u64 (x : Int) 8388607 = (fr 32 x : Int) := by
          unfold fr
          rw [show fb 32 = 23 from rfl]
          exact (u64_and_nat x 8388607 (by omega) (by decide)).trans (by rw [and_mask x 23])
        have HD := Lib.hid hd
        have HM := Lib.hid hm
        have HF := Lib.hid hf
        have HOK := Lib.hid hok
        clear hd hm hf hok
        go_enter Tryz.func142, Tryz.ntmps142
        go_wp2_with fail
        refine (HW.out _).mono ?_
        rintro e w1 ⟨rfl, rfl⟩
        go_wp2_with fail
        clear q1
        go_quiet (fail)
        go_wp2_with fail
        exact bodyPost_ret (v := .tuple #[.bool ((x : Int) / 2147483648 == 1), .int .i64 (bits .and .i64 ((x : Int) / 8388608) 255), .int .u64 (bits .and .u64 (x : Int) 8388607), .int .i64 0]) (by simp [results, Tryz.results142, go_sem]) rfl ⟨pa_fin HOK.out HD.out HM.out HF.out, nq, rfl⟩
      · have q1 : ((x : Int) / 4294967296 != 0) = true := by simp; omega
        have HNO : Hid (¬ fits (32 : Int) x) := Lib.hid fun h' => h (h'.2 (by decide))
        go_enter Tryz.func142, Tryz.ntmps142
        go_wp2_with fail
        refine (HW.out _).mono ?_
        rintro e w1 ⟨rfl, rfl⟩
        go_wp2_with fail
        exact bodyPost_ret (v := .tuple #[.bool false, .int .i64 0, .int .u64 0, .int .i64 1]) (by simp [results, Tryz.results142, go_sem]) rfl ⟨pa_no HNO.out, 0, rfl⟩
    · have HW := Lib.hid (fun w => widths_any 64 w (by omega))
      rw [show xb 64 = 11 from rfl, show fb 64 = 52 from rfl] at HW
      have hok : fits (64 : Int) x := ⟨by unfold wOk; omega, fun h => absurd h (by decide)⟩
      have hd : ((x : Int) / 9223372036854775808 == 1) = sg 64 x := by
        unfold sg
        rw [show xb 64 + fb 64 = 63 from rfl, show (2 : Nat) ^ 63 = 9223372036854775808 from rfl]
        exact beq_nat_div
      have hm : bits .and .i64 ((x : Int) / 4503599627370496) 2047 = (ex 64 x : Int) := by
        unfold ex
        rw [show xb 64 = 11 from rfl, show fb 64 = 52 from rfl, show (2 : Nat) ^ 52 = 4503599627370496 from rfl]
        rw [show ((x : Int) / 4503599627370496) = ((x / 4503599627370496 : Nat) : Int) by omega]
        exact (i64_and_nat (x / 4503599627370496) 2047 (by omega) (by decide)).trans (by rw [and_mask (x / 4503599627370496) 11])
      have hf : bits .and .u64 (x : Int) 4503599627370495 = (fr 64 x : Int) := by
        unfold fr
        rw [show fb 64 = 52 from rfl]
        exact (u64_and_nat x 4503599627370495 (by omega) (by decide)).trans (by rw [and_mask x 52])
      have HD := Lib.hid hd
      have HM := Lib.hid hm
      have HF := Lib.hid hf
      have HOK := Lib.hid hok
      clear hd hm hf hok
      go_enter Tryz.func142, Tryz.ntmps142
      go_wp2_with fail
      refine (HW.out _).mono ?_
      rintro e w1 ⟨rfl, rfl⟩
      go_wp2_with fail
      go_quiet (fail)
      go_wp2_with fail
      exact bodyPost_ret (v := .tuple #[.bool ((x : Int) / 9223372036854775808 == 1), .int .i64 (bits .and .i64 ((x : Int) / 4503599627370496) 2047), .int .u64 (bits .and .u64 (x : Int) 4503599627370495), .int .i64 0]) (by simp [results, Tryz.results142, go_sem]) rfl ⟨pa_fin HOK.out HD.out HM.out HF.out, nq, rfl⟩
  · have HW := Lib.hid (fun w => widths_no k w hk)
    have HNO : Hid (¬ fits k x) := Lib.hid fun h' => hk h'.1
    clear hk
    go_enter Tryz.func142, Tryz.ntmps142
    go_wp2_with fail
    refine (HW.out _).mono ?_
    rintro e w1 ⟨rfl, rfl⟩
    go_wp2_with fail
    exact bodyPost_ret (v := .tuple #[.bool false, .int .i64 0, .int .u64 0, .int .i64 1]) (by simp [results, Tryz.results142, go_sem]) rfl ⟨pa_no HNO.out, 0, rfl⟩
end Go.Proofs.YtljbnnpmnoejeaaGreatDoor.nn
namespace Go.Proofs.YtljbnnpmnoejeaaGreatDoor.nn
open Go.RowKit

theorem drewN_below {B : Nat} {a w : World} (h : Below B a w) (j : Nat) : Below B a (w.drewN j) := ⟨h.os, h.tape, h.output, h.size, h.block⟩
def wx (k : Int) : Nat := if wOk k then xb k.toNat else 0
def wf (k : Int) : Nat := if wOk k then fb k.toNat else 0
theorem fr_lt {w x : Nat} : fr w x < 2 ^ fb w := Nat.mod_lt _ (Nat.two_pow_pos _)
theorem ex_lt {w x : Nat} : ex w x < 2 ^ xb w := Nat.mod_lt _ (Nat.two_pow_pos _)
def ClAns (k : Int) (x : Nat) (W : World) (e : Ending) (W' : World) : Prop := e = .returned (.tuple #[.int .i64 (clC k x : Int), .int .i64 (paE k x : Int)]) ∧ Below W.heap.size W W'
def cl5 (E X M : Nat) : Nat := if X = 2 ^ E - 1 then (if M = 0 then 3 else 4) else if 0 < X then 2 else if 0 < M then 1 else 0
/-- Parts where the bits fit, and where they don't -/
theorem rparts_ok (k : Int) (x : Nat) (w : World) (hx : x < 18446744073709551616) (hf : fits k x) :
    Calls Tryz.prog 142 #[.int .i64 k, .int .u64 (x : Int)] w fun e W' => e = .returned (.tuple #[.bool (sg k.toNat x), .int .i64 (ex k.toNat x : Int), .int .u64 (fr k.toNat x : Int), .int .i64 0]) ∧ Below w.heap.size w W' := by
  refine (rparts_any k x w hx).mono ?_
  rintro e W' ⟨he, n, rfl⟩
  unfold paS paX paF paE at he
  rw [if_pos hf, if_pos hf, if_pos hf, if_pos hf] at he
  exact ⟨he, drewN_below (Below.refl _ _) n⟩
theorem pow_up {a b : Nat} (h : a ≤ b) : 2 ^ a ≤ 2 ^ b := Nat.pow_le_pow_right (by decide) h
end Go.Proofs.YtljbnnpmnoejeaaGreatDoor.nn
namespace Go.Proofs.YtljbnnpmnoejeaaGreatDoor.nn
open Go.RowKit

theorem or_add (a b k : Nat) (ha : a % 2 ^ k = 0) (hb : b < 2 ^ k) : a ||| b = a + b := by
  obtain ⟨c, rfl⟩ : ∃ c, a = 2 ^ k * c := ⟨a / 2 ^ k, by have := Nat.div_add_mod a (2 ^ k); omega⟩
  rw [Nat.two_pow_add_eq_or_of_lt hb]
end Go.Proofs.YtljbnnpmnoejeaaGreatDoor.nn
namespace Go.Proofs.YtljbnnpmnoejeaaGreatDoor.nn
open Go.RowKit

def hid52 : Nat := 4503599627370496
/-- what Exact answers -/
def xaO (x : Nat) : Bool := decide (ex 64 x ≠ 2047)
def xaS (x : Nat) : Bool := if ex 64 x = 2047 then false else sg 64 x
def xaM (x : Nat) : Nat := if ex 64 x = 2047 then 0 else if ex 64 x = 0 then fr 64 x else fr 64 x + hid52
def xaE (x : Nat) : Int := if ex 64 x = 2047 then 0 else if ex 64 x = 0 then -1074 else (ex 64 x : Int) - 1075
def XaAns (x : Nat) (W : World) (e : Ending) (W' : World) : Prop := e = .returned (.tuple #[.bool (xaS x), .int .u64 (xaM x : Int), .int .i64 (xaE x), .bool (xaO x)]) ∧ Below W.heap.size W W'
theorem fits64 (x : Nat) : fits 64 x := ⟨by unfold wOk; omega, fun h => absurd h (by decide)⟩
theorem or_hid {m : Nat} (h : m < 4503599627370496) : bits .or .u64 (m : Int) 4503599627370496 = (m : Int) + 4503599627370496 := by
  have := u64_or_nat m 4503599627370496 (by omega) (by decide)
  rw [Nat.or_comm, or_add 4503599627370496 m 52 (by decide) (by omega), Nat.add_comm] at this
  exact this
set_option maxRecDepth 100000 in
set_option maxHeartbeats 1000000 in
theorem rexact_any (x : Nat) (w : World) (hx : x < 18446744073709551616) :
    Calls Tryz.prog 95 #[.int .u64 (x : Int)] w (XaAns x w) := by
  have HP := Lib.hid (rparts_ok 64 x w hx (fits64 x))
  have h1 := ex_lt (w := 64) (x := x)
  have h2 := fr_lt (w := 64) (x := x)
  rw [show Int.toNat 64 = 64 from rfl] at HP
  rw [show 2 ^ xb 64 = 2048 from rfl] at h1
  rw [show 2 ^ fb 64 = 4503599627370496 from rfl] at h2
  unfold XaAns xaO xaS xaM xaE hid52
  obtain ⟨X, hX⟩ : ∃ X, ex 64 x = X := ⟨_, rfl⟩
  obtain ⟨M, hM⟩ : ∃ M, fr 64 x = M := ⟨_, rfl⟩
  obtain ⟨S, hS⟩ : ∃ S, sg 64 x = S := ⟨_, rfl⟩
  rw [hX, hM, hS] at HP ⊢
  rw [hX] at h1
  rw [hM] at h2
  clear hX hM hS
  by_cases c1 : X = 2047
  · subst c1
    rw [if_pos rfl, if_pos rfl, if_pos rfl]
    go_enter Tryz.func95, Tryz.ntmps95
    go_wp2_with fail
    refine HP.out.mono ?_
    rintro e w1 ⟨rfl, hb⟩
    go_wp2_with fail
    exact bodyPost_ret (v := .tuple #[.bool false, .int .u64 0, .int .i64 0, .bool false]) (by simp [results, Tryz.results95, go_sem]) rfl ⟨rfl, hb⟩
  · have q1 := ne_int (c := (X : Int)) (k := 2047) (by omega)
    rw [if_neg c1, if_neg c1, if_neg c1, decide_eq_true c1]
    by_cases c0 : X = 0
    · subst c0
      rw [if_pos rfl, if_pos rfl]
      clear c1 q1
      go_enter Tryz.func95, Tryz.ntmps95
      go_wp2_with fail
      refine HP.out.mono ?_
      rintro e w1 ⟨rfl, hb⟩
      go_wp2_with fail
      exact bodyPost_ret (v := .tuple #[.bool S, .int .u64 (M : Int), .int .i64 (-1074), .bool true]) (by simp [results, Tryz.results95, go_sem]) rfl ⟨rfl, hb⟩
    · have q0 := ne_int (c := (X : Int)) (k := 0) (by omega)
      rw [if_neg c0, if_neg c0]
      have t1 := or_hid h2
      clear c1 c0
      go_enter Tryz.func95, Tryz.ntmps95
      go_wp2_with fail
      refine HP.out.mono ?_
      rintro e w1 ⟨rfl, hb⟩
      go_wp2_with fail
      exact bodyPost_ret (v := .tuple #[.bool S, .int .u64 ((M : Int) + 4503599627370496), .int .i64 ((X : Int) - 1075), .bool true]) (by simp [results, Tryz.results95, go_sem]) rfl ⟨rfl, hb⟩
end Go.Proofs.YtljbnnpmnoejeaaGreatDoor.nn
namespace Go.Proofs.YtljbnnpmnoejeaaGreatDoor.nn
open Go.RowKit

def bia (k : Nat) : Nat := if k = 16 then 15 else if k = 32 then 127 else 1023
/-- how far m goes to the left until its highest bit is bit 52 -/
def nrm (m : Nat) : Nat := 52 - m.log2
def clk (k x : Nat) : Nat := cl5 (xb k) (ex k x) (fr k x)
theorem nrm_lt {m t : Nat} (hm : 0 < m) (hb : m < 4503599627370496) : (t < nrm m ↔ m * 2 ^ t < 4503599627370496) := by
  have h1 := Nat.log2_self_le (n := m) (by omega)
  have h2 := Nat.lt_log2_self (n := m)
  have h3 : m.log2 < 52 := (Nat.log2_lt (by omega)).2 hb
  unfold nrm
  constructor
  · intro h
    have h4 : m * 2 ^ t < 2 ^ (m.log2 + 1) * 2 ^ t := Nat.mul_lt_mul_of_pos_right h2 (Nat.two_pow_pos t)
    rw [← Nat.pow_add] at h4
    have h5 : 2 ^ (m.log2 + 1 + t) ≤ 2 ^ 52 := pow_up (by omega)
    exact Nat.lt_of_lt_of_le h4 h5
  · intro h
    rcases Nat.lt_or_ge t (52 - m.log2) with h' | h'
    · exact h'
    · have h4 : 2 ^ m.log2 * 2 ^ t ≤ m * 2 ^ t := Nat.mul_le_mul_right _ h1
      rw [← Nat.pow_add] at h4
      have h5 : 2 ^ 52 ≤ 2 ^ (m.log2 + t) := pow_up (by omega)
      exact absurd (Nat.lt_of_le_of_lt (Nat.le_trans h5 h4) h) (by decide)
theorem nrm_hi {m : Nat} (hm : 0 < m) (hb : m < 4503599627370496) : m * 2 ^ nrm m < 9007199254740992 ∧ 4503599627370496 ≤ m * 2 ^ nrm m := by
  have h1 := Nat.log2_self_le (n := m) (by omega)
  have h2 := Nat.lt_log2_self (n := m)
  have h3 : m.log2 < 52 := (Nat.log2_lt (by omega)).2 hb
  unfold nrm
  have h4 : m * 2 ^ (52 - m.log2) < 2 ^ (m.log2 + 1) * 2 ^ (52 - m.log2) := Nat.mul_lt_mul_of_pos_right h2 (Nat.two_pow_pos _)
  have h5 : 2 ^ m.log2 * 2 ^ (52 - m.log2) ≤ m * 2 ^ (52 - m.log2) := Nat.mul_le_mul_right _ h1
  rw [← Nat.pow_add] at h4 h5
  rw [show m.log2 + 1 + (52 - m.log2) = 53 by omega] at h4
  rw [show m.log2 + (52 - m.log2) = 52 by omega] at h5
  rw [show (2 : Nat) ^ 53 = 9007199254740992 by decide] at h4
  rw [show (2 : Nat) ^ 52 = 4503599627370496 by decide] at h5
  exact ⟨h4, h5⟩
end Go.Proofs.YtljbnnpmnoejeaaGreatDoor.nn
namespace Go.Proofs.YtljbnnpmnoejeaaGreatDoor.nn
open Go.RowKit

/-- the shape of a width -/
def sv (k : Nat) : Value := .agg #[.int .i64 (k : Int), .int .i64 (xb k : Int), .int .i64 (fb k : Int)]
def kOk (k : Nat) : Prop := k = 16 ∨ k = 32 ∨ k = 64
def onz (k : Nat) : Nat := 2 ^ xb k - 1
def hdn (k : Nat) : Nat := 2 ^ fb k
theorem kOk.facts {k : Nat} (h : kOk k) : (k = 16 ∧ xb k = 5 ∧ fb k = 10 ∧ onz k = 31 ∧ bia k = 15 ∧ hdn k = 1024) ∨ (k = 32 ∧ xb k = 8 ∧ fb k = 23 ∧ onz k = 255 ∧ bia k = 127 ∧ hdn k = 8388608) ∨ (k = 64 ∧ xb k = 11 ∧ fb k = 52 ∧ onz k = 2047 ∧ bia k = 1023 ∧ hdn k = 4503599627370496) := by
  rcases h with rfl | rfl | rfl
  · exact .inl (by decide)
  · exact .inr (.inl (by decide))
  · exact .inr (.inr (by decide))
/-- the worlds behind a call's boxed shape -/
structure Bs (w : World) (k : Nat) (W : World) : Prop where
  c0 : W.cell? ⟨w.heap.size, 0, none⟩ = some (.int .i64 (k : Int))
  c1 : W.cell? ⟨w.heap.size, 1, none⟩ = some (.int .i64 (xb k : Int))
  c2 : W.cell? ⟨w.heap.size, 2, none⟩ = some (.int .i64 (fb k : Int))
  b : Below w.heap.size w W
  z : w.heap.size < W.heap.size
theorem Bs.new (w : World) (k : Nat) (T : TypeId) : Bs w k (w.alloc (.cells #[.int .i64 (k : Int), .int .i64 (xb k : Int), .int .i64 (fb k : Int)] T)) :=
  ⟨by simp, by simp, by simp, (Below.refl _ _).alloc (Nat.le_refl _) _, by simp⟩
theorem Bs.on {w W W' : World} {k : Nat} (h : Bs w k W) (hB : Below W.heap.size W W') : Bs w k W' :=
  ⟨(hB.cell (p := ⟨_, _, none⟩) h.z).trans h.c0, (hB.cell (p := ⟨_, _, none⟩) h.z).trans h.c1, (hB.cell (p := ⟨_, _, none⟩) h.z).trans h.c2, h.b.trans (hB.mono (Nat.le_of_lt h.z)), Nat.lt_of_lt_of_le h.z hB.size⟩
theorem Bs.drew {w W : World} {k : Nat} (h : Bs w k W) : Bs w k W.drew := h.on (Below.drew (Below.refl _ _))
theorem Bs.all {w W : World} {k : Nat} (h : Bs w k W) : W.cell? ⟨w.heap.size, 0, none⟩ = some (.int .i64 (k : Int)) ∧ W.cell? ⟨w.heap.size, 1, none⟩ = some (.int .i64 (xb k : Int)) ∧ W.cell? ⟨w.heap.size, 2, none⟩ = some (.int .i64 (fb k : Int)) ∧ Bs w k W := ⟨h.c0, h.c1, h.c2, h⟩
set_option maxRecDepth 100000 in
theorem ones_any (k : Nat) (w : World) (hk : kOk k) : Calls Tryz.prog 169 #[sv k] w fun e w' => e = .returned (.int .i64 (onz k : Int)) ∧ Below w.heap.size w w' := by
  have HA := Lib.hid (fun o => (Below.refl w.heap.size w).alloc (Nat.le_refl _) o)
  unfold kOk at hk
  rcases hk with rfl | rfl | rfl
  · show Calls _ _ #[.agg #[.int .i64 16, .int .i64 5, .int .i64 10]] _ _
    go_enter Tryz.func169, Tryz.ntmps169
    go_wp2
    go_ret
    exact ⟨rfl, HA.out _⟩
  · show Calls _ _ #[.agg #[.int .i64 32, .int .i64 8, .int .i64 23]] _ _
    go_enter Tryz.func169, Tryz.ntmps169
    go_wp2
    go_ret
    exact ⟨rfl, HA.out _⟩
  · show Calls _ _ #[.agg #[.int .i64 64, .int .i64 11, .int .i64 52]] _ _
    go_enter Tryz.func169, Tryz.ntmps169
    go_wp2
    go_ret
    exact ⟨rfl, HA.out _⟩
set_option maxRecDepth 100000 in
theorem hidden_any (k : Nat) (w : World) (hk : kOk k) : Calls Tryz.prog 170 #[sv k] w fun e w' => e = .returned (.int .u64 (hdn k : Int)) ∧ Below w.heap.size w w' := by
  have HA := Lib.hid (fun o => (Below.refl w.heap.size w).alloc (Nat.le_refl _) o)
  unfold kOk at hk
  rcases hk with rfl | rfl | rfl
  · show Calls _ _ #[.agg #[.int .i64 16, .int .i64 5, .int .i64 10]] _ _
    go_enter Tryz.func170, Tryz.ntmps170
    go_wp2
    go_ret
    exact ⟨rfl, HA.out _⟩
  · show Calls _ _ #[.agg #[.int .i64 32, .int .i64 8, .int .i64 23]] _ _
    go_enter Tryz.func170, Tryz.ntmps170
    go_wp2
    go_ret
    exact ⟨rfl, HA.out _⟩
  · show Calls _ _ #[.agg #[.int .i64 64, .int .i64 11, .int .i64 52]] _ _
    go_enter Tryz.func170, Tryz.ntmps170
    go_wp2
    go_ret
    exact ⟨rfl, HA.out _⟩
set_option maxRecDepth 100000 in
theorem bias_any (k : Nat) (w : World) (hk : kOk k) : Calls Tryz.prog 190 #[sv k] w fun e w' => e = .returned (.int .i64 (bia k : Int)) ∧ Below w.heap.size w w' := by
  have hf := hk.facts
  have HQ : Hid ((onz k : Int) / 2 = (bia k : Int)) := Lib.hid (by omega)
  have ho : (onz k : Int) ≤ 2047 := by omega
  have HO := Lib.hid (fun W => ones_any k W hk)
  have HB := Lib.hid (Bs.new w k)
  unfold sv at HO ⊢
  clear hf
  go_enter Tryz.func190, Tryz.ntmps190
  go_wp2_with fail
  refine (HO.out _).mono ?_
  rintro e w1 ⟨rfl, hb⟩
  have H1 := Lib.hid ((HB.out _).on hb)
  clear hb
  go_wp2_with fail
  go_ret
  exact ⟨ret_int HQ.out, H1.out.b⟩
set_option maxRecDepth 100000 in
set_option maxHeartbeats 400000 in
theorem leastUnit_any (k : Nat) (w : World) (hk : kOk k) : Calls Tryz.prog 171 #[sv k] w fun e w' => e = .returned (.int .i64 (1 - (bia k : Int) - (fb k : Int))) ∧ Below w.heap.size w w' := by
  have hf := hk.facts
  have h1 : (bia k : Int) ≤ 1023 := by omega
  have h2 : (fb k : Int) ≤ 52 := by omega
  have HC : Hid (∀ W, Bs w k W → Calls Tryz.prog 190 #[sv k] W fun e w' => e = .returned (.int .i64 (bia k : Int)) ∧ Bs w k w') := Lib.hid fun W hW => (bias_any k W hk).mono fun e w' ⟨he, hb⟩ => ⟨he, hW.on hb⟩
  have HB := Lib.hid (Bs.new w k)
  unfold sv at HC ⊢
  clear hf
  have q1 : IntKind.i64.wrap (1 - (bia k : Int)) = 1 - (bia k : Int) := IntWalk.i64_in _ (by omega)
  have q2 : IntKind.i64.wrap (1 - (bia k : Int) - (fb k : Int)) = 1 - (bia k : Int) - (fb k : Int) := IntWalk.i64_in _ (by omega)
  go_enter Tryz.func171, Tryz.ntmps171
  go_wp2_with fail
  have hb0 := HB.out 164
  generalize w.alloc _ = W0 at hb0 ⊢
  have hb1 := hb0.drew
  have hb := hb1.all
  go_region_held3 (fun W => W.cell? ⟨w.heap.size, 0, none⟩ = some (.int .i64 (k : Int)) ∧ W.cell? ⟨w.heap.size, 1, none⟩ = some (.int .i64 (xb k : Int)) ∧ W.cell? ⟨w.heap.size, 2, none⟩ = some (.int .i64 (fb k : Int)) ∧ Bs w k W) (first | exact Bs.all ‹_› | exact Bs.all (And.right ‹_›))
    (first | (go_at_call 190; with_reducible refine (HC.out _ ?_).mono ?_; (first | assumption | exact And.right ‹_›); rintro e w' ⟨rfl, hk5⟩))
  go_wp2_with fail
  go_ret
  exact ⟨rfl, (by assumption : Bs w k _).b⟩
end Go.Proofs.YtljbnnpmnoejeaaGreatDoor.nn
namespace Go.Proofs.YtljbnnpmnoejeaaGreatDoor.nn
open Go.RowKit

def InAns (r : Bool × Nat × Bool) (W : World) (e : Ending) (W' : World) : Prop := e = .returned (.tuple #[.bool r.1, .int .u64 (r.2.1 : Int), .bool r.2.2]) ∧ Below W.heap.size W W'
theorem InAns.mk {r : Bool × Nat × Bool} {a c : Bool} {b : Int} {W W' : World} (h1 : r.1 = a) (h2 : (r.2.1 : Int) = b) (h3 : r.2.2 = c) (hb : Below W.heap.size W W') : InAns r W (.returned (.tuple #[.bool a, .int .u64 b, .bool c])) W' := by
  unfold InAns
  rw [h1, h2, h3]
  exact ⟨rfl, hb⟩
end Go.Proofs.YtljbnnpmnoejeaaGreatDoor.nn
namespace Go.Proofs.YtljbnnpmnoejeaaGreatDoor.nn

/-! parts and bits -/
theorem b52 : (2 : Nat) ^ 52 = 4503599627370496 := by decide
/-! widened and narrowed, in parts -/
/-- a width's parts: bits of an exponent, of a fraction; what is taken from the exponent; the exponents' number -/
structure Wd (E F B T : Nat) : Prop where
  e : 2 ^ (E - 1) - 1 = B
  t : 2 ^ E = T
  bt : T = 2 * B + 2
  b : 1 ≤ B ∧ B ≤ 127
  f : 1 ≤ F ∧ F ≤ 23 ∧ F ≤ B
/-- the wider parts -/
def wX (B T F X M : Nat) : Nat := if X = T - 1 then 2047 else if 0 < X then X + 1023 - B else if 0 < M then 1024 - B - nrm (M * 2 ^ (52 - F)) else 0
def wM (T F X M : Nat) : Nat := if X = T - 1 ∨ 0 < X then M * 2 ^ (52 - F) else if 0 < M then M * 2 ^ (52 - F) * 2 ^ nrm (M * 2 ^ (52 - F)) - 4503599627370496 else 0
section
variable {E F B T X M : Nat}
theorem Wd.small (_ : Wd E F B T) (hM : M < 2 ^ F) (h0 : 0 < M) : 0 < M * 2 ^ (52 - F) ∧ M * 2 ^ (52 - F) < 4503599627370496 ∧ 2 ^ (52 - F) ≤ M * 2 ^ (52 - F) := by
  have hF := (‹Wd E F B T›).f
  have hp := Nat.two_pow_pos (52 - F)
  refine ⟨Nat.mul_pos h0 hp, ?_, Nat.le_mul_of_pos_left _ h0⟩
  rw [← b52, show 52 = F + (52 - F) by omega, Nat.pow_add, show F + (52 - F) - F = 52 - F by omega]
  exact Nat.mul_lt_mul_of_pos_right hM hp
theorem nrm_pos {m : Nat} (hm : 0 < m) (hb : m < 4503599627370496) : 1 ≤ nrm m := (nrm_lt hm hb).2 (by simpa using hb)
theorem Wd.nrm_le (h : Wd E F B T) (hM : M < 2 ^ F) (h0 : 0 < M) : nrm (M * 2 ^ (52 - F)) ≤ F := by
  obtain ⟨s1, s2, s3⟩ := h.small hM h0
  have hF := h.f
  rcases Nat.lt_or_ge F (nrm (M * 2 ^ (52 - F))) with h' | h'
  · have h1 := (nrm_lt s1 s2).1 h'
    have h2 : 2 ^ (52 - F) * 2 ^ F ≤ M * 2 ^ (52 - F) * 2 ^ F := Nat.mul_le_mul_right _ s3
    rw [← Nat.pow_add, show 52 - F + F = 52 by omega, b52] at h2
    omega
  · exact h'
/-- the wider parts are parts -/
theorem Wd.wide (h : Wd E F B T) (hX : X < T) (hM : M < 2 ^ F) : wX B T F X M ≤ 2047 ∧ wM T F X M < 4503599627370496 := by
  have hF := h.f
  have hB := h.b
  have hbt := h.bt
  have hp := Nat.two_pow_pos (52 - F)
  have hm : M * 2 ^ (52 - F) < 4503599627370496 := by
    rw [← b52, show 52 = F + (52 - F) by omega, Nat.pow_add, show F + (52 - F) - F = 52 - F by omega]
    exact Nat.mul_lt_mul_of_pos_right hM hp
  unfold wX wM
  by_cases c1 : X = T - 1
  · rw [if_pos c1, if_pos (.inl c1)]; exact ⟨Nat.le_refl _, hm⟩
  · rw [if_neg c1]
    by_cases c2 : 0 < X
    · rw [if_pos c2, if_pos (.inr c2)]; exact ⟨by omega, hm⟩
    · rw [if_neg c2, if_neg (show ¬ (X = T - 1 ∨ 0 < X) by omega)]
      by_cases c3 : 0 < M
      · obtain ⟨s1, s2, _⟩ := h.small hM c3
        have := nrm_hi s1 s2
        rw [if_pos c3, if_pos c3]; omega
      · rw [if_neg c3, if_neg c3]; omega
end
end Go.Proofs.YtljbnnpmnoejeaaGreatDoor.nn
namespace Go.Proofs.YtljbnnpmnoejeaaGreatDoor.nn
open Go.RowKit

def lim (k : Nat) : Nat := if k = 16 then 65536 else if k = 32 then 4294967296 else 18446744073709551616
theorem ret_spl {a c : Bool} {i j m n : Int} (h1 : a = c) (h2 : i = j) (h3 : m = n) : Ending.returned (.tuple #[.bool a, .int .i64 i, .int .u64 m]) = .returned (.tuple #[.bool c, .int .i64 j, .int .u64 n]) := by rw [h1, h2, h3]
theorem ne_nat_div {x d : Nat} (hx : x < 2 * d) : ((x : Int) / (d : Int) != 0) = decide (x / d = 1) := by
  rw [← Int.natCast_ediv]
  have hd : 0 < d := by omega
  have h2 : x / d < 2 := Nat.div_lt_of_lt_mul (by omega)
  generalize x / d = q at h2 ⊢
  by_cases h : q = 1
  · rw [h]; rfl
  · have h0 : q = 0 := by omega
    rw [decide_eq_false h, h0]
    rfl
set_option maxRecDepth 100000 in
set_option maxHeartbeats 1000000 in
theorem split_16 (x : Nat) (w : World) (hx : x < 65536) : Calls Tryz.prog 129 #[sv 16, .int .u64 (x : Int)] w fun e w' => e = .returned (.tuple #[.bool (sg 16 x), .int .i64 (ex 16 x : Int), .int .u64 (fr 16 x : Int)]) ∧ Below w.heap.size w w' := by
  have hk : kOk 16 := by unfold kOk; omega
  have hd : ((x : Int) / 32768 != 0) = sg 16 x := by
    unfold sg
    rw [show xb 16 + fb 16 = 15 from rfl, show (2 : Nat) ^ 15 = 32768 from rfl]
    exact ne_nat_div (d := 32768) (by omega)
  have hm : bits .and .i64 ((x : Int) / 1024) 31 = (ex 16 x : Int) := by
    unfold ex
    rw [show xb 16 = 5 from rfl, show fb 16 = 10 from rfl, show (2 : Nat) ^ 10 = 1024 from rfl]
    rw [show ((x : Int) / 1024) = ((x / 1024 : Nat) : Int) by omega]
    exact (i64_and_nat (x / 1024) 31 (by omega) (by decide)).trans (by rw [and_mask (x / 1024) 5])
  have hf : bits .and .u64 (x : Int) 1023 = (fr 16 x : Int) := by
    unfold fr
    rw [show fb 16 = 10 from rfl]
    exact (u64_and_nat x 1023 (by omega) (by decide)).trans (by rw [and_mask x 10])
  have hw : IntKind.i64.wrap ((x : Int) / 1024) = (x : Int) / 1024 := IntWalk.i64_in _ (by omega)
  have HD := Lib.hid hd
  have HM := Lib.hid hm
  have HF := Lib.hid hf
  have hO : ∀ W, Bs w 16 W → Calls Tryz.prog 169 #[sv 16] W fun e w' => e = .returned (.int .i64 31) ∧ Bs w 16 w' := fun W hW => (ones_any 16 W hk).mono fun e w' ⟨he, hb⟩ => ⟨he, hW.on hb⟩
  have hI : ∀ W, Bs w 16 W → Calls Tryz.prog 170 #[sv 16] W fun e w' => e = .returned (.int .u64 1024) ∧ Bs w 16 w' := fun W hW => (hidden_any 16 W hk).mono fun e w' ⟨he, hb⟩ => ⟨he, hW.on hb⟩
  rw [show sv 16 = .agg #[.int .i64 16, .int .i64 5, .int .i64 10] from rfl] at hO hI ⊢
  have HO := Lib.hid hO
  have HI := Lib.hid hI
  have HB : Hid (∀ T, Bs w 16 (w.alloc (.cells #[.int .i64 16, .int .i64 5, .int .i64 10] T))) := Lib.hid (Bs.new w 16)
  have HL : Hid (∀ W, Bs w 16 W → W.cell? ⟨w.heap.size, 0, none⟩ = some (.int .i64 16) ∧ W.cell? ⟨w.heap.size, 1, none⟩ = some (.int .i64 5) ∧ W.cell? ⟨w.heap.size, 2, none⟩ = some (.int .i64 10) ∧ Bs w 16 W) := Lib.hid fun W hW => hW.all
  clear hd hm hf hO hI hk
  go_enter Tryz.func129, Tryz.ntmps129
  go_wp2_with fail
  have hb0 := HB.out 164
  generalize w.alloc _ = W0 at hb0 ⊢
  have hb1 := hb0.drew
  have hb := HL.out _ hb1
  go_region_held3 (fun W => W.cell? ⟨w.heap.size, 0, none⟩ = some (.int .i64 16) ∧ W.cell? ⟨w.heap.size, 1, none⟩ = some (.int .i64 5) ∧ W.cell? ⟨w.heap.size, 2, none⟩ = some (.int .i64 10) ∧ Bs w 16 W) (first | exact HL.out _ ‹_› | exact HL.out _ (And.right ‹_›))
    (first | (go_at_call 169; with_reducible refine (HO.out _ ?_).mono ?_; (first | assumption | exact And.right ‹_›); rintro e w' ⟨rfl, hk5⟩))
  go_wp2_with fail
  with_reducible refine (HI.out _ (by assumption)).mono ?_
  rintro e w2 ⟨rfl, hk6⟩
  go_wp2_with fail
  exact bodyPost_ret (v := .tuple #[.bool ((x : Int) / 32768 != 0), .int .i64 (bits .and .i64 ((x : Int) / 1024) 31), .int .u64 (bits .and .u64 (x : Int) 1023)]) (by simp [results, Tryz.results129, go_sem]) rfl ⟨ret_spl HD.out HM.out HF.out, hk6.b⟩

set_option maxRecDepth 100000 in
set_option maxHeartbeats 1000000 in
theorem split_32 (x : Nat) (w : World) (hx : x < 4294967296) : Calls Tryz.prog 129 #[sv 32, .int .u64 (x : Int)] w fun e w' => e = .returned (.tuple #[.bool (sg 32 x), .int .i64 (ex 32 x : Int), .int .u64 (fr 32 x : Int)]) ∧ Below w.heap.size w w' := by
  have hk : kOk 32 := by unfold kOk; omega
  have hd : ((x : Int) / 2147483648 != 0) = sg 32 x := by
    unfold sg
    rw [show xb 32 + fb 32 = 31 from rfl, show (2 : Nat) ^ 31 = 2147483648 from rfl]
    exact ne_nat_div (d := 2147483648) (by omega)
  have hm : bits .and .i64 ((x : Int) / 8388608) 255 = (ex 32 x : Int) := by
    unfold ex
    rw [show xb 32 = 8 from rfl, show fb 32 = 23 from rfl, show (2 : Nat) ^ 23 = 8388608 from rfl]
    rw [show ((x : Int) / 8388608) = ((x / 8388608 : Nat) : Int) by omega]
    exact (i64_and_nat (x / 8388608) 255 (by omega) (by decide)).trans (by rw [and_mask (x / 8388608) 8])
  have hf : bits .and .u64 (x : Int) 8388607 = (fr 32 x : Int) := by
    unfold fr
    rw [show fb 32 = 23 from rfl]
    exact (u64_and_nat x 8388607 (by omega) (by decide)).trans (by rw [and_mask x 23])
  have hw : IntKind.i64.wrap ((x : Int) / 8388608) = (x : Int) / 8388608 := IntWalk.i64_in _ (by omega)
  have HD := Lib.hid hd
  have HM := Lib.hid hm
  have HF := Lib.hid hf
  have hO : ∀ W, Bs w 32 W → Calls Tryz.prog 169 #[sv 32] W fun e w' => e = .returned (.int .i64 255) ∧ Bs w 32 w' := fun W hW => (ones_any 32 W hk).mono fun e w' ⟨he, hb⟩ => ⟨he, hW.on hb⟩
  have hI : ∀ W, Bs w 32 W → Calls Tryz.prog 170 #[sv 32] W fun e w' => e = .returned (.int .u64 8388608) ∧ Bs w 32 w' := fun W hW => (hidden_any 32 W hk).mono fun e w' ⟨he, hb⟩ => ⟨he, hW.on hb⟩
  rw [show sv 32 = .agg #[.int .i64 32, .int .i64 8, .int .i64 23] from rfl] at hO hI ⊢
  have HO := Lib.hid hO
  have HI := Lib.hid hI
  have HB : Hid (∀ T, Bs w 32 (w.alloc (.cells #[.int .i64 32, .int .i64 8, .int .i64 23] T))) := Lib.hid (Bs.new w 32)
  have HL : Hid (∀ W, Bs w 32 W → W.cell? ⟨w.heap.size, 0, none⟩ = some (.int .i64 32) ∧ W.cell? ⟨w.heap.size, 1, none⟩ = some (.int .i64 8) ∧ W.cell? ⟨w.heap.size, 2, none⟩ = some (.int .i64 23) ∧ Bs w 32 W) := Lib.hid fun W hW => hW.all
  clear hd hm hf hO hI hk
  go_enter Tryz.func129, Tryz.ntmps129
  go_wp2_with fail
  have hb0 := HB.out 164
  generalize w.alloc _ = W0 at hb0 ⊢
  have hb1 := hb0.drew
  have hb := HL.out _ hb1
  go_region_held3 (fun W => W.cell? ⟨w.heap.size, 0, none⟩ = some (.int .i64 32) ∧ W.cell? ⟨w.heap.size, 1, none⟩ = some (.int .i64 8) ∧ W.cell? ⟨w.heap.size, 2, none⟩ = some (.int .i64 23) ∧ Bs w 32 W) (first | exact HL.out _ ‹_› | exact HL.out _ (And.right ‹_›))
    (first | (go_at_call 169; with_reducible refine (HO.out _ ?_).mono ?_; (first | assumption | exact And.right ‹_›); rintro e w' ⟨rfl, hk5⟩))
  go_wp2_with fail
  with_reducible refine (HI.out _ (by assumption)).mono ?_
  rintro e w2 ⟨rfl, hk6⟩
  go_wp2_with fail
  exact bodyPost_ret (v := .tuple #[.bool ((x : Int) / 2147483648 != 0), .int .i64 (bits .and .i64 ((x : Int) / 8388608) 255), .int .u64 (bits .and .u64 (x : Int) 8388607)]) (by simp [results, Tryz.results129, go_sem]) rfl ⟨ret_spl HD.out HM.out HF.out, hk6.b⟩
set_option maxRecDepth 100000 in
set_option maxHeartbeats 1000000 in
theorem split_64 (x : Nat) (w : World) (hx : x < 18446744073709551616) : Calls Tryz.prog 129 #[sv 64, .int .u64 (x : Int)] w fun e w' => e = .returned (.tuple #[.bool (sg 64 x), .int .i64 (ex 64 x : Int), .int .u64 (fr 64 x : Int)]) ∧ Below w.heap.size w w' := by
  have hk : kOk 64 := by unfold kOk; omega
  have hd : ((x : Int) / 9223372036854775808 != 0) = sg 64 x := by
    unfold sg
    rw [show xb 64 + fb 64 = 63 from rfl, show (2 : Nat) ^ 63 = 9223372036854775808 from rfl]
    exact ne_nat_div (d := 9223372036854775808) (by omega)
  have hm : bits .and .i64 ((x : Int) / 4503599627370496) 2047 = (ex 64 x : Int) := by
    unfold ex
    rw [show xb 64 = 11 from rfl, show fb 64 = 52 from rfl, show (2 : Nat) ^ 52 = 4503599627370496 from rfl]
    rw [show ((x : Int) / 4503599627370496) = ((x / 4503599627370496 : Nat) : Int) by omega]
    exact (i64_and_nat (x / 4503599627370496) 2047 (by omega) (by decide)).trans (by rw [and_mask (x / 4503599627370496) 11])
  have hf : bits .and .u64 (x : Int) 4503599627370495 = (fr 64 x : Int) := by
    unfold fr
    rw [show fb 64 = 52 from rfl]
    exact (u64_and_nat x 4503599627370495 (by omega) (by decide)).trans (by rw [and_mask x 52])
  have hw : IntKind.i64.wrap ((x : Int) / 4503599627370496) = (x : Int) / 4503599627370496 := IntWalk.i64_in _ (by omega)
  have HD := Lib.hid hd
  have HM := Lib.hid hm
  have HF := Lib.hid hf
  have hO : ∀ W, Bs w 64 W → Calls Tryz.prog 169 #[sv 64] W fun e w' => e = .returned (.int .i64 2047) ∧ Bs w 64 w' := fun W hW => (ones_any 64 W hk).mono fun e w' ⟨he, hb⟩ => ⟨he, hW.on hb⟩
  have hI : ∀ W, Bs w 64 W → Calls Tryz.prog 170 #[sv 64] W fun e w' => e = .returned (.int .u64 4503599627370496) ∧ Bs w 64 w' := fun W hW => (hidden_any 64 W hk).mono fun e w' ⟨he, hb⟩ => ⟨he, hW.on hb⟩
  rw [show sv 64 = .agg #[.int .i64 64, .int .i64 11, .int .i64 52] from rfl] at hO hI ⊢
  have HO := Lib.hid hO
  have HI := Lib.hid hI
  have HB : Hid (∀ T, Bs w 64 (w.alloc (.cells #[.int .i64 64, .int .i64 11, .int .i64 52] T))) := Lib.hid (Bs.new w 64)
  have HL : Hid (∀ W, Bs w 64 W → W.cell? ⟨w.heap.size, 0, none⟩ = some (.int .i64 64) ∧ W.cell? ⟨w.heap.size, 1, none⟩ = some (.int .i64 11) ∧ W.cell? ⟨w.heap.size, 2, none⟩ = some (.int .i64 52) ∧ Bs w 64 W) := Lib.hid fun W hW => hW.all
  clear hd hm hf hO hI hk
  go_enter Tryz.func129, Tryz.ntmps129
  go_wp2_with fail
  have hb0 := HB.out 164
  generalize w.alloc _ = W0 at hb0 ⊢
  have hb1 := hb0.drew
  have hb := HL.out _ hb1
  go_region_held3 (fun W => W.cell? ⟨w.heap.size, 0, none⟩ = some (.int .i64 64) ∧ W.cell? ⟨w.heap.size, 1, none⟩ = some (.int .i64 11) ∧ W.cell? ⟨w.heap.size, 2, none⟩ = some (.int .i64 52) ∧ Bs w 64 W) (first | exact HL.out _ ‹_› | exact HL.out _ (And.right ‹_›))
    (first | (go_at_call 169; with_reducible refine (HO.out _ ?_).mono ?_; (first | assumption | exact And.right ‹_›); rintro e w' ⟨rfl, hk5⟩))
  go_wp2_with fail
  with_reducible refine (HI.out _ (by assumption)).mono ?_
  rintro e w2 ⟨rfl, hk6⟩
  go_wp2_with fail
  exact bodyPost_ret (v := .tuple #[.bool ((x : Int) / 9223372036854775808 != 0), .int .i64 (bits .and .i64 ((x : Int) / 4503599627370496) 2047), .int .u64 (bits .and .u64 (x : Int) 4503599627370495)]) (by simp [results, Tryz.results129, go_sem]) rfl ⟨ret_spl HD.out HM.out HF.out, hk6.b⟩
theorem split_any (k x : Nat) (w : World) (hk : kOk k) (hx : x < lim k) : Calls Tryz.prog 129 #[sv k, .int .u64 (x : Int)] w fun e w' => e = .returned (.tuple #[.bool (sg k x), .int .i64 (ex k x : Int), .int .u64 (fr k x : Int)]) ∧ Below w.heap.size w w' := by
  rcases hk with rfl | rfl | rfl
  · exact split_16 x w hx
  · exact split_32 x w hx
  · exact split_64 x w hx
end Go.Proofs.YtljbnnpmnoejeaaGreatDoor.nn
namespace Go.Proofs.YtljbnnpmnoejeaaGreatDoor.nn
open Go.RowKit

set_option maxRecDepth 100000 in
set_option maxHeartbeats 2000000 in
theorem class_walk (k x : Nat) (w : World) (S : Bool) (X M : Nat) (hk : kOk k) (_ : M < 18446744073709551616) (_ : X < 4096)
    (HS : Hid (∀ W, Calls Tryz.prog 129 #[sv k, .int .u64 (x : Int)] W fun e w' => e = .returned (.tuple #[.bool S, .int .i64 (X : Int), .int .u64 (M : Int)]) ∧ Below W.heap.size W w')) :
    Calls Tryz.prog 128 #[sv k, .int .u64 (x : Int)] w fun e w' => e = .returned (.int .i64 (cl5 (xb k) X M : Int)) ∧ Below w.heap.size w w' := by
  obtain ⟨R, hR⟩ : ∃ R, cl5 (xb k) X M = R := ⟨_, rfl⟩
  rw [hR]
  unfold cl5 at hR
  rw [show 2 ^ xb k - 1 = onz k from rfl] at hR
  have HO := Lib.hid (fun W => ones_any k W hk)
  have HB := Lib.hid (Bs.new w k)
  have hT := hk.facts
  have hT2 : onz k ≤ 2047 := by omega
  unfold sv at HO HS ⊢
  obtain ⟨T, hTT⟩ : ∃ T, onz k = T := ⟨_, rfl⟩
  rw [hTT] at HO hR hT2
  clear hT hTT
  by_cases h1 : X = T
  · have q1 : ((X : Int) == (T : Int)) = true := by rw [h1]; simp
    rw [if_pos h1] at hR
    by_cases h2 : M = 0
    · rw [if_pos h2] at hR
      have q2 : ((M : Int) != 0) = false := by rw [h2]; rfl
      subst hR
      clear h1 h2
      go_enter Tryz.func128, Tryz.ntmps128
      go_wp2_with fail
      refine (HS.out _).mono ?_
      rintro e w1 ⟨rfl, hb⟩
      have H1 := Lib.hid ((HB.out _).on hb)
      have hc := H1.out.all
      clear hb
      go_wp2_with fail
      refine (HO.out _).mono ?_
      rintro e w2 ⟨rfl, hb⟩
      have H2 := Lib.hid (H1.out.on hb)
      have hc2 := H2.out.all
      clear hb hc
      go_wp2_with fail
      refine (HO.out _).mono ?_
      rintro e w3 ⟨rfl, hb⟩
      have H3 := Lib.hid (H2.out.on hb)
      clear hb hc2
      go_wp2_with fail
      go_ret
      exact ⟨rfl, H3.out.b⟩
    · rw [if_neg h2] at hR
      have q2 : ((M : Int) != 0) = true := by simp; omega
      subst hR
      clear h1 h2
      go_enter Tryz.func128, Tryz.ntmps128
      go_wp2_with fail
      refine (HS.out _).mono ?_
      rintro e w1 ⟨rfl, hb⟩
      have H1 := Lib.hid ((HB.out _).on hb)
      have hc := H1.out.all
      clear hb
      go_wp2_with fail
      refine (HO.out _).mono ?_
      rintro e w2 ⟨rfl, hb⟩
      have H2 := Lib.hid (H1.out.on hb)
      have hc2 := H2.out.all
      clear hb hc
      go_wp2_with fail
      go_ret
      exact ⟨rfl, H2.out.b⟩
  · have q1 : ((X : Int) == (T : Int)) = false := by simp; omega
    rw [if_neg h1] at hR
    obtain ⟨B1, hB1⟩ : ∃ B1, ((X : Int) != 0) = B1 := ⟨_, rfl⟩
    obtain ⟨B2, hB2⟩ : ∃ B2, ((M : Int) != 0) = B2 := ⟨_, rfl⟩
    have HR : Hid (R = if B1 then 2 else if B2 then 1 else 0) := Lib.hid (by
      rw [← hR, ← hB1, ← hB2]
      by_cases c1 : X = 0
      · by_cases c2 : M = 0
        · simp [c1, c2]
        · simp [c1, c2]
      · simp [c1])
    clear h1 hR
    cases B1 <;> cases B2
    all_goals
      go_enter Tryz.func128, Tryz.ntmps128
      go_wp2_with fail
      refine (HS.out _).mono ?_
      rintro e w1 ⟨rfl, hb⟩
      have H1 := Lib.hid ((HB.out _).on hb)
      have hc := H1.out.all
      clear hb
      go_wp2_with fail
      refine (HO.out _).mono ?_
      rintro e w2 ⟨rfl, hb⟩
      have H2 := Lib.hid (H1.out.on hb)
      have hc2 := H2.out.all
      clear hb hc
      go_wp2_with fail
      refine (HO.out _).mono ?_
      rintro e w3 ⟨rfl, hb⟩
      have H3 := Lib.hid (H2.out.on hb)
      clear hb hc2
      go_wp2_with fail
      go_ret
      exact ⟨by rw [HR.out]; rfl, H3.out.b⟩
theorem class_any (k x : Nat) (w : World) (hk : kOk k) (hx : x < lim k) : Calls Tryz.prog 128 #[sv k, .int .u64 (x : Int)] w fun e w' => e = .returned (.int .i64 (clk k x : Int)) ∧ Below w.heap.size w w' := by
  have h2 := fr_lt (w := k) (x := x)
  have h1 := ex_lt (w := k) (x := x)
  have hf := hk.facts
  rw [show 2 ^ fb k = hdn k from rfl] at h2
  have h3 : ex k x ≤ onz k := by unfold onz; omega
  exact class_walk k x w (sg k x) (ex k x) (fr k x) hk (by omega) (by omega) (Lib.hid fun W => split_any k x W hk hx)

/-- m and e of a finite float's parts -/
def aM (k X M : Nat) : Nat := if X = 0 then M else M + hdn k
def aE (k X : Nat) : Int := if X = 0 then 1 - (bia k : Int) - (fb k : Int) else (X : Int) - (bia k : Int) - (fb k : Int)
theorem or_hdn {k M : Nat} (hk : kOk k) (hM : M < hdn k) : bits .or .u64 (M : Int) (hdn k : Int) = ((M + hdn k : Nat) : Int) := by
  have hf := hk.facts
  have h := u64_or_nat M (hdn k) (by omega) (by omega)
  have e : hdn k = 2 ^ fb k := rfl
  rw [Nat.or_comm, or_add (hdn k) M (fb k) (by rw [e]; exact Nat.mod_self _) (by rw [← e]; exact hM), Nat.add_comm] at h
  exact h
set_option maxRecDepth 100000 in
set_option maxHeartbeats 2000000 in
theorem amount_any (k X M : Nat) (w : World) (hk : kOk k) (hX : X ≤ onz k) (hM : M < hdn k) :
    Calls Tryz.prog 130 #[sv k, .int .i64 (X : Int), .int .u64 (M : Int)] w fun e w' => e = .returned (.tuple #[.int .u64 (aM k X M : Int), .int .i64 (aE k X)]) ∧ Below w.heap.size w w' := by
  have HU : Hid (∀ W, Bs w k W → Calls Tryz.prog 171 #[sv k] W fun e w' => e = .returned (.int .i64 (1 - (bia k : Int) - (fb k : Int))) ∧ Bs w k w') := Lib.hid fun W hW => (leastUnit_any k W hk).mono fun e w' ⟨he, hb⟩ => ⟨he, hW.on hb⟩
  have HI : Hid (∀ W, Bs w k W → Calls Tryz.prog 170 #[sv k] W fun e w' => e = .returned (.int .u64 (hdn k : Int)) ∧ Bs w k w') := Lib.hid fun W hW => (hidden_any k W hk).mono fun e w' ⟨he, hb⟩ => ⟨he, hW.on hb⟩
  have HB := Lib.hid (Bs.new w k)
  have hf := hk.facts
  have HO := Lib.hid (or_hdn hk hM)
  obtain ⟨U, hU⟩ : ∃ U : Int, 1 - (bia k : Int) - (fb k : Int) = U := ⟨_, rfl⟩
  rw [hU] at HU
  unfold aM aE
  by_cases h0 : X = 0
  · subst h0
    rw [if_pos rfl, if_pos rfl, hU]
    unfold sv at HU ⊢
    clear hf hU
    go_enter Tryz.func130, Tryz.ntmps130
    go_wp2_with fail
    refine (HU.out _ (HB.out _)).mono ?_
    rintro e w1 ⟨rfl, h1⟩
    go_wp2_with fail
    go_ret2
    exact ⟨rfl, h1.b⟩
  · rw [if_neg h0, if_neg h0]
    have q0 : ((X : Int) == 0) = false := by simp; omega
    have q1 : IntKind.i64.wrap (U + (X : Int)) = U + (X : Int) := IntWalk.i64_in _ (by omega)
    have q2 : IntKind.i64.wrap (U + (X : Int) - 1) = U + (X : Int) - 1 := IntWalk.i64_in _ (by omega)
    have HQ : Hid (U + (X : Int) - 1 = (X : Int) - (bia k : Int) - (fb k : Int)) := Lib.hid (by omega)
    unfold sv at HU HI ⊢
    clear hf hU h0
    go_enter Tryz.func130, Tryz.ntmps130
    go_wp2_with fail
    have hb0 := HB.out 164
    generalize w.alloc _ = W0 at hb0 ⊢
    have hb1 := hb0.drew
    have hb := hb1.all
    go_region_held3 (fun W => W.cell? ⟨w.heap.size, 0, none⟩ = some (.int .i64 (k : Int)) ∧ W.cell? ⟨w.heap.size, 1, none⟩ = some (.int .i64 (xb k : Int)) ∧ W.cell? ⟨w.heap.size, 2, none⟩ = some (.int .i64 (fb k : Int)) ∧ Bs w k W) (first | exact Bs.all ‹_› | exact Bs.all (And.right ‹_›))
      (first
        | (go_at_call 170; with_reducible refine (HI.out _ ?_).mono ?_; (first | assumption | exact And.right ‹_›); rintro e w' ⟨rfl, hk5⟩)
        | (go_at_call 171; with_reducible refine (HU.out _ ?_).mono ?_; (first | assumption | exact And.right ‹_›); rintro e w' ⟨rfl, hk5⟩))
    go_wp2_with fail
    exact bodyPost_ret (v := .tuple #[.int .u64 (bits .or .u64 (M : Int) (hdn k : Int)), .int .i64 (U + (X : Int) - 1)]) (by simp [results, Tryz.results130, go_sem]) rfl ⟨by rw [HO.out, HQ.out], (by assumption : Bs w k _).b⟩
end Go.Proofs.YtljbnnpmnoejeaaGreatDoor.nn
namespace Go.Proofs.YtljbnnpmnoejeaaGreatDoor.nn
open Go.RowKit Go.Great

def shT : Array Value := #[.int .i64 16, .int .i64 5, .int .i64 10, .int .i64 32, .int .i64 8, .int .i64 23, .int .i64 64, .int .i64 11, .int .i64 52]
set_option maxRecDepth 100000 in
set_option maxHeartbeats 1000000 in
theorem shapes_any (w : World) : Calls Tryz.prog 168 #[] w fun e w' => e = .returned (.agg shT) ∧ Below w.heap.size w w' := by
  have HB := Lib.hid (fun o => (Below.refl w.heap.size w).alloc (Nat.le_refl _) o)
  go_enter Tryz.func168, Tryz.ntmps168
  go_wp2_with fail
  exact bodyPost_ret (v := .agg shT) (by simp [results, Tryz.results168, go_sem, shT]) rfl ⟨rfl, HB.out _⟩
theorem hsz1 (w : World) (o : Obj) : (w.alloc o).heap.size = w.heap.size + 1 := by simp
/-- a result of a struct of three numbers: its block, of a world that calls have changed -/
structure Rs3 (w : World) (T : TypeId) (W : World) : Prop where
  blk : W.heap[w.heap.size]? = some (.cells #[.int .i64 0, .int .i64 0, .int .i64 0] T (0, 0))
  b : Below w.heap.size w W
  z : w.heap.size < W.heap.size
theorem Rs3.new (w : World) (T : TypeId) : Rs3 w T (w.alloc (.cells #[.int .i64 0, .int .i64 0, .int .i64 0] T)) :=
  ⟨heap_alloc_last _ _, (Below.refl _ _).alloc (Nat.le_refl _) _, by rw [hsz1]; omega⟩
theorem Rs3.on {w W W' : World} {T : TypeId} (h : Rs3 w T W) (hB : Below W.heap.size W W') : Rs3 w T W' :=
  ⟨(hB.block _ h.z).trans h.blk, h.b.trans (hB.mono (Nat.le_of_lt h.z)), Nat.lt_of_lt_of_le h.z hB.size⟩
theorem Rs3.all {w W : World} {T : TypeId} (h : Rs3 w T W) : W.cell? ⟨w.heap.size, 0, none⟩ = some (.int .i64 0) ∧ W.cell? ⟨w.heap.size, 1, none⟩ = some (.int .i64 0) ∧ W.cell? ⟨w.heap.size, 2, none⟩ = some (.int .i64 0) ∧ (∀ i, W.frozen? ⟨w.heap.size, i, none⟩ = false) :=
  ⟨cell_of_row _ _ 0 _ _ _ h.blk, cell_of_row _ _ 1 _ _ _ h.blk, cell_of_row _ _ 2 _ _ _ h.blk, fun i => by have := h.blk; simp [World.frozen?, this]⟩
set_option maxRecDepth 100000 in
set_option maxHeartbeats 1000000 in
theorem widest_any (w : World) : Calls Tryz.prog 127 #[] w fun e w' => e = .returned (sv 64) ∧ Below w.heap.size w w' := by
  have HB := Lib.hid (Rs3.new w 164)
  rw [show sv 64 = .agg #[.int .i64 64, .int .i64 11, .int .i64 52] from rfl]
  go_enter Tryz.func127, Tryz.ntmps127
  go_wp2_with fail
  refine (shapes_any _).mono ?_
  rintro e w1 ⟨rfl, hb⟩
  have H1 := Lib.hid (HB.out.on hb)
  obtain ⟨c0, c1, c2, f0⟩ := H1.out.all
  have hz := H1.out.z
  clear hb
  unfold shT
  go_wp2_with fail
  have hne : ¬ w.heap.size = w1.heap.size := by omega
  have hblk := H1.out.blk
  refine bodyPost_ret (v := .agg #[.int .i64 64, .int .i64 11, .int .i64 52]) (by simp [results, Tryz.results127, go_sem, World.cell?, World.setCell, World.alloc, Array.getElem?_push, Array.getElem?_modify, hblk, hne]) rfl ⟨rfl, ?_⟩
  exact (((H1.out.b.setCell (Nat.le_refl _) _).setCell (Nat.le_refl _) _).setCell (Nat.le_refl _) _).alloc (by simp [World.setCell]; omega) _

/-- row j of the table -/
def tW : Nat → Nat | 0 => 16 | 1 => 32 | _ => 64
set_option maxRecDepth 100000 in
theorem ix3 (j : Nat) (h : j < 3) (w : World) : (Instr.index 195 (.agg shT) (.int .i64 (j : Int))).run Tryz.prog w = .ok (.agg #[.int .i64 (tW j : Int), .int .i64 (xb (tW j) : Int), .int .i64 (fb (tW j) : Int)]) w := by
  match j, h with
  | 0, _ => exact (by kernel_rfl : (Instr.index 195 (.agg shT) (.int .i64 0)).run Tryz.prog w = .ok (.agg #[.int .i64 16, .int .i64 5, .int .i64 10]) w)
  | 1, _ => exact (by kernel_rfl : (Instr.index 195 (.agg shT) (.int .i64 1)).run Tryz.prog w = .ok (.agg #[.int .i64 32, .int .i64 8, .int .i64 23]) w)
  | 2, _ => exact (by kernel_rfl : (Instr.index 195 (.agg shT) (.int .i64 2)).run Tryz.prog w = .ok (.agg #[.int .i64 64, .int .i64 11, .int .i64 52]) w)
def soV (k : Int) : Value := if wOk k then sv k.toNat else .agg #[.int .i64 0, .int .i64 0, .int .i64 0]
theorem tW_ok (j : Nat) : wOk (tW j) := by
  unfold tW wOk
  split <;> simp
theorem tW_all {k : Int} (h : ∀ i, i < 3 → (tW i : Int) ≠ k) : ¬ wOk k := by
  have h0 := h 0 (by omega)
  have h1 := h 1 (by omega)
  have h2 := h 2 (by omega)
  simp only [tW] at h0 h1 h2
  unfold wOk
  omega
set_option maxRecDepth 100000 in
set_option maxHeartbeats 1000000 in
theorem shapeOf_any (k : Int) (w : World) : Calls Tryz.prog 200 #[.int .i64 k] w fun e w' => e = .returned (.tuple #[soV k, .bool (decide (wOk k))]) ∧ Below w.heap.size w w' := by
  obtain ⟨V, hV⟩ : ∃ V, soV k = V := ⟨_, rfl⟩
  obtain ⟨O, hO⟩ : ∃ O, decide (wOk k) = O := ⟨_, rfl⟩
  rw [hV, hO]
  have HV := Lib.hid (And.intro hV hO)
  clear hV hO
  have HB := Lib.hid (Rs3.new w 164)
  go_enter Tryz.func200, Tryz.ntmps200
  go_wp2_with fail
  refine (shapes_any _).mono ?_
  rintro e w1 ⟨rfl, hb⟩
  have H1 := Lib.hid (HB.out.on hb)
  clear hb
  go_wp2_with fail
  go_loopw [7] (fun s7 wr => ∃ j : Nat, j ≤ 3 ∧ s7 = .int .i64 (j : Int) ∧ Hid (∀ i, i < j → (tW i : Int) ≠ k) ∧ Hid (Rs3 w 164 wr)) (fun s7 _ => (3 - intOf s7).toNat)
  case atStart => exact ⟨0, by omega, rfl, Lib.hid (fun i hi => absurd hi (by omega)), H1⟩
  case round =>
    obtain ⟨j, hj, rfl, hno, hR⟩ := hrel
    obtain ⟨c0, c1, c2, f0⟩ := hR.out.all
    have hz := hR.out.z
    have hlt : ∀ o, w.heap.size < (wr.alloc o).heap.size := fun o => by rw [hsz1]; omega
    by_cases hj3 : j < 3
    · have hix := ix3 j hj3
      have HW := Lib.hid (And.intro (tW_ok j) (show (tW j : Int).toNat = tW j from Int.toNat_natCast _))
      obtain ⟨K, hK⟩ : ∃ K, tW j = K := ⟨_, rfl⟩
      rw [hK] at hix HW
      have HKJ := Lib.hid hK
      clear hK
      by_cases he : (K : Int) = k
      · have q1 : ((K : Int) == k) = true := by simp [he]
        have HE := Lib.hid he
        clear he
        go_wp2_with fail
        have hne : ¬ w.heap.size = wr.heap.size := by omega
        have hblk := hR.out.blk
        refine bodyPost_ret (v := .tuple #[.agg #[.int .i64 (K : Int), .int .i64 (xb K : Int), .int .i64 (fb K : Int)], .bool true]) (by simp [results, Tryz.results200, go_sem, World.cell?, World.setCell, World.alloc, Array.getElem?_push, Array.getElem?_modify, hblk, hne]) rfl ⟨?_, ?_⟩
        · rw [← HV.out.1, ← HV.out.2]
          unfold soV
          rw [← HE.out, if_pos HW.out.1, HW.out.2, decide_eq_true HW.out.1]
          rfl
        · exact (((hR.out.b.setCell (Nat.le_refl _) _).setCell (Nat.le_refl _) _).setCell (Nat.le_refl _) _).alloc (by simp [World.setCell]; omega) _
      · have q1 : ((K : Int) == k) = false := by simp [he]
        have HN2 : Hid (∀ i, i < j + 1 → (tW i : Int) ≠ k) := Lib.hid fun i hi => by
          by_cases h : i < j
          · exact hno.out i h
          · have e : i = j := by omega
            rw [e, HKJ.out]
            exact he
        clear he
        go_wp2_with fail
        go_roundw
        case rel => exact ⟨j + 1, by omega, by go_num, HN2, Lib.hid (hR.out.on ((Below.refl _ _).alloc (Nat.le_refl _) _))⟩
        case measure => simp [intOf]; omega
    · obtain rfl : j = 3 := by omega
      have HN := Lib.hid (tW_all hno.out)
      clear hno
      go_wp2_with fail
      have hblk := hR.out.blk
      refine bodyPost_ret (v := .tuple #[.agg #[.int .i64 0, .int .i64 0, .int .i64 0], .bool false]) (by simp [results, Tryz.results200, go_sem, World.cell?, World.setCell, Array.getElem?_modify, hblk]) rfl ⟨?_, ?_⟩
      · rw [← HV.out.1, ← HV.out.2]
        unfold soV
        rw [if_neg HN.out, decide_eq_false HN.out]
      · exact ((hR.out.b.setCell (Nat.le_refl _) _).setCell (Nat.le_refl _) _).setCell (Nat.le_refl _) _
end Go.Proofs.YtljbnnpmnoejeaaGreatDoor.nn
namespace Go.Proofs.YtljbnnpmnoejeaaGreatDoor.nn
open Go.RowKit Go.Great

def z3 : Value := .agg #[.int .i64 0, .int .i64 0, .int .i64 0]
def sfV (k : Int) (x : Nat) : Value := if fits k x then sv k.toNat else z3
def SfAns (k : Int) (x : Nat) (W : World) (e : Ending) (W' : World) : Prop := e = .returned (.tuple #[sfV k x, .int .i64 (paE k x : Int)]) ∧ Below W.heap.size W W'
set_option maxRecDepth 100000 in
set_option maxHeartbeats 1000000 in
theorem shapeFor_no (k : Int) (x : Nat) (w : World) (hk : ¬ wOk k) : Calls Tryz.prog 188 #[.int .i64 k, .int .u64 (x : Int)] w (SfAns k x w) := by
  have HNO : Hid (¬ fits k x) := Lib.hid fun h => hk h.1
  have HS : Hid (∀ W, Calls Tryz.prog 200 #[.int .i64 k] W fun e w' => e = .returned (.tuple #[.agg #[.int .i64 0, .int .i64 0, .int .i64 0], .bool false]) ∧ Below W.heap.size W w') := Lib.hid fun W => by
    have h := shapeOf_any k W
    unfold soV at h
    rw [if_neg hk, decide_eq_false hk] at h
    exact h
  clear hk
  have HB := Lib.hid (Rs3.new w 164)
  go_enter Tryz.func188, Tryz.ntmps188
  go_wp2_with fail
  refine (HS.out _).mono ?_
  rintro e w1 ⟨rfl, hb⟩
  have H1 := Lib.hid (HB.out.on hb)
  obtain ⟨c0, c1, c2, f0⟩ := H1.out.all
  have hz := H1.out.z
  have hlt : ∀ o, w.heap.size < (w1.alloc o).heap.size := fun o => by rw [hsz1]; omega
  clear hb
  go_wp2_with fail
  have hne : ¬ w.heap.size = w1.heap.size := by omega
  have hblk := H1.out.blk
  refine bodyPost_ret (v := .tuple #[.agg #[.int .i64 0, .int .i64 0, .int .i64 0], .int .i64 1]) (by simp [results, Tryz.results188, go_sem, World.cell?, World.setCell, World.alloc, Array.getElem?_push, Array.getElem?_modify, hblk, hne]) rfl ⟨?_, ?_⟩
  · unfold sfV paE
    rw [if_neg HNO.out, if_neg HNO.out]
    rfl
  · exact (((H1.out.b.setCell (Nat.le_refl _) _).setCell (Nat.le_refl _) _).setCell (Nat.le_refl _) _).alloc (by simp [World.setCell]; omega) _
set_option maxRecDepth 100000 in
set_option maxHeartbeats 1000000 in
theorem shapeFor_16_yes (x : Nat) (w : World) (hx : x < 18446744073709551616) (h : x < 65536) : Calls Tryz.prog 188 #[.int .i64 16, .int .u64 (x : Int)] w (SfAns ((16 : Nat) : Int) x w) := by
  have HF : Hid (fits ((16 : Nat) : Int) x) := Lib.hid (⟨by unfold wOk; omega, fun _ => h⟩)
  have q1 : ((x : Int) / 65536 != 0) = false := by simp; omega
  clear h
  have HS : Hid (∀ W, Calls Tryz.prog 200 #[.int .i64 16] W fun e w' => e = .returned (.tuple #[.agg #[.int .i64 16, .int .i64 5, .int .i64 10], .bool true]) ∧ Below W.heap.size W w') := Lib.hid fun W => shapeOf_any 16 W
  have HB := Lib.hid (Rs3.new w 164)
  go_enter Tryz.func188, Tryz.ntmps188
  go_wp2_with fail
  refine (HS.out _).mono ?_
  rintro e w1 ⟨rfl, hb⟩
  have H1 := Lib.hid (HB.out.on hb)
  obtain ⟨c0, c1, c2, f0⟩ := H1.out.all
  have hz := H1.out.z
  have hlt : ∀ o, w.heap.size < (w1.alloc o).heap.size := fun o => by rw [hsz1]; omega
  clear hb
  go_wp2_with fail
  have hne : ¬ w.heap.size = w1.heap.size := by omega
  have hblk := H1.out.blk
  refine bodyPost_ret (v := .tuple #[.agg #[.int .i64 16, .int .i64 5, .int .i64 10], .int .i64 0]) (by simp [results, Tryz.results188, go_sem, World.cell?, World.setCell, World.alloc, Array.getElem?_push, Array.getElem?_modify, hblk, hne]) rfl ⟨?_, ?_⟩
  · unfold sfV paE
    rw [if_pos HF.out, if_pos HF.out]
    rfl
  · exact (((H1.out.b.setCell (Nat.le_refl _) _).setCell (Nat.le_refl _) _).setCell (Nat.le_refl _) _).alloc (by simp [World.setCell]; omega) _
set_option maxRecDepth 100000 in
set_option maxHeartbeats 1000000 in
theorem shapeFor_16_no (x : Nat) (w : World) (hx : x < 18446744073709551616) (h : ¬ x < 65536) : Calls Tryz.prog 188 #[.int .i64 16, .int .u64 (x : Int)] w (SfAns ((16 : Nat) : Int) x w) := by
  have HF : Hid (¬ fits ((16 : Nat) : Int) x) := Lib.hid (fun h' => h (h'.2 (by decide)))
  have q1 : ((x : Int) / 65536 != 0) = true := by simp; omega
  clear h
  have HS : Hid (∀ W, Calls Tryz.prog 200 #[.int .i64 16] W fun e w' => e = .returned (.tuple #[.agg #[.int .i64 16, .int .i64 5, .int .i64 10], .bool true]) ∧ Below W.heap.size W w') := Lib.hid fun W => shapeOf_any 16 W
  have HB := Lib.hid (Rs3.new w 164)
  go_enter Tryz.func188, Tryz.ntmps188
  go_wp2_with fail
  refine (HS.out _).mono ?_
  rintro e w1 ⟨rfl, hb⟩
  have H1 := Lib.hid (HB.out.on hb)
  obtain ⟨c0, c1, c2, f0⟩ := H1.out.all
  have hz := H1.out.z
  have hlt : ∀ o, w.heap.size < (w1.alloc o).heap.size := fun o => by rw [hsz1]; omega
  clear hb
  go_wp2_with fail
  have hne : ¬ w.heap.size = w1.heap.size := by omega
  have hblk := H1.out.blk
  refine bodyPost_ret (v := .tuple #[.agg #[.int .i64 0, .int .i64 0, .int .i64 0], .int .i64 1]) (by simp [results, Tryz.results188, go_sem, World.cell?, World.setCell, World.alloc, Array.getElem?_push, Array.getElem?_modify, hblk, hne]) rfl ⟨?_, ?_⟩
  · unfold sfV paE
    rw [if_neg HF.out, if_neg HF.out]
    rfl
  · exact (((H1.out.b.setCell (Nat.le_refl _) _).setCell (Nat.le_refl _) _).setCell (Nat.le_refl _) _).alloc (by simp [World.setCell]; omega) _
set_option maxRecDepth 100000 in
set_option maxHeartbeats 1000000 in
theorem shapeFor_32_yes (x : Nat) (w : World) (hx : x < 18446744073709551616) (h : x < 4294967296) : Calls Tryz.prog 188 #[.int .i64 32, .int .u64 (x : Int)] w (SfAns ((32 : Nat) : Int) x w) := by
  have HF : Hid (fits ((32 : Nat) : Int) x) := Lib.hid (⟨by unfold wOk; omega, fun _ => h⟩)
  have q1 : ((x : Int) / 4294967296 != 0) = false := by simp; omega
  clear h
  have HS : Hid (∀ W, Calls Tryz.prog 200 #[.int .i64 32] W fun e w' => e = .returned (.tuple #[.agg #[.int .i64 32, .int .i64 8, .int .i64 23], .bool true]) ∧ Below W.heap.size W w') := Lib.hid fun W => shapeOf_any 32 W
  have HB := Lib.hid (Rs3.new w 164)
  go_enter Tryz.func188, Tryz.ntmps188
  go_wp2_with fail
  refine (HS.out _).mono ?_
  rintro e w1 ⟨rfl, hb⟩
  have H1 := Lib.hid (HB.out.on hb)
  obtain ⟨c0, c1, c2, f0⟩ := H1.out.all
  have hz := H1.out.z
  have hlt : ∀ o, w.heap.size < (w1.alloc o).heap.size := fun o => by rw [hsz1]; omega
  clear hb
  go_wp2_with fail
  have hne : ¬ w.heap.size = w1.heap.size := by omega
  have hblk := H1.out.blk
  refine bodyPost_ret (v := .tuple #[.agg #[.int .i64 32, .int .i64 8, .int .i64 23], .int .i64 0]) (by simp [results, Tryz.results188, go_sem, World.cell?, World.setCell, World.alloc, Array.getElem?_push, Array.getElem?_modify, hblk, hne]) rfl ⟨?_, ?_⟩
  · unfold sfV paE
    rw [if_pos HF.out, if_pos HF.out]
    rfl
  · exact (((H1.out.b.setCell (Nat.le_refl _) _).setCell (Nat.le_refl _) _).setCell (Nat.le_refl _) _).alloc (by simp [World.setCell]; omega) _
set_option maxRecDepth 100000 in
set_option maxHeartbeats 1000000 in
theorem shapeFor_32_no (x : Nat) (w : World) (hx : x < 18446744073709551616) (h : ¬ x < 4294967296) : Calls Tryz.prog 188 #[.int .i64 32, .int .u64 (x : Int)] w (SfAns ((32 : Nat) : Int) x w) := by
  have HF : Hid (¬ fits ((32 : Nat) : Int) x) := Lib.hid (fun h' => h (h'.2 (by decide)))
  have q1 : ((x : Int) / 4294967296 != 0) = true := by simp; omega
  clear h
  have HS : Hid (∀ W, Calls Tryz.prog 200 #[.int .i64 32] W fun e w' => e = .returned (.tuple #[.agg #[.int .i64 32, .int .i64 8, .int .i64 23], .bool true]) ∧ Below W.heap.size W w') := Lib.hid fun W => shapeOf_any 32 W
  have HB := Lib.hid (Rs3.new w 164)
  go_enter Tryz.func188, Tryz.ntmps188
  go_wp2_with fail
  refine (HS.out _).mono ?_
  rintro e w1 ⟨rfl, hb⟩
  have H1 := Lib.hid (HB.out.on hb)
  obtain ⟨c0, c1, c2, f0⟩ := H1.out.all
  have hz := H1.out.z
  have hlt : ∀ o, w.heap.size < (w1.alloc o).heap.size := fun o => by rw [hsz1]; omega
  clear hb
  go_wp2_with fail
  have hne : ¬ w.heap.size = w1.heap.size := by omega
  have hblk := H1.out.blk
  refine bodyPost_ret (v := .tuple #[.agg #[.int .i64 0, .int .i64 0, .int .i64 0], .int .i64 1]) (by simp [results, Tryz.results188, go_sem, World.cell?, World.setCell, World.alloc, Array.getElem?_push, Array.getElem?_modify, hblk, hne]) rfl ⟨?_, ?_⟩
  · unfold sfV paE
    rw [if_neg HF.out, if_neg HF.out]
    rfl
  · exact (((H1.out.b.setCell (Nat.le_refl _) _).setCell (Nat.le_refl _) _).setCell (Nat.le_refl _) _).alloc (by simp [World.setCell]; omega) _
set_option maxRecDepth 100000 in
set_option maxHeartbeats 1000000 in
theorem shapeFor_64_yes (x : Nat) (w : World) (hx : x < 18446744073709551616) (_ : x < 18446744073709551616) : Calls Tryz.prog 188 #[.int .i64 64, .int .u64 (x : Int)] w (SfAns ((64 : Nat) : Int) x w) := by
  have HF : Hid (fits ((64 : Nat) : Int) x) := Lib.hid (⟨by unfold wOk; omega, fun h => absurd h (by decide)⟩)
  have q1 : ((x : Int) / 18446744073709551616 != 0) = false := by simp; omega
  have HS : Hid (∀ W, Calls Tryz.prog 200 #[.int .i64 64] W fun e w' => e = .returned (.tuple #[.agg #[.int .i64 64, .int .i64 11, .int .i64 52], .bool true]) ∧ Below W.heap.size W w') := Lib.hid fun W => shapeOf_any 64 W
  have HB := Lib.hid (Rs3.new w 164)
  go_enter Tryz.func188, Tryz.ntmps188
  go_wp2_with fail
  refine (HS.out _).mono ?_
  rintro e w1 ⟨rfl, hb⟩
  have H1 := Lib.hid (HB.out.on hb)
  obtain ⟨c0, c1, c2, f0⟩ := H1.out.all
  have hz := H1.out.z
  have hlt : ∀ o, w.heap.size < (w1.alloc o).heap.size := fun o => by rw [hsz1]; omega
  clear hb
  go_wp2_with fail
  have hne : ¬ w.heap.size = w1.heap.size := by omega
  have hblk := H1.out.blk
  refine bodyPost_ret (v := .tuple #[.agg #[.int .i64 64, .int .i64 11, .int .i64 52], .int .i64 0]) (by simp [results, Tryz.results188, go_sem, World.cell?, World.setCell, World.alloc, Array.getElem?_push, Array.getElem?_modify, hblk, hne]) rfl ⟨?_, ?_⟩
  · unfold sfV paE
    rw [if_pos HF.out, if_pos HF.out]
    rfl
  · exact (((H1.out.b.setCell (Nat.le_refl _) _).setCell (Nat.le_refl _) _).setCell (Nat.le_refl _) _).alloc (by simp [World.setCell]; omega) _

theorem shapeFor_any (k : Int) (x : Nat) (w : World) (hx : x < 18446744073709551616) : Calls Tryz.prog 188 #[.int .i64 k, .int .u64 (x : Int)] w (SfAns k x w) := by
  by_cases hk : wOk k
  · unfold wOk at hk
    rcases hk with rfl | rfl | rfl
    · by_cases h : x < 65536
      · exact shapeFor_16_yes x w hx h
      · exact shapeFor_16_no x w hx h
    · by_cases h : x < 4294967296
      · exact shapeFor_32_yes x w hx h
      · exact shapeFor_32_no x w hx h
    · exact shapeFor_64_yes x w hx hx
  · exact shapeFor_no k x w hk
theorem fits.facts {k : Int} {x : Nat} (h : fits k x) (hx : x < 18446744073709551616) : kOk k.toNat ∧ x < lim k.toNat := by
  obtain ⟨h1, h2⟩ := h
  unfold wOk at h1
  rcases h1 with rfl | rfl | rfl
  · exact ⟨.inl rfl, h2 (by decide)⟩
  · exact ⟨.inr (.inl rfl), h2 (by decide)⟩
  · exact ⟨.inr (.inr rfl), hx⟩
/-- the two ways of shapeFor -/
theorem shapeFor_yes {k : Int} {x : Nat} (W : World) (hx : x < 18446744073709551616) (h : fits k x) : Calls Tryz.prog 188 #[.int .i64 k, .int .u64 (x : Int)] W fun e w' => e = .returned (.tuple #[sv k.toNat, .int .i64 0]) ∧ Below W.heap.size W w' := by
  have := shapeFor_any k x W hx
  unfold SfAns sfV paE at this
  rw [if_pos h, if_pos h] at this
  exact this
theorem shapeFor_not {k : Int} {x : Nat} (W : World) (hx : x < 18446744073709551616) (h : ¬ fits k x) : Calls Tryz.prog 188 #[.int .i64 k, .int .u64 (x : Int)] W fun e w' => e = .returned (.tuple #[z3, .int .i64 1]) ∧ Below W.heap.size W w' := by
  have := shapeFor_any k x W hx
  unfold SfAns sfV paE at this
  rw [if_neg h, if_neg h] at this
  exact this
set_option maxRecDepth 100000 in
set_option maxHeartbeats 1000000 in
theorem fclass_any (k : Int) (x : Nat) (w : World) (hx : x < 18446744073709551616) : Calls Tryz.prog 159 #[.int .i64 k, .int .u64 (x : Int)] w (ClAns k x w) := by
  unfold ClAns
  by_cases hf : fits k x
  · have HS := Lib.hid (fun W => shapeFor_yes W hx hf)
    obtain ⟨hk, hl⟩ := hf.facts hx
    have e3 : paE k x = 0 := by unfold paE; rw [if_pos hf]
    have e4 : clC k x = clk k.toNat x := by unfold clC; rw [if_pos hf]; rfl
    rw [e3, e4]
    have HC := Lib.hid (fun W => class_any k.toNat x W hk hl)
    clear e3 e4 hf hk hl
    obtain ⟨R, hR⟩ : ∃ R, clk k.toNat x = R := ⟨_, rfl⟩
    rw [hR] at HC ⊢
    clear hR
    obtain ⟨K, hK⟩ : ∃ K, k.toNat = K := ⟨_, rfl⟩
    rw [hK] at HC HS
    clear hK
    unfold sv at HS HC
    go_enter Tryz.func159, Tryz.ntmps159
    go_wp2_with fail
    with_reducible refine (HS.out _).mono ?_
    rintro e w1 ⟨rfl, hb⟩
    have H1 := Lib.hid hb
    clear hb
    go_wp2_with fail
    with_reducible refine (HC.out _).mono ?_
    rintro e w2 ⟨rfl, hb⟩
    have H2 := Lib.hid ((H1.out.alloc H1.out.size _).trans (hb.mono (Nat.le_trans H1.out.size (by simp))))
    clear hb
    go_wp2_with fail
    go_ret2
    exact ⟨rfl, H2.out⟩
  · have HS := Lib.hid (fun W => shapeFor_not W hx hf)
    have e3 : paE k x = 1 := by unfold paE; rw [if_neg hf]
    have e4 : clC k x = 0 := by unfold clC; rw [if_neg hf]
    rw [e3, e4]
    clear e3 e4 hf
    unfold z3 at HS
    go_enter Tryz.func159, Tryz.ntmps159
    go_wp2_with fail
    with_reducible refine (HS.out _).mono ?_
    rintro e w1 ⟨rfl, hb⟩
    have H1 := Lib.hid hb
    clear hb
    go_wp2_with fail
    go_ret2
    exact ⟨rfl, H1.out.alloc H1.out.size _⟩
end Go.Proofs.YtljbnnpmnoejeaaGreatDoor.nn
namespace Go.Proofs.YtljbnnpmnoejeaaGreatDoor.nn
open Go.RowKit

section
variable {m a b : Nat} {n : Int}
end
theorem kOk.bt {k : Nat} (h : kOk k) : onz k = 2 * bia k + 1 := by have := h.facts; omega
end Go.Proofs.YtljbnnpmnoejeaaGreatDoor.nn
namespace Go.Proofs.YtljbnnpmnoejeaaGreatDoor.nn
open Go.RowKit

theorem ret_ub {a c : Int} {b d : Bool} (h1 : a = c) (h2 : b = d) : Ending.returned (.tuple #[.int .u64 a, .bool b]) = .returned (.tuple #[.int .u64 c, .bool d]) := by rw [h1, h2]
end Go.Proofs.YtljbnnpmnoejeaaGreatDoor.nn
namespace Go.Proofs.YtljbnnpmnoejeaaGreatDoor.nn
open Go.RowKit

/-- the worlds behind a call's two boxed shapes -/
structure Bs2 (w : World) (k j : Nat) (W : World) : Prop where
  c0 : W.cell? ⟨w.heap.size, 0, none⟩ = some (.int .i64 (k : Int))
  c1 : W.cell? ⟨w.heap.size, 1, none⟩ = some (.int .i64 (xb k : Int))
  c2 : W.cell? ⟨w.heap.size, 2, none⟩ = some (.int .i64 (fb k : Int))
  d0 : W.cell? ⟨w.heap.size + 1, 0, none⟩ = some (.int .i64 (j : Int))
  d1 : W.cell? ⟨w.heap.size + 1, 1, none⟩ = some (.int .i64 (xb j : Int))
  d2 : W.cell? ⟨w.heap.size + 1, 2, none⟩ = some (.int .i64 (fb j : Int))
  b : Below w.heap.size w W
  z : w.heap.size + 1 < W.heap.size
theorem Bs2.new (w : World) (k j : Nat) (T : TypeId) : Bs2 w k j ((w.alloc (.cells #[.int .i64 (k : Int), .int .i64 (xb k : Int), .int .i64 (fb k : Int)] T)).alloc (.cells #[.int .i64 (j : Int), .int .i64 (xb j : Int), .int .i64 (fb j : Int)] T)) := by
  have h := Bs.new w k T
  have h2 := Bs.new (w.alloc (.cells #[.int .i64 (k : Int), .int .i64 (xb k : Int), .int .i64 (fb k : Int)] T)) j T
  have hz : (w.alloc (.cells #[.int .i64 (k : Int), .int .i64 (xb k : Int), .int .i64 (fb k : Int)] T)).heap.size = w.heap.size + 1 := by simp
  have h3 := h.on h2.b
  obtain ⟨x0, x1, x2, _, x4⟩ := h2
  rw [hz] at x0 x1 x2 x4
  exact ⟨h3.c0, h3.c1, h3.c2, x0, x1, x2, h3.b, x4⟩
theorem Bs2.on {w W W' : World} {k j : Nat} (h : Bs2 w k j W) (hB : Below W.heap.size W W') : Bs2 w k j W' := by
  have hz := h.z
  have hz1 : w.heap.size < W.heap.size := by omega
  exact ⟨(hB.cell (p := ⟨_, _, none⟩) hz1).trans h.c0, (hB.cell (p := ⟨_, _, none⟩) hz1).trans h.c1, (hB.cell (p := ⟨_, _, none⟩) hz1).trans h.c2, (hB.cell (p := ⟨_, _, none⟩) hz).trans h.d0, (hB.cell (p := ⟨_, _, none⟩) hz).trans h.d1, (hB.cell (p := ⟨_, _, none⟩) hz).trans h.d2, h.b.trans (hB.mono (by omega)), Nat.lt_of_lt_of_le hz hB.size⟩
theorem Bs2.drew {w W : World} {k j : Nat} (h : Bs2 w k j W) : Bs2 w k j W.drew := h.on (Below.drew (Below.refl _ _))
theorem Bs2.all {w W : World} {k j : Nat} (h : Bs2 w k j W) : W.cell? ⟨w.heap.size, 0, none⟩ = some (.int .i64 (k : Int)) ∧ W.cell? ⟨w.heap.size, 1, none⟩ = some (.int .i64 (xb k : Int)) ∧ W.cell? ⟨w.heap.size, 2, none⟩ = some (.int .i64 (fb k : Int)) ∧
    W.cell? ⟨w.heap.size + 1, 0, none⟩ = some (.int .i64 (j : Int)) ∧ W.cell? ⟨w.heap.size + 1, 1, none⟩ = some (.int .i64 (xb j : Int)) ∧ W.cell? ⟨w.heap.size + 1, 2, none⟩ = some (.int .i64 (fb j : Int)) ∧ Bs2 w k j W := ⟨h.c0, h.c1, h.c2, h.d0, h.d1, h.d2, h⟩
theorem cl5_inf {k X M : Nat} : (3 ≤ cl5 (xb k) X M ↔ X = onz k) ∧ cl5 (xb k) X M < 5 := by
  unfold cl5
  rw [show 2 ^ xb k - 1 = onz k from rfl]
  by_cases h : X = onz k
  · rw [if_pos h]
    split <;> exact ⟨⟨fun _ => h, fun _ => by omega⟩, by omega⟩
  · rw [if_neg h]
    split
    · exact ⟨⟨fun h2 => absurd h2 (by omega), fun h2 => absurd h2 h⟩, by omega⟩
    · split <;> exact ⟨⟨fun h2 => absurd h2 (by omega), fun h2 => absurd h2 h⟩, by omega⟩
end Go.Proofs.YtljbnnpmnoejeaaGreatDoor.nn
