/- The real fbits: compose: the bits of m times 2^e. -/
import Derived.Test.YtkgejncolchobaaShape6
import Derived.Test.YtkgejncolchobaaRefFromInt
import Derived.Test.YtkgejncolchobaaShelf
import Derived.Lib.MinMax
namespace Go.Proofs.Ytkgejncolchobaa.nn
open Go.RowKit

theorem bitLen_log2 : ∀ (f x : Nat), 0 < x → x < 2 ^ f → f ≤ 64 → Lib.bitLen x = x.log2 + 1
  | 0, x, h0, h, _ => by rw [Nat.pow_zero] at h; omega
  | f + 1, x, h0, h, hf => by
    have hx : x < 2 ^ 64 := Nat.lt_of_lt_of_le h (Nat.pow_le_pow_right (by decide) hf)
    rw [Lib.bitLen_half x (by omega) hx]
    by_cases h1 : x < 2
    · obtain rfl : x = 1 := by omega
      decide
    · have h2 : 2 ^ 1 ≤ x := by omega
      have h3 := log2_div h2
      have h4 : 1 ≤ x.log2 := (Nat.le_log2 (by omega)).2 h2
      rw [show (2 : Nat) ^ 1 = 2 by decide] at h3
      rw [bitLen_log2 f (x / 2) (by omega) (by rw [Nat.pow_succ] at h; omega) (by omega), h3]
      omega
section
variable {m a b : Nat} {n : Int}
theorem sV_lt (h : m < 2 ^ a) (hb : (a : Int) + n ≤ (b : Int)) : sV m n < 2 ^ b := by
  unfold sV
  by_cases hn : n < 0
  · rw [if_pos hn]
    obtain ⟨d, rfl⟩ : ∃ d : Nat, n = -(d : Int) := ⟨(-n).toNat, by omega⟩
    rw [show (-(-(d : Int))).toNat = d by omega]
    refine Nat.div_lt_of_lt_mul ?_
    rw [← Nat.pow_add]
    exact Nat.lt_of_lt_of_le h (Nat.pow_le_pow_right (by decide) (by omega))
  · rw [if_neg hn]
    obtain ⟨d, rfl⟩ : ∃ d : Nat, n = (d : Int) := ⟨n.toNat, by omega⟩
    rw [Int.toNat_natCast]
    refine Nat.lt_of_le_of_lt (Nat.mod_le _ _) ?_
    refine Nat.lt_of_lt_of_le (Nat.mul_lt_mul_of_pos_right h (Nat.two_pow_pos d)) ?_
    rw [← Nat.pow_add]
    exact Nat.pow_le_pow_right (by decide) (by omega)
theorem sV_ge (h : 2 ^ a ≤ m) (hb : (a : Int) + n = (b : Int)) (hO : sOk m n = true) : 2 ^ b ≤ sV m n := by
  unfold sOk at hO
  unfold sV
  by_cases hn : n < 0
  · rw [if_pos hn]
    obtain ⟨d, rfl⟩ : ∃ d : Nat, n = -(d : Int) := ⟨(-n).toNat, by omega⟩
    rw [show (-(-(d : Int))).toNat = d by omega]
    refine (Nat.le_div_iff_mul_le (Nat.two_pow_pos d)).2 ?_
    rw [← Nat.pow_add, show b + d = a by omega]
    exact h
  · rw [if_neg hn] at hO ⊢
    obtain ⟨d, rfl⟩ : ∃ d : Nat, n = (d : Int) := ⟨n.toNat, by omega⟩
    rw [Int.toNat_natCast] at hO ⊢
    rw [Nat.mod_eq_of_lt (of_decide_eq_true hO), show b = a + d by omega, Nat.pow_add]
    exact Nat.mul_le_mul_right _ h
end
/-- the unit that m times 2^e is counted in -/
def unt (k m : Nat) (e : Int) : Int := max ((m.log2 : Int) + e - (fb k : Int)) (1 - (bia k : Int) - (fb k : Int))
def cmO (k m : Nat) (e : Int) : Bool := if m = 0 then true else decide ((m.log2 : Int) + e ≤ (bia k : Int)) && sOk m (e - unt k m e)
def cmU (k m : Nat) (e : Int) : Nat := sV m (e - unt k m e)
def cmV (k : Nat) (neg : Bool) (m : Nat) (e : Int) : Nat :=
  if cmO k m e then (if m = 0 then kv (xb k) (fb k) neg 0 0 else if cmU k m e < hdn k then kv (xb k) (fb k) neg 0 (cmU k m e) else kv (xb k) (fb k) neg ((m.log2 : Int) + e + (bia k : Int)).toNat (cmU k m e - hdn k)) else 0
theorem kOk.bt {k : Nat} (h : kOk k) : onz k = 2 * bia k + 1 := by have := h.facts; omega
theorem cmU_lt {k m : Nat} {e : Int} (_ : 0 < m) : cmU k m e < 2 ^ (fb k + 1) := by
  unfold cmU unt
  refine sV_lt (Nat.lt_log2_self (n := m)) ?_
  omega
theorem cmU_low {k m : Nat} {e : Int} (_ : 0 < m) (h : (m.log2 : Int) + e < 1 - (bia k : Int)) : cmU k m e < 2 ^ fb k := by
  unfold cmU unt
  refine sV_lt (Nat.lt_log2_self (n := m)) ?_
  omega
theorem cmU_high {k m : Nat} {e : Int} (h0 : 0 < m) (h : 1 - (bia k : Int) ≤ (m.log2 : Int) + e) (hO : sOk m (e - unt k m e) = true) : 2 ^ fb k ≤ cmU k m e := by
  unfold cmU
  refine sV_ge (Nat.log2_self_le (by omega)) ?_ hO
  unfold unt
  omega
end Go.Proofs.Ytkgejncolchobaa.nn
