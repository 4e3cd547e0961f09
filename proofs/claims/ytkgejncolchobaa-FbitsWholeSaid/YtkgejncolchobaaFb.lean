/- Plain words for floats as bits: widths, parts, classes. No program is named here. -/
namespace Go.Proofs.Ytkgejncolchobaa.nn

/-- bits of an exponent, of a fraction -/
def xb (w : Nat) : Nat := if w = 16 then 5 else if w = 32 then 8 else 11
def fb (w : Nat) : Nat := if w = 16 then 10 else if w = 32 then 23 else 52
/-- a width, and bits that it has -/
def wOk (w : Int) : Prop := w = 16 ∨ w = 32 ∨ w = 64
instance (w : Int) : Decidable (wOk w) := by unfold wOk; infer_instance
def fits (w : Int) (x : Nat) : Prop := wOk w ∧ (w < 64 → x < 2 ^ w.toNat)
instance (w : Int) (x : Nat) : Decidable (fits w x) := by unfold fits; infer_instance
def sg (w x : Nat) : Bool := decide (x / 2 ^ (xb w + fb w) = 1)
def ex (w x : Nat) : Nat := x / 2 ^ fb w % 2 ^ xb w
def fr (w x : Nat) : Nat := x % 2 ^ fb w
/-- what Parts answers -/
def paS (w : Int) (x : Nat) : Bool := if fits w x then sg w.toNat x else false
def paX (w : Int) (x : Nat) : Nat := if fits w x then ex w.toNat x else 0
def paF (w : Int) (x : Nat) : Nat := if fits w x then fr w.toNat x else 0
def paE (w : Int) (x : Nat) : Nat := if fits w x then 0 else 1
/-- the class of parts -/
def cls (w e m : Nat) : Nat := if e = 2 ^ xb w - 1 then (if m = 0 then 3 else 4) else if 0 < e then 2 else if 0 < m then 1 else 0
def clC (w : Int) (x : Nat) : Nat := if fits w x then cls w.toNat (ex w.toNat x) (fr w.toNat x) else 0
end Go.Proofs.Ytkgejncolchobaa.nn
