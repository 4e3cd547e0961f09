/- The walk of DivSmall: quotient and rest by one limb, or the error. -/
import Derived.Test.YtnikoojgoiobjaaDoorDivideBy
import Derived.Test.YtnikoojgoiobjaaDoorNarrow
namespace Go.Proofs.YtnikoojgoiobjaaDoor.nn
open Go.RowKit

/-- a number, a limb, and the number of the error -/
def ResS (w w' : World) (e : Ending) (Q r er : Nat) : Prop :=
  ∃ A n c f, e = .returned (.tuple #[.slice A n c, .int .u32 (r : Int), .int .i64 (er : Int)]) ∧ Num w' A n c f Q ∧ Below w.heap.size w w'

/-- what DivSmall answers -/
def smE (n : Nat) (f : Nat → Nat) (d : Nat) : Nat := if 4096 < tr f n then 2 else if d = 0 then 1 else 0
def smQ (n : Nat) (f : Nat → Nat) (d : Nat) : Nat := if 4096 < tr f n then 0 else sm (2 ^ 32) f n / d
def smR (n : Nat) (f : Nat → Nat) (d : Nat) : Nat := if 4096 < tr f n then 0 else if d = 0 then 0 else sm (2 ^ 32) f n % d

end Go.Proofs.YtnikoojgoiobjaaDoor.nn
