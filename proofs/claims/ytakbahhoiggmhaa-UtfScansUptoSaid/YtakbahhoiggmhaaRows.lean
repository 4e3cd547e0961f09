/-
  No cell of these rows narrows 'for every input' (looked for: loops, veiled, ifaces, maps, wideKeys, modest, calm, conditions, laid).
  DERIVED. THE GIVEN ROWS OF THIS SEAT. 7 by the template 'for every input the law returns true; each argument reads behind the call as it read before'; 0 by the template 'total and deterministic' (their statements: YtakbahhoiggmhaaTotals.lean).
  GIVEN WITH THE SEED: the statements are not yours to turn. If you find one false, say at which input.
  Laid BY PROGRAM, IN A SANDBOX (cutbox-rows.mjs): the forced cells as the released guide's own fill.sh prints them over the translation 6a6c886cb669f914… (all of the seat's roots in one cut). By AI agents, Wed Nov 11 2026. No macro, syntax, notation, axiom, sorry.
-/
import Derived.Test.YtakbahhoiggmhaaChecked
import GoSem.Claim
import GoSem.ClaimJoined
import GoSem.ClaimMapViews
import Derived.JoinedTies
import Derived.KernelRfl
namespace Go.Proofs.Ytakbahhoiggmhaa
/- THE CELL 'sum', in the pinned program and in every row, IS THE sha256 OF THE DUMP (.gsa) THAT YtakbahhoiggmhaaProg.lean LOADS. Nothing in Lean hashes anything: it is a label: what it is worth is what the hold of that sum in a sandbox is worth. -/
noncomputable def Try.pinned : Pinned := { name := "ytakbahhoiggmhaa", sum := "6a6c886cb669f914fb9fde5949519e319800dd7e1dbc334ca408511460168a2f", checked := Try.checked }
namespace Rows
def none {H : Type} : Left H := { results := [], args := [] }

/-- 'glossatorlaw02.UtfChecks': WHATEVER THE INPUT: true; the input reads as it did. -/
def utfChecksSpec : ChangeSpec := { name := "utfChecks", fn := fun _ => fun
  | [d1, d2] => { results := [.lit (.bool true)], args := [d1, d2] }
  | _ => none }
def utfChecksRow : OpenClaim := { program := "ytakbahhoiggmhaa", sum := "6a6c886cb669f914fb9fde5949519e319800dd7e1dbc334ca408511460168a2f", func := "glossator/glossatorlaw02.UtfChecks", spec := "utfChecks", apart := false }
def UtfChecksSaid : Prop := utfChecksRow.holds Try.pinned (OpenSpec.ofChange utfChecksSpec)

/-- ITS FALSE NEIGHBOUR: 'it returns false'. Refute it at one input. -/
def utfChecksWrong : ChangeSpec := { name := "utfChecks", fn := fun _ => fun
  | [d1, d2] => { results := [.lit (.bool false)], args := [d1, d2] }
  | _ => none }
def UtfChecksWrongFalsely : Prop := utfChecksRow.holds Try.pinned (OpenSpec.ofChange utfChecksWrong)

/-- 'glossatorlaw02.UtfPoints': WHATEVER THE INPUT: true; the input reads as it did. -/
def utfPointsSpec : ChangeSpec := { name := "utfPoints", fn := fun _ => fun
  | [d1, d2] => { results := [.lit (.bool true)], args := [d1, d2] }
  | _ => none }
def utfPointsRow : OpenClaim := { program := "ytakbahhoiggmhaa", sum := "6a6c886cb669f914fb9fde5949519e319800dd7e1dbc334ca408511460168a2f", func := "glossator/glossatorlaw02.UtfPoints", spec := "utfPoints", apart := false }
def UtfPointsSaid : Prop := utfPointsRow.holds Try.pinned (OpenSpec.ofChange utfPointsSpec)

/-- ITS FALSE NEIGHBOUR: 'it returns false'. Refute it at one input. -/
def utfPointsWrong : ChangeSpec := { name := "utfPoints", fn := fun _ => fun
  | [d1, d2] => { results := [.lit (.bool false)], args := [d1, d2] }
  | _ => none }
def UtfPointsWrongFalsely : Prop := utfPointsRow.holds Try.pinned (OpenSpec.ofChange utfPointsWrong)

/-- 'glossatorlaw02.UtfScans': WHATEVER THE INPUT: true; the input reads as it did. -/
def utfScansSpec : ChangeSpec := { name := "utfScans", fn := fun _ => fun
  | [d] => { results := [.lit (.bool true)], args := [d] }
  | _ => none }
def utfScansRow : OpenClaim := { program := "ytakbahhoiggmhaa", sum := "6a6c886cb669f914fb9fde5949519e319800dd7e1dbc334ca408511460168a2f", func := "glossator/glossatorlaw02.UtfScans", spec := "utfScans", apart := false }
def UtfScansSaid : Prop := utfScansRow.holds Try.pinned (OpenSpec.ofChange utfScansSpec)

/-- ITS FALSE NEIGHBOUR: 'it returns false'. Refute it at one input. -/
def utfScansWrong : ChangeSpec := { name := "utfScans", fn := fun _ => fun
  | [d] => { results := [.lit (.bool false)], args := [d] }
  | _ => none }
def UtfScansWrongFalsely : Prop := utfScansRow.holds Try.pinned (OpenSpec.ofChange utfScansWrong)

/-- 'glossatorlaw02.UtfBack': WHATEVER THE INPUT: true; the input reads as it did. -/
def utfBackSpec : ChangeSpec := { name := "utfBack", fn := fun _ => fun
  | [d1, d2] => { results := [.lit (.bool true)], args := [d1, d2] }
  | _ => none }
def utfBackRow : OpenClaim := { program := "ytakbahhoiggmhaa", sum := "6a6c886cb669f914fb9fde5949519e319800dd7e1dbc334ca408511460168a2f", func := "glossator/glossatorlaw02.UtfBack", spec := "utfBack", apart := false }
def UtfBackSaid : Prop := utfBackRow.holds Try.pinned (OpenSpec.ofChange utfBackSpec)

/-- ITS FALSE NEIGHBOUR: 'it returns false'. Refute it at one input. -/
def utfBackWrong : ChangeSpec := { name := "utfBack", fn := fun _ => fun
  | [d1, d2] => { results := [.lit (.bool false)], args := [d1, d2] }
  | _ => none }
def UtfBackWrongFalsely : Prop := utfBackRow.holds Try.pinned (OpenSpec.ofChange utfBackWrong)

/-- 'glossatorlaw02.UtfFirst': WHATEVER THE INPUT: true; the input reads as it did. -/
def utfFirstSpec : ChangeSpec := { name := "utfFirst", fn := fun _ => fun
  | [d1, d2] => { results := [.lit (.bool true)], args := [d1, d2] }
  | _ => none }
def utfFirstRow : OpenClaim := { program := "ytakbahhoiggmhaa", sum := "6a6c886cb669f914fb9fde5949519e319800dd7e1dbc334ca408511460168a2f", func := "glossator/glossatorlaw02.UtfFirst", spec := "utfFirst", apart := false }
def UtfFirstSaid : Prop := utfFirstRow.holds Try.pinned (OpenSpec.ofChange utfFirstSpec)

/-- ITS FALSE NEIGHBOUR: 'it returns false'. Refute it at one input. -/
def utfFirstWrong : ChangeSpec := { name := "utfFirst", fn := fun _ => fun
  | [d1, d2] => { results := [.lit (.bool false)], args := [d1, d2] }
  | _ => none }
def UtfFirstWrongFalsely : Prop := utfFirstRow.holds Try.pinned (OpenSpec.ofChange utfFirstWrong)

/-- 'glossatorlaw02.UtfWithin': WHATEVER THE INPUT: true; the input reads as it did. -/
def utfWithinSpec : ChangeSpec := { name := "utfWithin", fn := fun _ => fun
  | [d1, d2, d3] => { results := [.lit (.bool true)], args := [d1, d2, d3] }
  | _ => none }
def utfWithinRow : OpenClaim := { program := "ytakbahhoiggmhaa", sum := "6a6c886cb669f914fb9fde5949519e319800dd7e1dbc334ca408511460168a2f", func := "glossator/glossatorlaw02.UtfWithin", spec := "utfWithin", apart := false }
def UtfWithinSaid : Prop := utfWithinRow.holds Try.pinned (OpenSpec.ofChange utfWithinSpec)

/-- ITS FALSE NEIGHBOUR: 'it returns false'. Refute it at one input. -/
def utfWithinWrong : ChangeSpec := { name := "utfWithin", fn := fun _ => fun
  | [d1, d2, d3] => { results := [.lit (.bool false)], args := [d1, d2, d3] }
  | _ => none }
def UtfWithinWrongFalsely : Prop := utfWithinRow.holds Try.pinned (OpenSpec.ofChange utfWithinWrong)

/-- 'glossatorlaw02.UtfZero': WHATEVER THE INPUT: true; the input reads as it did. -/
def utfZeroSpec : ChangeSpec := { name := "utfZero", fn := fun _ => fun
  | [d] => { results := [.lit (.bool true)], args := [d] }
  | _ => none }
def utfZeroRow : OpenClaim := { program := "ytakbahhoiggmhaa", sum := "6a6c886cb669f914fb9fde5949519e319800dd7e1dbc334ca408511460168a2f", func := "glossator/glossatorlaw02.UtfZero", spec := "utfZero", apart := false }
def UtfZeroSaid : Prop := utfZeroRow.holds Try.pinned (OpenSpec.ofChange utfZeroSpec)

/-- ITS FALSE NEIGHBOUR: 'it returns false'. Refute it at one input. -/
def utfZeroWrong : ChangeSpec := { name := "utfZero", fn := fun _ => fun
  | [d] => { results := [.lit (.bool false)], args := [d] }
  | _ => none }
def UtfZeroWrongFalsely : Prop := utfZeroRow.holds Try.pinned (OpenSpec.ofChange utfZeroWrong)

/- THE SECOND FORM. 'bulk': how many values and letters a reading holds, each counted each time it is reached (what is shared counts as often as it is met; a slice's spare places count too). A statement '..UptoSaid' is the law's where the arguments, and the package variables that the reading takes, are together of bulk at most 1048576: NARROWER than '..Said'. Prove '..Said' where nothing that the law and all that it calls make is longer than what came in: it says more and counts as full. Else prove '..UptoSaid'. A law counts once. -/
mutual
def uptoBulk {H : Type} : DataW H → Nat
  | .lit (.string bytes) => bytes.length + 1
  | .lit _ => 1
  | .nil => 1
  | .ptr d => uptoBulk d + 1
  | .slice elems spare => uptoBulkAll elems + uptoBulkAll spare + 1
  | .agg parts => uptoBulkAll parts + 1
  | .iface _ d => uptoBulk d + 1
  | .map entries => uptoBulkEntries entries + 1
  | .held _ => 1
def uptoBulkAll {H : Type} : List (DataW H) → Nat
  | [] => 0
  | d :: r => uptoBulk d + uptoBulkAll r
def uptoBulkEntries {H : Type} : List (Lit × DataW H) → Nat
  | [] => 0
  | x :: r => uptoBulkEntry x + uptoBulkEntries r
def uptoBulkEntry {H : Type} : Lit × DataW H → Nat
  | (.string bytes, d) => bytes.length + uptoBulk d + 1
  | (_, d) => uptoBulk d + 1
 end
def uptoSmall : (H : Type) → List (DataW H) → Bool := fun _ ds => decide (uptoBulkAll ds ≤ 1048576)
def OpenSpec.upto (s : _root_.Go.ChangeSpec) : _root_.Go.OpenSpec := { _root_.Go.OpenSpec.ofChange s with cond := some uptoSmall }

/-- 'glossatorlaw02.UtfChecks', WHERE WHAT IT READS IS OF BULK AT MOST 1048576: true; the input reads as it did. -/
def utfChecksUptoRow : OpenClaim := { program := "ytakbahhoiggmhaa", sum := "6a6c886cb669f914fb9fde5949519e319800dd7e1dbc334ca408511460168a2f", func := "glossator/glossatorlaw02.UtfChecks", spec := "utfChecks", apart := false, narrowed := true }
def UtfChecksUptoSaid : Prop := utfChecksUptoRow.holds Try.pinned (OpenSpec.upto utfChecksSpec)

/-- 'glossatorlaw02.UtfPoints', WHERE WHAT IT READS IS OF BULK AT MOST 1048576: true; the input reads as it did. -/
def utfPointsUptoRow : OpenClaim := { program := "ytakbahhoiggmhaa", sum := "6a6c886cb669f914fb9fde5949519e319800dd7e1dbc334ca408511460168a2f", func := "glossator/glossatorlaw02.UtfPoints", spec := "utfPoints", apart := false, narrowed := true }
def UtfPointsUptoSaid : Prop := utfPointsUptoRow.holds Try.pinned (OpenSpec.upto utfPointsSpec)

/-- 'glossatorlaw02.UtfScans', WHERE WHAT IT READS IS OF BULK AT MOST 1048576: true; the input reads as it did. -/
def utfScansUptoRow : OpenClaim := { program := "ytakbahhoiggmhaa", sum := "6a6c886cb669f914fb9fde5949519e319800dd7e1dbc334ca408511460168a2f", func := "glossator/glossatorlaw02.UtfScans", spec := "utfScans", apart := false, narrowed := true }
def UtfScansUptoSaid : Prop := utfScansUptoRow.holds Try.pinned (OpenSpec.upto utfScansSpec)

/-- 'glossatorlaw02.UtfBack', WHERE WHAT IT READS IS OF BULK AT MOST 1048576: true; the input reads as it did. -/
def utfBackUptoRow : OpenClaim := { program := "ytakbahhoiggmhaa", sum := "6a6c886cb669f914fb9fde5949519e319800dd7e1dbc334ca408511460168a2f", func := "glossator/glossatorlaw02.UtfBack", spec := "utfBack", apart := false, narrowed := true }
def UtfBackUptoSaid : Prop := utfBackUptoRow.holds Try.pinned (OpenSpec.upto utfBackSpec)

/-- 'glossatorlaw02.UtfFirst', WHERE WHAT IT READS IS OF BULK AT MOST 1048576: true; the input reads as it did. -/
def utfFirstUptoRow : OpenClaim := { program := "ytakbahhoiggmhaa", sum := "6a6c886cb669f914fb9fde5949519e319800dd7e1dbc334ca408511460168a2f", func := "glossator/glossatorlaw02.UtfFirst", spec := "utfFirst", apart := false, narrowed := true }
def UtfFirstUptoSaid : Prop := utfFirstUptoRow.holds Try.pinned (OpenSpec.upto utfFirstSpec)

/-- 'glossatorlaw02.UtfWithin', WHERE WHAT IT READS IS OF BULK AT MOST 1048576: true; the input reads as it did. -/
def utfWithinUptoRow : OpenClaim := { program := "ytakbahhoiggmhaa", sum := "6a6c886cb669f914fb9fde5949519e319800dd7e1dbc334ca408511460168a2f", func := "glossator/glossatorlaw02.UtfWithin", spec := "utfWithin", apart := false, narrowed := true }
def UtfWithinUptoSaid : Prop := utfWithinUptoRow.holds Try.pinned (OpenSpec.upto utfWithinSpec)

/-- 'glossatorlaw02.UtfZero', WHERE WHAT IT READS IS OF BULK AT MOST 1048576: true; the input reads as it did. -/
def utfZeroUptoRow : OpenClaim := { program := "ytakbahhoiggmhaa", sum := "6a6c886cb669f914fb9fde5949519e319800dd7e1dbc334ca408511460168a2f", func := "glossator/glossatorlaw02.UtfZero", spec := "utfZero", apart := false, narrowed := true }
def UtfZeroUptoSaid : Prop := utfZeroUptoRow.holds Try.pinned (OpenSpec.upto utfZeroSpec)

end Rows
end Go.Proofs.Ytakbahhoiggmhaa
