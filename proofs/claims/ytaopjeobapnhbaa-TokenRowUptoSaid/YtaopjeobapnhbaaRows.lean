/-
  No cell of these rows narrows 'for every input' (looked for: loops, veiled, ifaces, maps, wideKeys, modest, calm, conditions, laid).
  DERIVED. THE GIVEN ROWS OF THIS SEAT. 4 by the template 'for every input the law returns true; each argument reads behind the call as it read before'; 0 by the template 'total and deterministic' (their statements: YtaopjeobapnhbaaTotals.lean).
  GIVEN WITH THE SEED: the statements are not yours to turn. If you find one false, say at which input.
  Laid BY PROGRAM, IN A SANDBOX (cutbox-rows.mjs): the forced cells as the released guide's own fill.sh prints them over the translation ae0a3a0ad29c3515… (all of the seat's roots in one cut). By AI agents, Wed Nov 11 2026. No macro, syntax, notation, axiom, sorry.
-/
import Derived.Test.YtaopjeobapnhbaaChecked
import GoSem.Claim
import GoSem.ClaimJoined
import GoSem.ClaimMapViews
import Derived.JoinedTies
import Derived.KernelRfl
namespace Go.Proofs.Ytaopjeobapnhbaa
/- THE CELL 'sum', in the pinned program and in every row, IS THE sha256 OF THE DUMP (.gsa) THAT YtaopjeobapnhbaaProg.lean LOADS. Nothing in Lean hashes anything: it is a label: what it is worth is what the hold of that sum in a sandbox is worth. -/
noncomputable def Try.pinned : Pinned := { name := "ytaopjeobapnhbaa", sum := "ae0a3a0ad29c3515ef81eb4e3907d0e091db0f7a4a8f2b8379e8e31818b996dc", checked := Try.checked }
namespace Rows
def none {H : Type} : Left H := { results := [], args := [] }

/-- 'glossatorlaw14.TokenNexts': WHATEVER THE INPUT: true; the input reads as it did. -/
def tokenNextsSpec : ChangeSpec := { name := "tokenNexts", fn := fun _ => fun
  | [d1, d2] => { results := [.lit (.bool true)], args := [d1, d2] }
  | _ => none }
def tokenNextsRow : OpenClaim := { program := "ytaopjeobapnhbaa", sum := "ae0a3a0ad29c3515ef81eb4e3907d0e091db0f7a4a8f2b8379e8e31818b996dc", func := "glossator/glossatorlaw14.TokenNexts", spec := "tokenNexts", inPlace := ["internal/abi.NoEscape"], unfollowed := true, recurses := true, apart := false }
def TokenNextsSaid : Prop := tokenNextsRow.holds Try.pinned (OpenSpec.ofChange tokenNextsSpec)

/-- ITS FALSE NEIGHBOUR: 'it returns false'. Refute it at one input. -/
def tokenNextsWrong : ChangeSpec := { name := "tokenNexts", fn := fun _ => fun
  | [d1, d2] => { results := [.lit (.bool false)], args := [d1, d2] }
  | _ => none }
def TokenNextsWrongFalsely : Prop := tokenNextsRow.holds Try.pinned (OpenSpec.ofChange tokenNextsWrong)

/-- 'glossatorlaw14.TokenLists': WHATEVER THE INPUT: true; the input reads as it did. -/
def tokenListsSpec : ChangeSpec := { name := "tokenLists", fn := fun _ => fun
  | [d] => { results := [.lit (.bool true)], args := [d] }
  | _ => none }
def tokenListsRow : OpenClaim := { program := "ytaopjeobapnhbaa", sum := "ae0a3a0ad29c3515ef81eb4e3907d0e091db0f7a4a8f2b8379e8e31818b996dc", func := "glossator/glossatorlaw14.TokenLists", spec := "tokenLists", inPlace := ["internal/abi.NoEscape"], unfollowed := true, recurses := true, apart := false }
def TokenListsSaid : Prop := tokenListsRow.holds Try.pinned (OpenSpec.ofChange tokenListsSpec)

/-- ITS FALSE NEIGHBOUR: 'it returns false'. Refute it at one input. -/
def tokenListsWrong : ChangeSpec := { name := "tokenLists", fn := fun _ => fun
  | [d] => { results := [.lit (.bool false)], args := [d] }
  | _ => none }
def TokenListsWrongFalsely : Prop := tokenListsRow.holds Try.pinned (OpenSpec.ofChange tokenListsWrong)

/-- 'glossatorlaw14.TokenRow': WHATEVER THE INPUT: true; the input reads as it did. -/
def tokenRowSpec : ChangeSpec := { name := "tokenRow", fn := fun _ => fun
  | [d] => { results := [.lit (.bool true)], args := [d] }
  | _ => none }
def tokenRowRow : OpenClaim := { program := "ytaopjeobapnhbaa", sum := "ae0a3a0ad29c3515ef81eb4e3907d0e091db0f7a4a8f2b8379e8e31818b996dc", func := "glossator/glossatorlaw14.TokenRow", spec := "tokenRow", inPlace := ["internal/abi.NoEscape"], unfollowed := true, recurses := true, apart := false }
def TokenRowSaid : Prop := tokenRowRow.holds Try.pinned (OpenSpec.ofChange tokenRowSpec)

/-- ITS FALSE NEIGHBOUR: 'it returns false'. Refute it at one input. -/
def tokenRowWrong : ChangeSpec := { name := "tokenRow", fn := fun _ => fun
  | [d] => { results := [.lit (.bool false)], args := [d] }
  | _ => none }
def TokenRowWrongFalsely : Prop := tokenRowRow.holds Try.pinned (OpenSpec.ofChange tokenRowWrong)

/-- 'glossatorlaw14.TokenBlanks': WHATEVER THE INPUT: true; the input reads as it did. -/
def tokenBlanksSpec : ChangeSpec := { name := "tokenBlanks", fn := fun _ => fun
  | [d1, d2] => { results := [.lit (.bool true)], args := [d1, d2] }
  | _ => none }
def tokenBlanksRow : OpenClaim := { program := "ytaopjeobapnhbaa", sum := "ae0a3a0ad29c3515ef81eb4e3907d0e091db0f7a4a8f2b8379e8e31818b996dc", func := "glossator/glossatorlaw14.TokenBlanks", spec := "tokenBlanks", inPlace := ["internal/abi.NoEscape"], unfollowed := true, recurses := true, apart := false }
def TokenBlanksSaid : Prop := tokenBlanksRow.holds Try.pinned (OpenSpec.ofChange tokenBlanksSpec)

/-- ITS FALSE NEIGHBOUR: 'it returns false'. Refute it at one input. -/
def tokenBlanksWrong : ChangeSpec := { name := "tokenBlanks", fn := fun _ => fun
  | [d1, d2] => { results := [.lit (.bool false)], args := [d1, d2] }
  | _ => none }
def TokenBlanksWrongFalsely : Prop := tokenBlanksRow.holds Try.pinned (OpenSpec.ofChange tokenBlanksWrong)

/- THE SECOND FORM. 'bulk': how many values and letters a reading holds, each counted each time it is reached (what is shared counts as often as it is met; a slice's spare places count too). A statement '..UptoSaid' is the law's where the arguments, and the package variables that the reading takes, are together of bulk at most 1048576: NARROWER than '..Said'. Prove '..Said' where nothing that the law and all that it calls make is longer than what came in: it says more and counts as full. Else prove '..UptoSaid'. A law counts once. -/
mutual
def uptoBulk {H : Type} : DataW H → Nat
  | .lit (.string bytes) => bytes.length + 1
  | .lit _ => 1
  | .nil => 1
  | .ptr d => uptoBulk d + 1
  | .slice elems spare => uptoBulkAll elems + uptoBulkAll spare + 1
  | .agg parts => uptoBulkAll parts + 1
  | .iface _ d => uptoBulk d + 1
  | .map entries => uptoBulkEntries entries + 1
  | .held _ => 1
def uptoBulkAll {H : Type} : List (DataW H) → Nat
  | [] => 0
  | d :: r => uptoBulk d + uptoBulkAll r
def uptoBulkEntries {H : Type} : List (Lit × DataW H) → Nat
  | [] => 0
  | x :: r => uptoBulkEntry x + uptoBulkEntries r
def uptoBulkEntry {H : Type} : Lit × DataW H → Nat
  | (.string bytes, d) => bytes.length + uptoBulk d + 1
  | (_, d) => uptoBulk d + 1
 end
def uptoSmall : (H : Type) → List (DataW H) → Bool := fun _ ds => decide (uptoBulkAll ds ≤ 1048576)
def OpenSpec.upto (s : _root_.Go.ChangeSpec) : _root_.Go.OpenSpec := { _root_.Go.OpenSpec.ofChange s with cond := some uptoSmall }

/-- 'glossatorlaw14.TokenNexts', WHERE WHAT IT READS IS OF BULK AT MOST 1048576: true; the input reads as it did. -/
def tokenNextsUptoRow : OpenClaim := { program := "ytaopjeobapnhbaa", sum := "ae0a3a0ad29c3515ef81eb4e3907d0e091db0f7a4a8f2b8379e8e31818b996dc", func := "glossator/glossatorlaw14.TokenNexts", spec := "tokenNexts", inPlace := ["internal/abi.NoEscape"], unfollowed := true, recurses := true, apart := false, narrowed := true }
def TokenNextsUptoSaid : Prop := tokenNextsUptoRow.holds Try.pinned (OpenSpec.upto tokenNextsSpec)

/-- 'glossatorlaw14.TokenLists', WHERE WHAT IT READS IS OF BULK AT MOST 1048576: true; the input reads as it did. -/
def tokenListsUptoRow : OpenClaim := { program := "ytaopjeobapnhbaa", sum := "ae0a3a0ad29c3515ef81eb4e3907d0e091db0f7a4a8f2b8379e8e31818b996dc", func := "glossator/glossatorlaw14.TokenLists", spec := "tokenLists", inPlace := ["internal/abi.NoEscape"], unfollowed := true, recurses := true, apart := false, narrowed := true }
def TokenListsUptoSaid : Prop := tokenListsUptoRow.holds Try.pinned (OpenSpec.upto tokenListsSpec)

/-- 'glossatorlaw14.TokenRow', WHERE WHAT IT READS IS OF BULK AT MOST 1048576: true; the input reads as it did. -/
def tokenRowUptoRow : OpenClaim := { program := "ytaopjeobapnhbaa", sum := "ae0a3a0ad29c3515ef81eb4e3907d0e091db0f7a4a8f2b8379e8e31818b996dc", func := "glossator/glossatorlaw14.TokenRow", spec := "tokenRow", inPlace := ["internal/abi.NoEscape"], unfollowed := true, recurses := true, apart := false, narrowed := true }
def TokenRowUptoSaid : Prop := tokenRowUptoRow.holds Try.pinned (OpenSpec.upto tokenRowSpec)

/-- 'glossatorlaw14.TokenBlanks', WHERE WHAT IT READS IS OF BULK AT MOST 1048576: true; the input reads as it did. -/
def tokenBlanksUptoRow : OpenClaim := { program := "ytaopjeobapnhbaa", sum := "ae0a3a0ad29c3515ef81eb4e3907d0e091db0f7a4a8f2b8379e8e31818b996dc", func := "glossator/glossatorlaw14.TokenBlanks", spec := "tokenBlanks", inPlace := ["internal/abi.NoEscape"], unfollowed := true, recurses := true, apart := false, narrowed := true }
def TokenBlanksUptoSaid : Prop := tokenBlanksUptoRow.holds Try.pinned (OpenSpec.upto tokenBlanksSpec)

end Rows
end Go.Proofs.Ytaopjeobapnhbaa
