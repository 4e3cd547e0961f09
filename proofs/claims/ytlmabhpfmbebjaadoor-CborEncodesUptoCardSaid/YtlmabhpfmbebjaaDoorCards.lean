/-
  DERIVED. GIVEN WITH THE SEED: THE CARDS: each row of YtlmabhpfmbebjaaDoorRows.lean that lists a variable, with what it lists TIED to the program's text (the seventh form; the later family's looks); each row that meets fmt, with fmt's text TOLD by the authors' own Lean function (tested against real Go, not proved from fmt's source: count such statements apart). THE CARD IS WHAT COUNTS. Prove the row's statement (the work); the ties are given (YtlmabhpfmbebjaaDoorTie.lean); close each card by the builder's one call (the guide's Derived/Test/ToyasCard.lean, 'card_holds'). Laid BY PROGRAM, IN A SANDBOX (cutbox-door.mjs). By AI agents, Wed Nov 11 2026. No macro, syntax, notation, axiom, sorry.
-/
import Derived.Test.YtlmabhpfmbebjaaDoorRows
import GoSem.ClaimSeven
namespace Go.Proofs.YtlmabhpfmbebjaaDoor
namespace Rows

/-- THE TIED CARD OF 'glossatorlaw11.CborEncodes'. -/
def cborEncodesCard : Claim7 := { stood := { row := cborEncodesRow, standIns := [], harness := (true, "85cd97231f81fc818b329fda148a8c25b289c502ae06b8287a2dae4e07483863"), looks := true }, kinds := [], alts := [], laidByText := true, laidKinds := [.handle], laidTests := true, laidLooks := .later }
def CborEncodesCardSaid : Prop := Claim7.holds Tryd.pinned (.plain (OpenSpec.ofChange cborEncodesSpec)) cborEncodesCard

/-- THE TIED CARD OF 'glossatorlaw11.CborFloats'. -/
def cborFloatsCard : Claim7 := { stood := { row := cborFloatsRow, standIns := [], harness := (true, "85cd97231f81fc818b329fda148a8c25b289c502ae06b8287a2dae4e07483863"), looks := true }, kinds := [], alts := [], laidByText := true, laidKinds := [.handle], laidTests := true, laidLooks := .later }
def CborFloatsCardSaid : Prop := Claim7.holds Tryd.pinned (.plain (OpenSpec.ofChange cborFloatsSpec)) cborFloatsCard

/-- THE TIED CARD OF 'glossatorlaw11.CborLists'. -/
def cborListsCard : Claim7 := { stood := { row := cborListsRow, standIns := [], harness := (true, "85cd97231f81fc818b329fda148a8c25b289c502ae06b8287a2dae4e07483863"), looks := true }, kinds := [], alts := [], laidByText := true, laidKinds := [.handle], laidTests := true, laidLooks := .later }
def CborListsCardSaid : Prop := Claim7.holds Tryd.pinned (.plain (OpenSpec.ofChange cborListsSpec)) cborListsCard

/-- THE SECOND FORM's CARD OF 'glossatorlaw11.CborEncodes'. -/
def cborEncodesUptoCard : Claim7 := { stood := { row := cborEncodesUptoRow, standIns := [], harness := (true, "85cd97231f81fc818b329fda148a8c25b289c502ae06b8287a2dae4e07483863"), looks := true }, kinds := [], alts := [], laidByText := true, laidKinds := [.handle], laidTests := true, laidLooks := .later }
def CborEncodesUptoCardSaid : Prop := Claim7.holds Tryd.pinned (.plain (OpenSpec.upto cborEncodesSpec)) cborEncodesUptoCard

/-- THE SECOND FORM's CARD OF 'glossatorlaw11.CborFloats'. -/
def cborFloatsUptoCard : Claim7 := { stood := { row := cborFloatsUptoRow, standIns := [], harness := (true, "85cd97231f81fc818b329fda148a8c25b289c502ae06b8287a2dae4e07483863"), looks := true }, kinds := [], alts := [], laidByText := true, laidKinds := [.handle], laidTests := true, laidLooks := .later }
def CborFloatsUptoCardSaid : Prop := Claim7.holds Tryd.pinned (.plain (OpenSpec.upto cborFloatsSpec)) cborFloatsUptoCard

/-- THE SECOND FORM's CARD OF 'glossatorlaw11.CborLists'. -/
def cborListsUptoCard : Claim7 := { stood := { row := cborListsUptoRow, standIns := [], harness := (true, "85cd97231f81fc818b329fda148a8c25b289c502ae06b8287a2dae4e07483863"), looks := true }, kinds := [], alts := [], laidByText := true, laidKinds := [.handle], laidTests := true, laidLooks := .later }
def CborListsUptoCardSaid : Prop := Claim7.holds Tryd.pinned (.plain (OpenSpec.upto cborListsSpec)) cborListsUptoCard
end Rows
end Go.Proofs.YtlmabhpfmbebjaaDoor
