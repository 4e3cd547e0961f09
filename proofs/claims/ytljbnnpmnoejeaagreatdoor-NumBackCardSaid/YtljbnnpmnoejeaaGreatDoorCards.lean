/-
  DERIVED. GIVEN WITH THE SEED: THE CARDS: each row of YtljbnnpmnoejeaaGreatDoorRows.lean that lists a variable, with what it lists TIED to the program's text (the seventh form; the later family's looks); each row that meets fmt, with fmt's text TOLD by the authors' own Lean function (tested against real Go, not proved from fmt's source: count such statements apart). THE CARD IS WHAT COUNTS. Prove the row's statement (the work); the ties are given (YtljbnnpmnoejeaaGreatDoorTie.lean); close each card by the builder's one call (the guide's Derived/Test/ToyasCard.lean, 'card_holds'). Laid BY PROGRAM, IN A SANDBOX (cutbox-door.mjs). By AI agents, Wed Nov 11 2026. No macro, syntax, notation, axiom, sorry.
-/
import Derived.Test.YtljbnnpmnoejeaaGreatDoorRows
import GoSem.ClaimSeven
namespace Go.Proofs.YtljbnnpmnoejeaaGreatDoor
namespace Rows

/-- THE TIED CARD OF 'glossatorlaw07.NumValues'. -/
def numValuesCard : Claim7 := { stood := { row := numValuesRow, standIns := [], harness := (true, "ffa8c05efaf2606f8ecd75747c6b997736ca1bb60a3ee5cd01d8e020d0fe6350"), looks := false }, kinds := [], alts := [], laidByText := true, laidKinds := [.data, .pinned], laidTests := true, laidLooks := .later }
def NumValuesCardSaid : Prop := Claim7.holds Tryz.pinned (.plain (OpenSpec.ofChange numValuesSpec)) numValuesCard

/-- THE TIED CARD OF 'glossatorlaw07.NumTexts'. -/
def numTextsCard : Claim7 := { stood := { row := numTextsRow, standIns := [], harness := (true, "ffa8c05efaf2606f8ecd75747c6b997736ca1bb60a3ee5cd01d8e020d0fe6350"), looks := false }, kinds := [], alts := [], laidByText := true, laidKinds := [.data, .data, .data, .data, .pinned], laidTests := true, laidLooks := .later }
def NumTextsCardSaid : Prop := Claim7.holds Tryz.pinned (.plain (OpenSpec.ofChange numTextsSpec)) numTextsCard

/-- THE TIED CARD OF 'glossatorlaw07.NumBack'. -/
def numBackCard : Claim7 := { stood := { row := numBackRow, standIns := [], harness := (true, "ffa8c05efaf2606f8ecd75747c6b997736ca1bb60a3ee5cd01d8e020d0fe6350"), looks := false }, kinds := [], alts := [], laidByText := true, laidKinds := [.data, .data, .data, .data, .pinned], laidTests := true, laidLooks := .later }
def NumBackCardSaid : Prop := Claim7.holds Tryz.pinned (.plain (OpenSpec.ofChange numBackSpec)) numBackCard

/-- THE TIED CARD OF 'glossatorlaw07.NumWhole'. -/
def numWholeCard : Claim7 := { stood := { row := numWholeRow, standIns := [], harness := (true, "ffa8c05efaf2606f8ecd75747c6b997736ca1bb60a3ee5cd01d8e020d0fe6350"), looks := false }, kinds := [], alts := [], laidByText := true, laidKinds := [.data, .pinned], laidTests := true, laidLooks := .later }
def NumWholeCardSaid : Prop := Claim7.holds Tryz.pinned (.plain (OpenSpec.ofChange numWholeSpec)) numWholeCard

/-- THE SECOND FORM's CARD OF 'glossatorlaw07.NumValues'. -/
def numValuesUptoCard : Claim7 := { stood := { row := numValuesUptoRow, standIns := [], harness := (true, "ffa8c05efaf2606f8ecd75747c6b997736ca1bb60a3ee5cd01d8e020d0fe6350"), looks := false }, kinds := [], alts := [], laidByText := true, laidKinds := [.data, .pinned], laidTests := true, laidLooks := .later }
def NumValuesUptoCardSaid : Prop := Claim7.holds Tryz.pinned (.plain (OpenSpec.upto numValuesSpec)) numValuesUptoCard

/-- THE SECOND FORM's CARD OF 'glossatorlaw07.NumTexts'. -/
def numTextsUptoCard : Claim7 := { stood := { row := numTextsUptoRow, standIns := [], harness := (true, "ffa8c05efaf2606f8ecd75747c6b997736ca1bb60a3ee5cd01d8e020d0fe6350"), looks := false }, kinds := [], alts := [], laidByText := true, laidKinds := [.data, .data, .data, .data, .pinned], laidTests := true, laidLooks := .later }
def NumTextsUptoCardSaid : Prop := Claim7.holds Tryz.pinned (.plain (OpenSpec.upto numTextsSpec)) numTextsUptoCard

/-- THE SECOND FORM's CARD OF 'glossatorlaw07.NumBack'. -/
def numBackUptoCard : Claim7 := { stood := { row := numBackUptoRow, standIns := [], harness := (true, "ffa8c05efaf2606f8ecd75747c6b997736ca1bb60a3ee5cd01d8e020d0fe6350"), looks := false }, kinds := [], alts := [], laidByText := true, laidKinds := [.data, .data, .data, .data, .pinned], laidTests := true, laidLooks := .later }
def NumBackUptoCardSaid : Prop := Claim7.holds Tryz.pinned (.plain (OpenSpec.upto numBackSpec)) numBackUptoCard

/-- THE SECOND FORM's CARD OF 'glossatorlaw07.NumWhole'. -/
def numWholeUptoCard : Claim7 := { stood := { row := numWholeUptoRow, standIns := [], harness := (true, "ffa8c05efaf2606f8ecd75747c6b997736ca1bb60a3ee5cd01d8e020d0fe6350"), looks := false }, kinds := [], alts := [], laidByText := true, laidKinds := [.data, .pinned], laidTests := true, laidLooks := .later }
def NumWholeUptoCardSaid : Prop := Claim7.holds Tryz.pinned (.plain (OpenSpec.upto numWholeSpec)) numWholeUptoCard
end Rows
end Go.Proofs.YtljbnnpmnoejeaaGreatDoor
