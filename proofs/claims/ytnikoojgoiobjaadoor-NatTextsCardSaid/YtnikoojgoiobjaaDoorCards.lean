/-
  DERIVED. GIVEN WITH THE SEED: THE CARDS: each row of YtnikoojgoiobjaaDoorRows.lean that lists a variable, with what it lists TIED to the program's text (the seventh form; the later family's looks); each row that meets fmt, with fmt's text TOLD by the authors' own Lean function (tested against real Go, not proved from fmt's source: count such statements apart). THE CARD IS WHAT COUNTS. Prove the row's statement (the work); the ties are given (YtnikoojgoiobjaaDoorTie.lean); close each card by the builder's one call (the guide's Derived/Test/ToyasCard.lean, 'card_holds'). Laid BY PROGRAM, IN A SANDBOX (cutbox-door.mjs). By AI agents, Wed Nov 11 2026. No macro, syntax, notation, axiom, sorry.
-/
import Derived.Test.YtnikoojgoiobjaaDoorRows
import GoSem.ClaimSeven
namespace Go.Proofs.YtnikoojgoiobjaaDoor
namespace Rows

/-- THE TIED CARD OF 'glossatorlaw01.NatTexts'. -/
def natTextsCard : Claim7 := { stood := { row := natTextsRow, standIns := [], harness := (true, "fac2bc92b69b4cf29b2d412363f56bc58970441f4bf845686cf515fcb9277a6e"), looks := false }, kinds := [], alts := [], laidByText := true, laidKinds := [.data, .data, .data], laidTests := true, laidLooks := .later }
def NatTextsCardSaid : Prop := Claim7.holds Tryd.pinned (.plain (OpenSpec.ofChange natTextsSpec)) natTextsCard

/-- THE TIED CARD OF 'glossatorlaw01.NatUndoes'. -/
def natUndoesCard : Claim7 := { stood := { row := natUndoesRow, standIns := [], harness := (true, "fac2bc92b69b4cf29b2d412363f56bc58970441f4bf845686cf515fcb9277a6e"), looks := false }, kinds := [], alts := [], laidByText := true, laidKinds := [.data, .data, .data], laidTests := true, laidLooks := .later }
def NatUndoesCardSaid : Prop := Claim7.holds Tryd.pinned (.plain (OpenSpec.ofChange natUndoesSpec)) natUndoesCard

/-- THE SECOND FORM's CARD OF 'glossatorlaw01.NatTexts'. -/
def natTextsUptoCard : Claim7 := { stood := { row := natTextsUptoRow, standIns := [], harness := (true, "fac2bc92b69b4cf29b2d412363f56bc58970441f4bf845686cf515fcb9277a6e"), looks := false }, kinds := [], alts := [], laidByText := true, laidKinds := [.data, .data, .data], laidTests := true, laidLooks := .later }
def NatTextsUptoCardSaid : Prop := Claim7.holds Tryd.pinned (.plain (OpenSpec.upto natTextsSpec)) natTextsUptoCard

/-- THE SECOND FORM's CARD OF 'glossatorlaw01.NatUndoes'. -/
def natUndoesUptoCard : Claim7 := { stood := { row := natUndoesUptoRow, standIns := [], harness := (true, "fac2bc92b69b4cf29b2d412363f56bc58970441f4bf845686cf515fcb9277a6e"), looks := false }, kinds := [], alts := [], laidByText := true, laidKinds := [.data, .data, .data], laidTests := true, laidLooks := .later }
def NatUndoesUptoCardSaid : Prop := Claim7.holds Tryd.pinned (.plain (OpenSpec.upto natUndoesSpec)) natUndoesUptoCard
end Rows
end Go.Proofs.YtnikoojgoiobjaaDoor
