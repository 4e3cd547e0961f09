/-
  DERIVED. GIVEN WITH THE SEED: THE CARDS: each row of YtcndkhgbgjnclaaGreatDoorRows.lean that lists a variable, with what it lists TIED to the program's text (the seventh form; the later family's looks); each row that meets fmt, with fmt's text TOLD by the authors' own Lean function (tested against real Go, not proved from fmt's source: count such statements apart). THE CARD IS WHAT COUNTS. Prove the row's statement (the work); the ties are given (YtcndkhgbgjnclaaGreatDoorTie.lean); close each card by the builder's one call (the guide's Derived/Test/ToyasCard.lean, 'card_holds'). Laid BY PROGRAM, IN A SANDBOX (cutbox-door.mjs). By AI agents, Wed Nov 11 2026. No macro, syntax, notation, axiom, sorry.
-/
import Derived.Test.YtcndkhgbgjnclaaGreatDoorRows
import GoSem.ClaimSeven
namespace Go.Proofs.YtcndkhgbgjnclaaGreatDoor
namespace Rows

/-- THE TIED CARD OF 'glossatorlaw06.FdecShorts'. -/
def fdecShortsCard : Claim7 := { stood := { row := fdecShortsRow, standIns := [], harness := (true, "e4c56d0172e25a2ef7268ad5e7d814c787961267393d78f53fb202180166cb85"), looks := false }, kinds := [], alts := [], laidByText := true, laidKinds := [.data, .data, .data, .data, .pinned], laidTests := true, laidLooks := .later }
def FdecShortsCardSaid : Prop := Claim7.holds Tryz.pinned (.plain (OpenSpec.ofChange fdecShortsSpec)) fdecShortsCard

/-- THE TIED CARD OF 'glossatorlaw06.FdecScans'. -/
def fdecScansCard : Claim7 := { stood := { row := fdecScansRow, standIns := [], harness := (true, "e4c56d0172e25a2ef7268ad5e7d814c787961267393d78f53fb202180166cb85"), looks := false }, kinds := [], alts := [], laidByText := true, laidKinds := [.data, .pinned], laidTests := true, laidLooks := .later }
def FdecScansCardSaid : Prop := Claim7.holds Tryz.pinned (.plain (OpenSpec.ofChange fdecScansSpec)) fdecScansCard

/-- THE TIED CARD OF 'glossatorlaw06.FdecBack'. -/
def fdecBackCard : Claim7 := { stood := { row := fdecBackRow, standIns := [], harness := (true, "e4c56d0172e25a2ef7268ad5e7d814c787961267393d78f53fb202180166cb85"), looks := false }, kinds := [], alts := [], laidByText := true, laidKinds := [.data, .data, .data, .data, .pinned], laidTests := true, laidLooks := .later }
def FdecBackCardSaid : Prop := Claim7.holds Tryz.pinned (.plain (OpenSpec.ofChange fdecBackSpec)) fdecBackCard

/-- THE TIED CARD OF 'glossatorlaw06.FdecFewest'. -/
def fdecFewestCard : Claim7 := { stood := { row := fdecFewestRow, standIns := [], harness := (true, "e4c56d0172e25a2ef7268ad5e7d814c787961267393d78f53fb202180166cb85"), looks := false }, kinds := [], alts := [], laidByText := true, laidKinds := [.data, .data, .data, .data, .pinned], laidTests := true, laidLooks := .later }
def FdecFewestCardSaid : Prop := Claim7.holds Tryz.pinned (.plain (OpenSpec.ofChange fdecFewestSpec)) fdecFewestCard

/-- THE SECOND FORM's CARD OF 'glossatorlaw06.FdecShorts'. -/
def fdecShortsUptoCard : Claim7 := { stood := { row := fdecShortsUptoRow, standIns := [], harness := (true, "e4c56d0172e25a2ef7268ad5e7d814c787961267393d78f53fb202180166cb85"), looks := false }, kinds := [], alts := [], laidByText := true, laidKinds := [.data, .data, .data, .data, .pinned], laidTests := true, laidLooks := .later }
def FdecShortsUptoCardSaid : Prop := Claim7.holds Tryz.pinned (.plain (OpenSpec.upto fdecShortsSpec)) fdecShortsUptoCard

/-- THE SECOND FORM's CARD OF 'glossatorlaw06.FdecScans'. -/
def fdecScansUptoCard : Claim7 := { stood := { row := fdecScansUptoRow, standIns := [], harness := (true, "e4c56d0172e25a2ef7268ad5e7d814c787961267393d78f53fb202180166cb85"), looks := false }, kinds := [], alts := [], laidByText := true, laidKinds := [.data, .pinned], laidTests := true, laidLooks := .later }
def FdecScansUptoCardSaid : Prop := Claim7.holds Tryz.pinned (.plain (OpenSpec.upto fdecScansSpec)) fdecScansUptoCard

/-- THE SECOND FORM's CARD OF 'glossatorlaw06.FdecBack'. -/
def fdecBackUptoCard : Claim7 := { stood := { row := fdecBackUptoRow, standIns := [], harness := (true, "e4c56d0172e25a2ef7268ad5e7d814c787961267393d78f53fb202180166cb85"), looks := false }, kinds := [], alts := [], laidByText := true, laidKinds := [.data, .data, .data, .data, .pinned], laidTests := true, laidLooks := .later }
def FdecBackUptoCardSaid : Prop := Claim7.holds Tryz.pinned (.plain (OpenSpec.upto fdecBackSpec)) fdecBackUptoCard

/-- THE SECOND FORM's CARD OF 'glossatorlaw06.FdecFewest'. -/
def fdecFewestUptoCard : Claim7 := { stood := { row := fdecFewestUptoRow, standIns := [], harness := (true, "e4c56d0172e25a2ef7268ad5e7d814c787961267393d78f53fb202180166cb85"), looks := false }, kinds := [], alts := [], laidByText := true, laidKinds := [.data, .data, .data, .data, .pinned], laidTests := true, laidLooks := .later }
def FdecFewestUptoCardSaid : Prop := Claim7.holds Tryz.pinned (.plain (OpenSpec.upto fdecFewestSpec)) fdecFewestUptoCard
end Rows
end Go.Proofs.YtcndkhgbgjnclaaGreatDoor
