/-
  DERIVED. GIVEN WITH THE SEED: THE CARDS: each row of YtpcladdipgchbaaGreatDoorRows.lean that lists a variable, with what it lists TIED to the program's text (the seventh form; the later family's looks); each row that meets fmt, with fmt's text TOLD by the authors' own Lean function (tested against real Go, not proved from fmt's source: count such statements apart). THE CARD IS WHAT COUNTS. Prove the row's statement (the work); the ties are given (YtpcladdipgchbaaGreatDoorTie.lean); close each card by the builder's one call (the guide's Derived/Test/ToyasCard.lean, 'card_holds'). Laid BY PROGRAM, IN A SANDBOX (cutbox-door.mjs). By AI agents, Wed Nov 11 2026. No macro, syntax, notation, axiom, sorry.
-/
import Derived.Test.YtpcladdipgchbaaGreatDoorRows
import GoSem.ClaimSeven
namespace Go.Proofs.YtpcladdipgchbaaGreatDoor
namespace Rows

/-- THE TIED CARD OF 'glossatorlaw11.CborBack'. -/
def cborBackCard : Claim7 := { stood := { row := cborBackRow, standIns := [], harness := (true, "3081c4ac11d8c65e5d20deb5fd9960d8771a6f16616681cfe98e897dd3efdf3f"), looks := true }, kinds := [], alts := [], laidByText := true, laidKinds := [.handle], laidTests := true, laidLooks := .later }
def CborBackCardSaid : Prop := Claim7.holds Tryz.pinned (.plain (OpenSpec.ofChange cborBackSpec)) cborBackCard

/-- THE TIED CARD OF 'glossatorlaw11.CborRight'. -/
def cborRightCard : Claim7 := { stood := { row := cborRightRow, standIns := [], harness := (true, "3081c4ac11d8c65e5d20deb5fd9960d8771a6f16616681cfe98e897dd3efdf3f"), looks := true }, kinds := [], alts := [], laidByText := true, laidKinds := [.handle], laidTests := true, laidLooks := .later }
def CborRightCardSaid : Prop := Claim7.holds Tryz.pinned (.plain (OpenSpec.ofChange cborRightSpec)) cborRightCard

/-- THE TIED CARD OF 'glossatorlaw11.CborFirst'. -/
def cborFirstCard : Claim7 := { stood := { row := cborFirstRow, standIns := [], harness := (true, "3081c4ac11d8c65e5d20deb5fd9960d8771a6f16616681cfe98e897dd3efdf3f"), looks := true }, kinds := [], alts := [], laidByText := true, laidKinds := [.handle], laidTests := true, laidLooks := .later }
def CborFirstCardSaid : Prop := Claim7.holds Tryz.pinned (.plain (OpenSpec.ofChange cborFirstSpec)) cborFirstCard

/-- THE TIED CARD OF 'glossatorlaw11.CborGoesOn'. -/
def cborGoesOnCard : Claim7 := { stood := { row := cborGoesOnRow, standIns := [], harness := (true, "3081c4ac11d8c65e5d20deb5fd9960d8771a6f16616681cfe98e897dd3efdf3f"), looks := true }, kinds := [], alts := [], laidByText := true, laidKinds := [.handle], laidTests := true, laidLooks := .later }
def CborGoesOnCardSaid : Prop := Claim7.holds Tryz.pinned (.plain (OpenSpec.ofChange cborGoesOnSpec)) cborGoesOnCard

/-- THE TIED CARD OF 'glossatorlaw12.DetPlains'. -/
def detPlainsCard : Claim7 := { stood := { row := detPlainsRow, standIns := [], harness := (true, "3081c4ac11d8c65e5d20deb5fd9960d8771a6f16616681cfe98e897dd3efdf3f"), looks := true }, kinds := [], alts := [], laidByText := true, laidKinds := [.data, .handle, .pinned], laidTests := true, laidLooks := .later }
def DetPlainsCardSaid : Prop := Claim7.holds Tryz.pinned (.plain (OpenSpec.ofChange detPlainsSpec)) detPlainsCard

/-- THE TIED CARD OF 'glossatorlaw12.DetIs'. -/
def detIsCard : Claim7 := { stood := { row := detIsRow, standIns := [], harness := (true, "3081c4ac11d8c65e5d20deb5fd9960d8771a6f16616681cfe98e897dd3efdf3f"), looks := true }, kinds := [], alts := [], laidByText := true, laidKinds := [.data, .handle, .pinned], laidTests := true, laidLooks := .later }
def DetIsCardSaid : Prop := Claim7.holds Tryz.pinned (.plain (OpenSpec.ofChange detIsSpec)) detIsCard

/-- THE TIED CARD OF 'glossatorlaw12.DetTwice'. -/
def detTwiceCard : Claim7 := { stood := { row := detTwiceRow, standIns := [], harness := (true, "3081c4ac11d8c65e5d20deb5fd9960d8771a6f16616681cfe98e897dd3efdf3f"), looks := true }, kinds := [], alts := [], laidByText := true, laidKinds := [.data, .handle, .pinned], laidTests := true, laidLooks := .later }
def DetTwiceCardSaid : Prop := Claim7.holds Tryz.pinned (.plain (OpenSpec.ofChange detTwiceSpec)) detTwiceCard

/-- THE TIED CARD OF 'glossatorlaw12.DetSame'. -/
def detSameCard : Claim7 := { stood := { row := detSameRow, standIns := [], harness := (true, "3081c4ac11d8c65e5d20deb5fd9960d8771a6f16616681cfe98e897dd3efdf3f"), looks := true }, kinds := [], alts := [], laidByText := true, laidKinds := [.data, .handle, .pinned], laidTests := true, laidLooks := .later }
def DetSameCardSaid : Prop := Claim7.holds Tryz.pinned (.plain (OpenSpec.ofChange detSameSpec)) detSameCard

/-- THE TIED CARD OF 'glossatorlaw12.DetRules'. -/
def detRulesCard : Claim7 := { stood := { row := detRulesRow, standIns := [], harness := (true, "3081c4ac11d8c65e5d20deb5fd9960d8771a6f16616681cfe98e897dd3efdf3f"), looks := true }, kinds := [], alts := [], laidByText := true, laidKinds := [.data, .handle, .pinned], laidTests := true, laidLooks := .later }
def DetRulesCardSaid : Prop := Claim7.holds Tryz.pinned (.plain (OpenSpec.ofChange detRulesSpec)) detRulesCard

/-- THE TIED CARD OF 'glossatorlaw12.DetOrder'. -/
def detOrderCard : Claim7 := { stood := { row := detOrderRow, standIns := [], harness := (true, "3081c4ac11d8c65e5d20deb5fd9960d8771a6f16616681cfe98e897dd3efdf3f"), looks := true }, kinds := [], alts := [], laidByText := true, laidKinds := [.data, .handle, .pinned], laidTests := true, laidLooks := .later }
def DetOrderCardSaid : Prop := Claim7.holds Tryz.pinned (.plain (OpenSpec.ofChange detOrderSpec)) detOrderCard

/-- THE TIED CARD OF 'glossatortop.WholeDet'. -/
def wholeDetCard : Claim7 := { stood := { row := wholeDetRow, standIns := [], harness := (true, "3081c4ac11d8c65e5d20deb5fd9960d8771a6f16616681cfe98e897dd3efdf3f"), looks := true }, kinds := [], alts := [], laidByText := true, laidKinds := [.data, .handle, .pinned], laidTests := true, laidLooks := .later }
def WholeDetCardSaid : Prop := Claim7.holds Tryz.pinned (.plain (OpenSpec.ofChange wholeDetSpec)) wholeDetCard

/-- THE SECOND FORM's CARD OF 'glossatorlaw11.CborBack'. -/
def cborBackUptoCard : Claim7 := { stood := { row := cborBackUptoRow, standIns := [], harness := (true, "3081c4ac11d8c65e5d20deb5fd9960d8771a6f16616681cfe98e897dd3efdf3f"), looks := true }, kinds := [], alts := [], laidByText := true, laidKinds := [.handle], laidTests := true, laidLooks := .later }
def CborBackUptoCardSaid : Prop := Claim7.holds Tryz.pinned (.plain (OpenSpec.upto cborBackSpec)) cborBackUptoCard

/-- THE SECOND FORM's CARD OF 'glossatorlaw11.CborRight'. -/
def cborRightUptoCard : Claim7 := { stood := { row := cborRightUptoRow, standIns := [], harness := (true, "3081c4ac11d8c65e5d20deb5fd9960d8771a6f16616681cfe98e897dd3efdf3f"), looks := true }, kinds := [], alts := [], laidByText := true, laidKinds := [.handle], laidTests := true, laidLooks := .later }
def CborRightUptoCardSaid : Prop := Claim7.holds Tryz.pinned (.plain (OpenSpec.upto cborRightSpec)) cborRightUptoCard

/-- THE SECOND FORM's CARD OF 'glossatorlaw11.CborFirst'. -/
def cborFirstUptoCard : Claim7 := { stood := { row := cborFirstUptoRow, standIns := [], harness := (true, "3081c4ac11d8c65e5d20deb5fd9960d8771a6f16616681cfe98e897dd3efdf3f"), looks := true }, kinds := [], alts := [], laidByText := true, laidKinds := [.handle], laidTests := true, laidLooks := .later }
def CborFirstUptoCardSaid : Prop := Claim7.holds Tryz.pinned (.plain (OpenSpec.upto cborFirstSpec)) cborFirstUptoCard

/-- THE SECOND FORM's CARD OF 'glossatorlaw11.CborGoesOn'. -/
def cborGoesOnUptoCard : Claim7 := { stood := { row := cborGoesOnUptoRow, standIns := [], harness := (true, "3081c4ac11d8c65e5d20deb5fd9960d8771a6f16616681cfe98e897dd3efdf3f"), looks := true }, kinds := [], alts := [], laidByText := true, laidKinds := [.handle], laidTests := true, laidLooks := .later }
def CborGoesOnUptoCardSaid : Prop := Claim7.holds Tryz.pinned (.plain (OpenSpec.upto cborGoesOnSpec)) cborGoesOnUptoCard

/-- THE SECOND FORM's CARD OF 'glossatorlaw12.DetPlains'. -/
def detPlainsUptoCard : Claim7 := { stood := { row := detPlainsUptoRow, standIns := [], harness := (true, "3081c4ac11d8c65e5d20deb5fd9960d8771a6f16616681cfe98e897dd3efdf3f"), looks := true }, kinds := [], alts := [], laidByText := true, laidKinds := [.data, .handle, .pinned], laidTests := true, laidLooks := .later }
def DetPlainsUptoCardSaid : Prop := Claim7.holds Tryz.pinned (.plain (OpenSpec.upto detPlainsSpec)) detPlainsUptoCard

/-- THE SECOND FORM's CARD OF 'glossatorlaw12.DetIs'. -/
def detIsUptoCard : Claim7 := { stood := { row := detIsUptoRow, standIns := [], harness := (true, "3081c4ac11d8c65e5d20deb5fd9960d8771a6f16616681cfe98e897dd3efdf3f"), looks := true }, kinds := [], alts := [], laidByText := true, laidKinds := [.data, .handle, .pinned], laidTests := true, laidLooks := .later }
def DetIsUptoCardSaid : Prop := Claim7.holds Tryz.pinned (.plain (OpenSpec.upto detIsSpec)) detIsUptoCard

/-- THE SECOND FORM's CARD OF 'glossatorlaw12.DetTwice'. -/
def detTwiceUptoCard : Claim7 := { stood := { row := detTwiceUptoRow, standIns := [], harness := (true, "3081c4ac11d8c65e5d20deb5fd9960d8771a6f16616681cfe98e897dd3efdf3f"), looks := true }, kinds := [], alts := [], laidByText := true, laidKinds := [.data, .handle, .pinned], laidTests := true, laidLooks := .later }
def DetTwiceUptoCardSaid : Prop := Claim7.holds Tryz.pinned (.plain (OpenSpec.upto detTwiceSpec)) detTwiceUptoCard

/-- THE SECOND FORM's CARD OF 'glossatorlaw12.DetSame'. -/
def detSameUptoCard : Claim7 := { stood := { row := detSameUptoRow, standIns := [], harness := (true, "3081c4ac11d8c65e5d20deb5fd9960d8771a6f16616681cfe98e897dd3efdf3f"), looks := true }, kinds := [], alts := [], laidByText := true, laidKinds := [.data, .handle, .pinned], laidTests := true, laidLooks := .later }
def DetSameUptoCardSaid : Prop := Claim7.holds Tryz.pinned (.plain (OpenSpec.upto detSameSpec)) detSameUptoCard

/-- THE SECOND FORM's CARD OF 'glossatorlaw12.DetRules'. -/
def detRulesUptoCard : Claim7 := { stood := { row := detRulesUptoRow, standIns := [], harness := (true, "3081c4ac11d8c65e5d20deb5fd9960d8771a6f16616681cfe98e897dd3efdf3f"), looks := true }, kinds := [], alts := [], laidByText := true, laidKinds := [.data, .handle, .pinned], laidTests := true, laidLooks := .later }
def DetRulesUptoCardSaid : Prop := Claim7.holds Tryz.pinned (.plain (OpenSpec.upto detRulesSpec)) detRulesUptoCard

/-- THE SECOND FORM's CARD OF 'glossatorlaw12.DetOrder'. -/
def detOrderUptoCard : Claim7 := { stood := { row := detOrderUptoRow, standIns := [], harness := (true, "3081c4ac11d8c65e5d20deb5fd9960d8771a6f16616681cfe98e897dd3efdf3f"), looks := true }, kinds := [], alts := [], laidByText := true, laidKinds := [.data, .handle, .pinned], laidTests := true, laidLooks := .later }
def DetOrderUptoCardSaid : Prop := Claim7.holds Tryz.pinned (.plain (OpenSpec.upto detOrderSpec)) detOrderUptoCard

/-- THE SECOND FORM's CARD OF 'glossatortop.WholeDet'. -/
def wholeDetUptoCard : Claim7 := { stood := { row := wholeDetUptoRow, standIns := [], harness := (true, "3081c4ac11d8c65e5d20deb5fd9960d8771a6f16616681cfe98e897dd3efdf3f"), looks := true }, kinds := [], alts := [], laidByText := true, laidKinds := [.data, .handle, .pinned], laidTests := true, laidLooks := .later }
def WholeDetUptoCardSaid : Prop := Claim7.holds Tryz.pinned (.plain (OpenSpec.upto wholeDetSpec)) wholeDetUptoCard
end Rows
end Go.Proofs.YtpcladdipgchbaaGreatDoor
