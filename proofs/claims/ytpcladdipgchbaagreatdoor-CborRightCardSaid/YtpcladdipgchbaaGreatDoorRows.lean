/-
  NARROWER THAN 'FOR EVERY INPUT', by the rows' own cells (each row's printed sentence says how): CborBack: loops, laid · CborRight: laid · CborFirst: laid · CborGoesOn: laid · DetPlains: loops, laid · DetIs: loops, laid · DetTwice: loops, laid · DetSame: loops, laid · DetRules: laid · DetOrder: loops, laid · WholeDet: loops, laid.
  DERIVED. THE GIVEN ROWS OF THIS SEAT. 11 by the template 'for every input the law returns true; each argument reads behind the call as it read before'; 0 by the template 'total and deterministic' (their statements: YtpcladdipgchbaaGreatDoorTotals.lean).
  GIVEN WITH THE SEED: the statements are not yours to turn. If you find one false, say at which input.
  Laid BY PROGRAM, IN A SANDBOX (cutbox-rows.mjs): the forced cells as the released guide's own fill.sh prints them over the translation 778492b6423fe769… (all of the seat's roots in one cut). By AI agents, Wed Nov 11 2026. No macro, syntax, notation, axiom, sorry.
-/
import Derived.Test.YtpcladdipgchbaaGreatDoorChecked
import GoSem.PinnedTables
import GoSem.Claim
import GoSem.ClaimJoined
import GoSem.ClaimMapViews
import Derived.JoinedTies
import Derived.KernelRfl
namespace Go.Proofs.YtpcladdipgchbaaGreatDoor
/- THE CELL 'sum', in the pinned program and in every row, IS THE sha256 OF THE DUMP (.gsa) THAT YtpcladdipgchbaaGreatDoorProg.lean LOADS. Nothing in Lean hashes anything: it is a label: what it is worth is what the hold of that sum in a sandbox is worth. -/
noncomputable def Tryz.pinned : Pinned := { name := "ytpcladdipgchbaagreatdoor", sum := "778492b6423fe769a4f468d500f63e6ee447d82528cce076d4ad8e313dbc91ab", checked := Tryz.checked }
namespace Rows
def none {H : Type} : Left H := { results := [], args := [] }

/- WHAT THE LISTED PACKAGE-LEVEL VARIABLES READ AS WHEN THE CALL BEGINS. Each datum BY PROGRAM (the guide's laid-datum.mjs) off the statement by which the dump's own 'gosem.cut.vars' lays the variable. In a bare row this is a premise. The card (YtpcladdipgchbaaGreatDoorCards.lean) ties it to the program's text. -/
def laid_errors_errorType {H : Type} : DataW H := .iface "internal/reflectlite.rtype" (.agg [.ptr (.lit (.string [101, 114, 114, 111, 114]))])
def laid_unicode_utf8_acceptRanges {H : Type} : DataW H := .agg [.agg [.lit (.int .u8 128), .lit (.int .u8 191)], .agg [.lit (.int .u8 160), .lit (.int .u8 191)], .agg [.lit (.int .u8 128), .lit (.int .u8 159)], .agg [.lit (.int .u8 144), .lit (.int .u8 191)], .agg [.lit (.int .u8 128), .lit (.int .u8 143)], .agg [.lit (.int .u8 0), .lit (.int .u8 0)], .agg [.lit (.int .u8 0), .lit (.int .u8 0)], .agg [.lit (.int .u8 0), .lit (.int .u8 0)], .agg [.lit (.int .u8 0), .lit (.int .u8 0)], .agg [.lit (.int .u8 0), .lit (.int .u8 0)], .agg [.lit (.int .u8 0), .lit (.int .u8 0)], .agg [.lit (.int .u8 0), .lit (.int .u8 0)], .agg [.lit (.int .u8 0), .lit (.int .u8 0)], .agg [.lit (.int .u8 0), .lit (.int .u8 0)], .agg [.lit (.int .u8 0), .lit (.int .u8 0)], .agg [.lit (.int .u8 0), .lit (.int .u8 0)]]
/-- One of Go's own tables, pinned by name: the form's constant. -/
def laid_unicode_utf8_first : DataW Unit := Go.Pinned.utf8First

/-- 'glossatorlaw11.CborBack': WHATEVER THE INPUT: true; the input reads as it did. -/
def cborBackSpec : ChangeSpec := { name := "cborBack", fn := fun _ => fun
  | [d1, d2] => { results := [.lit (.bool true)], args := [d1, d2] }
  | _ => none }
def cborBackRow : OpenClaim := { program := "ytpcladdipgchbaagreatdoor", sum := "778492b6423fe769a4f468d500f63e6ee447d82528cce076d4ad8e313dbc91ab", func := "glossator/glossatorlaw11.CborBack", spec := "cborBack", inPlace := ["internal/reflectlite.ValueOf", "(internal/reflectlite.Value).Type", "(internal/reflectlite.Value).IsNil", "internal/reflectlite.TypeOf", "(internal/reflectlite.Value).Elem", "(internal/reflectlite.Value).Set"], unfollowed := true, recurses := true, named := ["errors.errorType"], loops := true, apart := false, laid := [("errors.errorType", laid_errors_errorType)] }
def CborBackSaid : Prop := cborBackRow.holds Tryz.pinned (OpenSpec.ofChange cborBackSpec)

/-- ITS FALSE NEIGHBOUR: 'it returns false'. Refute it at one input. -/
def cborBackWrong : ChangeSpec := { name := "cborBack", fn := fun _ => fun
  | [d1, d2] => { results := [.lit (.bool false)], args := [d1, d2] }
  | _ => none }
def CborBackWrongFalsely : Prop := cborBackRow.holds Tryz.pinned (OpenSpec.ofChange cborBackWrong)

/-- 'glossatorlaw11.CborRight': WHATEVER THE INPUT: true; the input reads as it did. -/
def cborRightSpec : ChangeSpec := { name := "cborRight", fn := fun _ => fun
  | [d1, d2] => { results := [.lit (.bool true)], args := [d1, d2] }
  | _ => none }
def cborRightRow : OpenClaim := { program := "ytpcladdipgchbaagreatdoor", sum := "778492b6423fe769a4f468d500f63e6ee447d82528cce076d4ad8e313dbc91ab", func := "glossator/glossatorlaw11.CborRight", spec := "cborRight", inPlace := ["internal/reflectlite.ValueOf", "(internal/reflectlite.Value).Type", "(internal/reflectlite.Value).IsNil", "internal/reflectlite.TypeOf", "(internal/reflectlite.Value).Elem", "(internal/reflectlite.Value).Set"], unfollowed := true, recurses := true, named := ["errors.errorType"], apart := false, laid := [("errors.errorType", laid_errors_errorType)] }
def CborRightSaid : Prop := cborRightRow.holds Tryz.pinned (OpenSpec.ofChange cborRightSpec)

/-- ITS FALSE NEIGHBOUR: 'it returns false'. Refute it at one input. -/
def cborRightWrong : ChangeSpec := { name := "cborRight", fn := fun _ => fun
  | [d1, d2] => { results := [.lit (.bool false)], args := [d1, d2] }
  | _ => none }
def CborRightWrongFalsely : Prop := cborRightRow.holds Tryz.pinned (OpenSpec.ofChange cborRightWrong)

/-- 'glossatorlaw11.CborFirst': WHATEVER THE INPUT: true; the input reads as it did. -/
def cborFirstSpec : ChangeSpec := { name := "cborFirst", fn := fun _ => fun
  | [d1, d2] => { results := [.lit (.bool true)], args := [d1, d2] }
  | _ => none }
def cborFirstRow : OpenClaim := { program := "ytpcladdipgchbaagreatdoor", sum := "778492b6423fe769a4f468d500f63e6ee447d82528cce076d4ad8e313dbc91ab", func := "glossator/glossatorlaw11.CborFirst", spec := "cborFirst", inPlace := ["internal/reflectlite.ValueOf", "(internal/reflectlite.Value).Type", "(internal/reflectlite.Value).IsNil", "internal/reflectlite.TypeOf", "(internal/reflectlite.Value).Elem", "(internal/reflectlite.Value).Set"], unfollowed := true, recurses := true, named := ["errors.errorType"], apart := false, laid := [("errors.errorType", laid_errors_errorType)] }
def CborFirstSaid : Prop := cborFirstRow.holds Tryz.pinned (OpenSpec.ofChange cborFirstSpec)

/-- ITS FALSE NEIGHBOUR: 'it returns false'. Refute it at one input. -/
def cborFirstWrong : ChangeSpec := { name := "cborFirst", fn := fun _ => fun
  | [d1, d2] => { results := [.lit (.bool false)], args := [d1, d2] }
  | _ => none }
def CborFirstWrongFalsely : Prop := cborFirstRow.holds Tryz.pinned (OpenSpec.ofChange cborFirstWrong)

/-- 'glossatorlaw11.CborGoesOn': WHATEVER THE INPUT: true; the input reads as it did. -/
def cborGoesOnSpec : ChangeSpec := { name := "cborGoesOn", fn := fun _ => fun
  | [d] => { results := [.lit (.bool true)], args := [d] }
  | _ => none }
def cborGoesOnRow : OpenClaim := { program := "ytpcladdipgchbaagreatdoor", sum := "778492b6423fe769a4f468d500f63e6ee447d82528cce076d4ad8e313dbc91ab", func := "glossator/glossatorlaw11.CborGoesOn", spec := "cborGoesOn", inPlace := ["internal/reflectlite.ValueOf", "(internal/reflectlite.Value).Type", "(internal/reflectlite.Value).IsNil", "internal/reflectlite.TypeOf", "(internal/reflectlite.Value).Elem", "(internal/reflectlite.Value).Set"], unfollowed := true, recurses := true, named := ["errors.errorType"], apart := false, laid := [("errors.errorType", laid_errors_errorType)] }
def CborGoesOnSaid : Prop := cborGoesOnRow.holds Tryz.pinned (OpenSpec.ofChange cborGoesOnSpec)

/-- ITS FALSE NEIGHBOUR: 'it returns false'. Refute it at one input. -/
def cborGoesOnWrong : ChangeSpec := { name := "cborGoesOn", fn := fun _ => fun
  | [d] => { results := [.lit (.bool false)], args := [d] }
  | _ => none }
def CborGoesOnWrongFalsely : Prop := cborGoesOnRow.holds Tryz.pinned (OpenSpec.ofChange cborGoesOnWrong)

/-- 'glossatorlaw12.DetPlains': WHATEVER THE INPUT: true; the input reads as it did. -/
def detPlainsSpec : ChangeSpec := { name := "detPlains", fn := fun _ => fun
  | [d] => { results := [.lit (.bool true)], args := [d] }
  | _ => none }
def detPlainsRow : OpenClaim := { program := "ytpcladdipgchbaagreatdoor", sum := "778492b6423fe769a4f468d500f63e6ee447d82528cce076d4ad8e313dbc91ab", func := "glossator/glossatorlaw12.DetPlains", spec := "detPlains", inPlace := ["internal/reflectlite.TypeOf", "internal/bytealg.IndexByteString", "internal/bytealg.IndexString", "internal/reflectlite.ValueOf", "(internal/reflectlite.Value).Type", "(internal/reflectlite.Value).IsNil", "(internal/reflectlite.Value).Elem", "(internal/reflectlite.Value).Set", "internal/bytealg.Compare"], unfollowed := true, recurses := true, named := ["unicode/utf8.first", "unicode/utf8.acceptRanges", "errors.errorType", "internal/bytealg.MaxLen"], loops := true, apart := false, laid := [("unicode/utf8.acceptRanges", laid_unicode_utf8_acceptRanges), ("errors.errorType", laid_errors_errorType), ("unicode/utf8.first", laid_unicode_utf8_first)] }
def DetPlainsSaid : Prop := detPlainsRow.holds Tryz.pinned (OpenSpec.ofChange detPlainsSpec)

/-- ITS FALSE NEIGHBOUR: 'it returns false'. Refute it at one input. -/
def detPlainsWrong : ChangeSpec := { name := "detPlains", fn := fun _ => fun
  | [d] => { results := [.lit (.bool false)], args := [d] }
  | _ => none }
def DetPlainsWrongFalsely : Prop := detPlainsRow.holds Tryz.pinned (OpenSpec.ofChange detPlainsWrong)

/-- 'glossatorlaw12.DetIs': WHATEVER THE INPUT: true; the input reads as it did. -/
def detIsSpec : ChangeSpec := { name := "detIs", fn := fun _ => fun
  | [d1, d2, d3] => { results := [.lit (.bool true)], args := [d1, d2, d3] }
  | _ => none }
def detIsRow : OpenClaim := { program := "ytpcladdipgchbaagreatdoor", sum := "778492b6423fe769a4f468d500f63e6ee447d82528cce076d4ad8e313dbc91ab", func := "glossator/glossatorlaw12.DetIs", spec := "detIs", inPlace := ["internal/reflectlite.ValueOf", "(internal/reflectlite.Value).Type", "(internal/reflectlite.Value).IsNil", "internal/reflectlite.TypeOf", "(internal/reflectlite.Value).Elem", "(internal/reflectlite.Value).Set", "internal/bytealg.IndexByteString", "internal/bytealg.IndexString", "internal/bytealg.Compare"], unfollowed := true, recurses := true, named := ["errors.errorType", "unicode/utf8.first", "unicode/utf8.acceptRanges", "internal/bytealg.MaxLen"], loops := true, apart := false, laid := [("unicode/utf8.acceptRanges", laid_unicode_utf8_acceptRanges), ("errors.errorType", laid_errors_errorType), ("unicode/utf8.first", laid_unicode_utf8_first)] }
def DetIsSaid : Prop := detIsRow.holds Tryz.pinned (OpenSpec.ofChange detIsSpec)

/-- ITS FALSE NEIGHBOUR: 'it returns false'. Refute it at one input. -/
def detIsWrong : ChangeSpec := { name := "detIs", fn := fun _ => fun
  | [d1, d2, d3] => { results := [.lit (.bool false)], args := [d1, d2, d3] }
  | _ => none }
def DetIsWrongFalsely : Prop := detIsRow.holds Tryz.pinned (OpenSpec.ofChange detIsWrong)

/-- 'glossatorlaw12.DetTwice': WHATEVER THE INPUT: true; the input reads as it did. -/
def detTwiceSpec : ChangeSpec := { name := "detTwice", fn := fun _ => fun
  | [d] => { results := [.lit (.bool true)], args := [d] }
  | _ => none }
def detTwiceRow : OpenClaim := { program := "ytpcladdipgchbaagreatdoor", sum := "778492b6423fe769a4f468d500f63e6ee447d82528cce076d4ad8e313dbc91ab", func := "glossator/glossatorlaw12.DetTwice", spec := "detTwice", inPlace := ["internal/reflectlite.TypeOf", "internal/bytealg.IndexByteString", "internal/bytealg.IndexString", "internal/reflectlite.ValueOf", "(internal/reflectlite.Value).Type", "(internal/reflectlite.Value).IsNil", "(internal/reflectlite.Value).Elem", "(internal/reflectlite.Value).Set", "internal/bytealg.Compare"], unfollowed := true, recurses := true, named := ["unicode/utf8.first", "unicode/utf8.acceptRanges", "errors.errorType", "internal/bytealg.MaxLen"], loops := true, apart := false, laid := [("unicode/utf8.acceptRanges", laid_unicode_utf8_acceptRanges), ("errors.errorType", laid_errors_errorType), ("unicode/utf8.first", laid_unicode_utf8_first)] }
def DetTwiceSaid : Prop := detTwiceRow.holds Tryz.pinned (OpenSpec.ofChange detTwiceSpec)

/-- ITS FALSE NEIGHBOUR: 'it returns false'. Refute it at one input. -/
def detTwiceWrong : ChangeSpec := { name := "detTwice", fn := fun _ => fun
  | [d] => { results := [.lit (.bool false)], args := [d] }
  | _ => none }
def DetTwiceWrongFalsely : Prop := detTwiceRow.holds Tryz.pinned (OpenSpec.ofChange detTwiceWrong)

/-- 'glossatorlaw12.DetSame': WHATEVER THE INPUT: true; the input reads as it did. -/
def detSameSpec : ChangeSpec := { name := "detSame", fn := fun _ => fun
  | [d1, d2] => { results := [.lit (.bool true)], args := [d1, d2] }
  | _ => none }
def detSameRow : OpenClaim := { program := "ytpcladdipgchbaagreatdoor", sum := "778492b6423fe769a4f468d500f63e6ee447d82528cce076d4ad8e313dbc91ab", func := "glossator/glossatorlaw12.DetSame", spec := "detSame", inPlace := ["internal/reflectlite.TypeOf", "internal/bytealg.IndexByteString", "internal/bytealg.IndexString", "internal/reflectlite.ValueOf", "(internal/reflectlite.Value).Type", "(internal/reflectlite.Value).IsNil", "(internal/reflectlite.Value).Elem", "(internal/reflectlite.Value).Set", "internal/bytealg.Compare"], unfollowed := true, recurses := true, named := ["unicode/utf8.first", "unicode/utf8.acceptRanges", "errors.errorType", "internal/bytealg.MaxLen"], loops := true, apart := false, laid := [("unicode/utf8.acceptRanges", laid_unicode_utf8_acceptRanges), ("errors.errorType", laid_errors_errorType), ("unicode/utf8.first", laid_unicode_utf8_first)] }
def DetSameSaid : Prop := detSameRow.holds Tryz.pinned (OpenSpec.ofChange detSameSpec)

/-- ITS FALSE NEIGHBOUR: 'it returns false'. Refute it at one input. -/
def detSameWrong : ChangeSpec := { name := "detSame", fn := fun _ => fun
  | [d1, d2] => { results := [.lit (.bool false)], args := [d1, d2] }
  | _ => none }
def DetSameWrongFalsely : Prop := detSameRow.holds Tryz.pinned (OpenSpec.ofChange detSameWrong)

/-- 'glossatorlaw12.DetRules': WHATEVER THE INPUT: true; the input reads as it did. -/
def detRulesSpec : ChangeSpec := { name := "detRules", fn := fun _ => fun
  | [d] => { results := [.lit (.bool true)], args := [d] }
  | _ => none }
def detRulesRow : OpenClaim := { program := "ytpcladdipgchbaagreatdoor", sum := "778492b6423fe769a4f468d500f63e6ee447d82528cce076d4ad8e313dbc91ab", func := "glossator/glossatorlaw12.DetRules", spec := "detRules", inPlace := ["internal/reflectlite.ValueOf", "(internal/reflectlite.Value).Type", "(internal/reflectlite.Value).IsNil", "internal/reflectlite.TypeOf", "(internal/reflectlite.Value).Elem", "(internal/reflectlite.Value).Set", "internal/bytealg.IndexByteString", "internal/bytealg.IndexString", "internal/bytealg.Compare"], unfollowed := true, recurses := true, named := ["errors.errorType", "unicode/utf8.first", "unicode/utf8.acceptRanges", "internal/bytealg.MaxLen"], apart := false, laid := [("unicode/utf8.acceptRanges", laid_unicode_utf8_acceptRanges), ("errors.errorType", laid_errors_errorType), ("unicode/utf8.first", laid_unicode_utf8_first)] }
def DetRulesSaid : Prop := detRulesRow.holds Tryz.pinned (OpenSpec.ofChange detRulesSpec)

/-- ITS FALSE NEIGHBOUR: 'it returns false'. Refute it at one input. -/
def detRulesWrong : ChangeSpec := { name := "detRules", fn := fun _ => fun
  | [d] => { results := [.lit (.bool false)], args := [d] }
  | _ => none }
def DetRulesWrongFalsely : Prop := detRulesRow.holds Tryz.pinned (OpenSpec.ofChange detRulesWrong)

/-- 'glossatorlaw12.DetOrder': WHATEVER THE INPUT: true; the input reads as it did. -/
def detOrderSpec : ChangeSpec := { name := "detOrder", fn := fun _ => fun
  | [d] => { results := [.lit (.bool true)], args := [d] }
  | _ => none }
def detOrderRow : OpenClaim := { program := "ytpcladdipgchbaagreatdoor", sum := "778492b6423fe769a4f468d500f63e6ee447d82528cce076d4ad8e313dbc91ab", func := "glossator/glossatorlaw12.DetOrder", spec := "detOrder", inPlace := ["internal/reflectlite.ValueOf", "(internal/reflectlite.Value).Type", "(internal/reflectlite.Value).IsNil", "internal/reflectlite.TypeOf", "(internal/reflectlite.Value).Elem", "(internal/reflectlite.Value).Set", "internal/bytealg.IndexByteString", "internal/bytealg.IndexString", "internal/bytealg.Compare"], unfollowed := true, recurses := true, named := ["errors.errorType", "unicode/utf8.first", "unicode/utf8.acceptRanges", "internal/bytealg.MaxLen"], loops := true, apart := false, laid := [("unicode/utf8.acceptRanges", laid_unicode_utf8_acceptRanges), ("errors.errorType", laid_errors_errorType), ("unicode/utf8.first", laid_unicode_utf8_first)] }
def DetOrderSaid : Prop := detOrderRow.holds Tryz.pinned (OpenSpec.ofChange detOrderSpec)

/-- ITS FALSE NEIGHBOUR: 'it returns false'. Refute it at one input. -/
def detOrderWrong : ChangeSpec := { name := "detOrder", fn := fun _ => fun
  | [d] => { results := [.lit (.bool false)], args := [d] }
  | _ => none }
def DetOrderWrongFalsely : Prop := detOrderRow.holds Tryz.pinned (OpenSpec.ofChange detOrderWrong)

/-- 'glossatortop.WholeDet': WHATEVER THE INPUT: true; the input reads as it did. -/
def wholeDetSpec : ChangeSpec := { name := "wholeDet", fn := fun _ => fun
  | [d] => { results := [.lit (.bool true)], args := [d] }
  | _ => none }
def wholeDetRow : OpenClaim := { program := "ytpcladdipgchbaagreatdoor", sum := "778492b6423fe769a4f468d500f63e6ee447d82528cce076d4ad8e313dbc91ab", func := "glossator/glossatortop.WholeDet", spec := "wholeDet", inPlace := ["internal/reflectlite.ValueOf", "(internal/reflectlite.Value).Type", "(internal/reflectlite.Value).IsNil", "internal/reflectlite.TypeOf", "(internal/reflectlite.Value).Elem", "(internal/reflectlite.Value).Set", "internal/bytealg.IndexByteString", "internal/bytealg.IndexString", "internal/bytealg.Compare"], unfollowed := true, recurses := true, named := ["errors.errorType", "unicode/utf8.first", "unicode/utf8.acceptRanges", "internal/bytealg.MaxLen"], loops := true, apart := false, laid := [("unicode/utf8.acceptRanges", laid_unicode_utf8_acceptRanges), ("errors.errorType", laid_errors_errorType), ("unicode/utf8.first", laid_unicode_utf8_first)] }
def WholeDetSaid : Prop := wholeDetRow.holds Tryz.pinned (OpenSpec.ofChange wholeDetSpec)

/-- ITS FALSE NEIGHBOUR: 'it returns false'. Refute it at one input. -/
def wholeDetWrong : ChangeSpec := { name := "wholeDet", fn := fun _ => fun
  | [d] => { results := [.lit (.bool false)], args := [d] }
  | _ => none }
def WholeDetWrongFalsely : Prop := wholeDetRow.holds Tryz.pinned (OpenSpec.ofChange wholeDetWrong)

/- THE SECOND FORM. 'bulk': how many values and letters a reading holds, each counted each time it is reached (what is shared counts as often as it is met; a slice's spare places count too). A statement '..UptoSaid' is the law's where the arguments, and the package variables that the reading takes, are together of bulk at most 1048576: NARROWER than '..Said'. Prove '..Said' where nothing that the law and all that it calls make is longer than what came in: it says more and counts as full. Else prove '..UptoSaid'. A law counts once. -/
mutual
def uptoBulk {H : Type} : DataW H → Nat
  | .lit (.string bytes) => bytes.length + 1
  | .lit _ => 1
  | .nil => 1
  | .ptr d => uptoBulk d + 1
  | .slice elems spare => uptoBulkAll elems + uptoBulkAll spare + 1
  | .agg parts => uptoBulkAll parts + 1
  | .iface _ d => uptoBulk d + 1
  | .map entries => uptoBulkEntries entries + 1
  | .held _ => 1
def uptoBulkAll {H : Type} : List (DataW H) → Nat
  | [] => 0
  | d :: r => uptoBulk d + uptoBulkAll r
def uptoBulkEntries {H : Type} : List (Lit × DataW H) → Nat
  | [] => 0
  | x :: r => uptoBulkEntry x + uptoBulkEntries r
def uptoBulkEntry {H : Type} : Lit × DataW H → Nat
  | (.string bytes, d) => bytes.length + uptoBulk d + 1
  | (_, d) => uptoBulk d + 1
 end
def uptoSmall : (H : Type) → List (DataW H) → Bool := fun _ ds => decide (uptoBulkAll ds ≤ 1048576)
def OpenSpec.upto (s : _root_.Go.ChangeSpec) : _root_.Go.OpenSpec := { _root_.Go.OpenSpec.ofChange s with cond := some uptoSmall }

/-- 'glossatorlaw11.CborBack', WHERE WHAT IT READS IS OF BULK AT MOST 1048576: true; the input reads as it did. -/
def cborBackUptoRow : OpenClaim := { program := "ytpcladdipgchbaagreatdoor", sum := "778492b6423fe769a4f468d500f63e6ee447d82528cce076d4ad8e313dbc91ab", func := "glossator/glossatorlaw11.CborBack", spec := "cborBack", inPlace := ["internal/reflectlite.ValueOf", "(internal/reflectlite.Value).Type", "(internal/reflectlite.Value).IsNil", "internal/reflectlite.TypeOf", "(internal/reflectlite.Value).Elem", "(internal/reflectlite.Value).Set"], unfollowed := true, recurses := true, named := ["errors.errorType"], loops := true, apart := false, laid := [("errors.errorType", laid_errors_errorType)], narrowed := true }
def CborBackUptoSaid : Prop := cborBackUptoRow.holds Tryz.pinned (OpenSpec.upto cborBackSpec)

/-- 'glossatorlaw11.CborRight', WHERE WHAT IT READS IS OF BULK AT MOST 1048576: true; the input reads as it did. -/
def cborRightUptoRow : OpenClaim := { program := "ytpcladdipgchbaagreatdoor", sum := "778492b6423fe769a4f468d500f63e6ee447d82528cce076d4ad8e313dbc91ab", func := "glossator/glossatorlaw11.CborRight", spec := "cborRight", inPlace := ["internal/reflectlite.ValueOf", "(internal/reflectlite.Value).Type", "(internal/reflectlite.Value).IsNil", "internal/reflectlite.TypeOf", "(internal/reflectlite.Value).Elem", "(internal/reflectlite.Value).Set"], unfollowed := true, recurses := true, named := ["errors.errorType"], apart := false, laid := [("errors.errorType", laid_errors_errorType)], narrowed := true }
def CborRightUptoSaid : Prop := cborRightUptoRow.holds Tryz.pinned (OpenSpec.upto cborRightSpec)

/-- 'glossatorlaw11.CborFirst', WHERE WHAT IT READS IS OF BULK AT MOST 1048576: true; the input reads as it did. -/
def cborFirstUptoRow : OpenClaim := { program := "ytpcladdipgchbaagreatdoor", sum := "778492b6423fe769a4f468d500f63e6ee447d82528cce076d4ad8e313dbc91ab", func := "glossator/glossatorlaw11.CborFirst", spec := "cborFirst", inPlace := ["internal/reflectlite.ValueOf", "(internal/reflectlite.Value).Type", "(internal/reflectlite.Value).IsNil", "internal/reflectlite.TypeOf", "(internal/reflectlite.Value).Elem", "(internal/reflectlite.Value).Set"], unfollowed := true, recurses := true, named := ["errors.errorType"], apart := false, laid := [("errors.errorType", laid_errors_errorType)], narrowed := true }
def CborFirstUptoSaid : Prop := cborFirstUptoRow.holds Tryz.pinned (OpenSpec.upto cborFirstSpec)

/-- 'glossatorlaw11.CborGoesOn', WHERE WHAT IT READS IS OF BULK AT MOST 1048576: true; the input reads as it did. -/
def cborGoesOnUptoRow : OpenClaim := { program := "ytpcladdipgchbaagreatdoor", sum := "778492b6423fe769a4f468d500f63e6ee447d82528cce076d4ad8e313dbc91ab", func := "glossator/glossatorlaw11.CborGoesOn", spec := "cborGoesOn", inPlace := ["internal/reflectlite.ValueOf", "(internal/reflectlite.Value).Type", "(internal/reflectlite.Value).IsNil", "internal/reflectlite.TypeOf", "(internal/reflectlite.Value).Elem", "(internal/reflectlite.Value).Set"], unfollowed := true, recurses := true, named := ["errors.errorType"], apart := false, laid := [("errors.errorType", laid_errors_errorType)], narrowed := true }
def CborGoesOnUptoSaid : Prop := cborGoesOnUptoRow.holds Tryz.pinned (OpenSpec.upto cborGoesOnSpec)

/-- 'glossatorlaw12.DetPlains', WHERE WHAT IT READS IS OF BULK AT MOST 1048576: true; the input reads as it did. -/
def detPlainsUptoRow : OpenClaim := { program := "ytpcladdipgchbaagreatdoor", sum := "778492b6423fe769a4f468d500f63e6ee447d82528cce076d4ad8e313dbc91ab", func := "glossator/glossatorlaw12.DetPlains", spec := "detPlains", inPlace := ["internal/reflectlite.TypeOf", "internal/bytealg.IndexByteString", "internal/bytealg.IndexString", "internal/reflectlite.ValueOf", "(internal/reflectlite.Value).Type", "(internal/reflectlite.Value).IsNil", "(internal/reflectlite.Value).Elem", "(internal/reflectlite.Value).Set", "internal/bytealg.Compare"], unfollowed := true, recurses := true, named := ["unicode/utf8.first", "unicode/utf8.acceptRanges", "errors.errorType", "internal/bytealg.MaxLen"], loops := true, apart := false, laid := [("unicode/utf8.acceptRanges", laid_unicode_utf8_acceptRanges), ("errors.errorType", laid_errors_errorType), ("unicode/utf8.first", laid_unicode_utf8_first)], narrowed := true }
def DetPlainsUptoSaid : Prop := detPlainsUptoRow.holds Tryz.pinned (OpenSpec.upto detPlainsSpec)

/-- 'glossatorlaw12.DetIs', WHERE WHAT IT READS IS OF BULK AT MOST 1048576: true; the input reads as it did. -/
def detIsUptoRow : OpenClaim := { program := "ytpcladdipgchbaagreatdoor", sum := "778492b6423fe769a4f468d500f63e6ee447d82528cce076d4ad8e313dbc91ab", func := "glossator/glossatorlaw12.DetIs", spec := "detIs", inPlace := ["internal/reflectlite.ValueOf", "(internal/reflectlite.Value).Type", "(internal/reflectlite.Value).IsNil", "internal/reflectlite.TypeOf", "(internal/reflectlite.Value).Elem", "(internal/reflectlite.Value).Set", "internal/bytealg.IndexByteString", "internal/bytealg.IndexString", "internal/bytealg.Compare"], unfollowed := true, recurses := true, named := ["errors.errorType", "unicode/utf8.first", "unicode/utf8.acceptRanges", "internal/bytealg.MaxLen"], loops := true, apart := false, laid := [("unicode/utf8.acceptRanges", laid_unicode_utf8_acceptRanges), ("errors.errorType", laid_errors_errorType), ("unicode/utf8.first", laid_unicode_utf8_first)], narrowed := true }
def DetIsUptoSaid : Prop := detIsUptoRow.holds Tryz.pinned (OpenSpec.upto detIsSpec)

/-- 'glossatorlaw12.DetTwice', WHERE WHAT IT READS IS OF BULK AT MOST 1048576: true; the input reads as it did. -/
def detTwiceUptoRow : OpenClaim := { program := "ytpcladdipgchbaagreatdoor", sum := "778492b6423fe769a4f468d500f63e6ee447d82528cce076d4ad8e313dbc91ab", func := "glossator/glossatorlaw12.DetTwice", spec := "detTwice", inPlace := ["internal/reflectlite.TypeOf", "internal/bytealg.IndexByteString", "internal/bytealg.IndexString", "internal/reflectlite.ValueOf", "(internal/reflectlite.Value).Type", "(internal/reflectlite.Value).IsNil", "(internal/reflectlite.Value).Elem", "(internal/reflectlite.Value).Set", "internal/bytealg.Compare"], unfollowed := true, recurses := true, named := ["unicode/utf8.first", "unicode/utf8.acceptRanges", "errors.errorType", "internal/bytealg.MaxLen"], loops := true, apart := false, laid := [("unicode/utf8.acceptRanges", laid_unicode_utf8_acceptRanges), ("errors.errorType", laid_errors_errorType), ("unicode/utf8.first", laid_unicode_utf8_first)], narrowed := true }
def DetTwiceUptoSaid : Prop := detTwiceUptoRow.holds Tryz.pinned (OpenSpec.upto detTwiceSpec)

/-- 'glossatorlaw12.DetSame', WHERE WHAT IT READS IS OF BULK AT MOST 1048576: true; the input reads as it did. -/
def detSameUptoRow : OpenClaim := { program := "ytpcladdipgchbaagreatdoor", sum := "778492b6423fe769a4f468d500f63e6ee447d82528cce076d4ad8e313dbc91ab", func := "glossator/glossatorlaw12.DetSame", spec := "detSame", inPlace := ["internal/reflectlite.TypeOf", "internal/bytealg.IndexByteString", "internal/bytealg.IndexString", "internal/reflectlite.ValueOf", "(internal/reflectlite.Value).Type", "(internal/reflectlite.Value).IsNil", "(internal/reflectlite.Value).Elem", "(internal/reflectlite.Value).Set", "internal/bytealg.Compare"], unfollowed := true, recurses := true, named := ["unicode/utf8.first", "unicode/utf8.acceptRanges", "errors.errorType", "internal/bytealg.MaxLen"], loops := true, apart := false, laid := [("unicode/utf8.acceptRanges", laid_unicode_utf8_acceptRanges), ("errors.errorType", laid_errors_errorType), ("unicode/utf8.first", laid_unicode_utf8_first)], narrowed := true }
def DetSameUptoSaid : Prop := detSameUptoRow.holds Tryz.pinned (OpenSpec.upto detSameSpec)

/-- 'glossatorlaw12.DetRules', WHERE WHAT IT READS IS OF BULK AT MOST 1048576: true; the input reads as it did. -/
def detRulesUptoRow : OpenClaim := { program := "ytpcladdipgchbaagreatdoor", sum := "778492b6423fe769a4f468d500f63e6ee447d82528cce076d4ad8e313dbc91ab", func := "glossator/glossatorlaw12.DetRules", spec := "detRules", inPlace := ["internal/reflectlite.ValueOf", "(internal/reflectlite.Value).Type", "(internal/reflectlite.Value).IsNil", "internal/reflectlite.TypeOf", "(internal/reflectlite.Value).Elem", "(internal/reflectlite.Value).Set", "internal/bytealg.IndexByteString", "internal/bytealg.IndexString", "internal/bytealg.Compare"], unfollowed := true, recurses := true, named := ["errors.errorType", "unicode/utf8.first", "unicode/utf8.acceptRanges", "internal/bytealg.MaxLen"], apart := false, laid := [("unicode/utf8.acceptRanges", laid_unicode_utf8_acceptRanges), ("errors.errorType", laid_errors_errorType), ("unicode/utf8.first", laid_unicode_utf8_first)], narrowed := true }
def DetRulesUptoSaid : Prop := detRulesUptoRow.holds Tryz.pinned (OpenSpec.upto detRulesSpec)

/-- 'glossatorlaw12.DetOrder', WHERE WHAT IT READS IS OF BULK AT MOST 1048576: true; the input reads as it did. -/
def detOrderUptoRow : OpenClaim := { program := "ytpcladdipgchbaagreatdoor", sum := "778492b6423fe769a4f468d500f63e6ee447d82528cce076d4ad8e313dbc91ab", func := "glossator/glossatorlaw12.DetOrder", spec := "detOrder", inPlace := ["internal/reflectlite.ValueOf", "(internal/reflectlite.Value).Type", "(internal/reflectlite.Value).IsNil", "internal/reflectlite.TypeOf", "(internal/reflectlite.Value).Elem", "(internal/reflectlite.Value).Set", "internal/bytealg.IndexByteString", "internal/bytealg.IndexString", "internal/bytealg.Compare"], unfollowed := true, recurses := true, named := ["errors.errorType", "unicode/utf8.first", "unicode/utf8.acceptRanges", "internal/bytealg.MaxLen"], loops := true, apart := false, laid := [("unicode/utf8.acceptRanges", laid_unicode_utf8_acceptRanges), ("errors.errorType", laid_errors_errorType), ("unicode/utf8.first", laid_unicode_utf8_first)], narrowed := true }
def DetOrderUptoSaid : Prop := detOrderUptoRow.holds Tryz.pinned (OpenSpec.upto detOrderSpec)

/-- 'glossatortop.WholeDet', WHERE WHAT IT READS IS OF BULK AT MOST 1048576: true; the input reads as it did. -/
def wholeDetUptoRow : OpenClaim := { program := "ytpcladdipgchbaagreatdoor", sum := "778492b6423fe769a4f468d500f63e6ee447d82528cce076d4ad8e313dbc91ab", func := "glossator/glossatortop.WholeDet", spec := "wholeDet", inPlace := ["internal/reflectlite.ValueOf", "(internal/reflectlite.Value).Type", "(internal/reflectlite.Value).IsNil", "internal/reflectlite.TypeOf", "(internal/reflectlite.Value).Elem", "(internal/reflectlite.Value).Set", "internal/bytealg.IndexByteString", "internal/bytealg.IndexString", "internal/bytealg.Compare"], unfollowed := true, recurses := true, named := ["errors.errorType", "unicode/utf8.first", "unicode/utf8.acceptRanges", "internal/bytealg.MaxLen"], loops := true, apart := false, laid := [("unicode/utf8.acceptRanges", laid_unicode_utf8_acceptRanges), ("errors.errorType", laid_errors_errorType), ("unicode/utf8.first", laid_unicode_utf8_first)], narrowed := true }
def WholeDetUptoSaid : Prop := wholeDetUptoRow.holds Tryz.pinned (OpenSpec.upto wholeDetSpec)

end Rows
end Go.Proofs.YtpcladdipgchbaaGreatDoor
