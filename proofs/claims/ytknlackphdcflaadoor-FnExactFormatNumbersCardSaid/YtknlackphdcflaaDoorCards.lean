/-
  DERIVED. GIVEN WITH THE SEED: THE CARDS: each row of YtknlackphdcflaaDoorRows.lean that lists a variable, with what it lists TIED to the program's text (the seventh form; the later family's looks); each row that meets fmt, with fmt's text TOLD by the authors' own Lean function (tested against real Go, not proved from fmt's source: count such statements apart). THE CARD IS WHAT COUNTS. Prove the row's statement (the work); the ties are given (YtknlackphdcflaaDoorTie.lean); close each card by the builder's one call (the guide's Derived/Test/ToyasCard.lean, 'card_holds'). Laid BY PROGRAM, IN A SANDBOX (cutbox-door.mjs). By AI agents, Wed Nov 11 2026. No macro, syntax, notation, axiom, sorry.
-/
import Derived.Test.YtknlackphdcflaaDoorRows
import GoSem.ClaimSeven
namespace Go.Proofs.YtknlackphdcflaaDoor
namespace Rows

/-- THE TIED CARD OF 'laws.FnExactKindWord'. -/
def fnExactKindWordCard : Claim7 := { stood := { row := fnExactKindWordRow, standIns := [], harness := (true, "33c8f726e1063f3cfa93c60c821edb19eedb30fef8bd62e990554492b285a802"), looks := true }, kinds := [], alts := [], laidByText := true, laidKinds := [.data], laidTests := true, laidLooks := .later }
def FnExactKindWordCardSaid : Prop := Claim7.holds Tryd.pinned (.plain (OpenSpec.ofChange fnExactKindWordSpec)) fnExactKindWordCard

/-- THE TIED CARD OF 'laws.FnExactParseKind'. -/
def fnExactParseKindCard : Claim7 := { stood := { row := fnExactParseKindRow, standIns := [], harness := (true, "33c8f726e1063f3cfa93c60c821edb19eedb30fef8bd62e990554492b285a802"), looks := true }, kinds := [], alts := [], laidByText := true, laidKinds := [.data], laidTests := true, laidLooks := .later }
def FnExactParseKindCardSaid : Prop := Claim7.holds Tryd.pinned (.plain (OpenSpec.ofChange fnExactParseKindSpec)) fnExactParseKindCard

/-- THE TIED CARD OF 'laws.FnExactFormatNumbers'. -/
def fnExactFormatNumbersCard : Claim7 := { stood := { row := fnExactFormatNumbersRow, standIns := [], harness := (true, "33c8f726e1063f3cfa93c60c821edb19eedb30fef8bd62e990554492b285a802"), looks := true }, kinds := [], alts := [], laidByText := true, laidKinds := [.data, .data, .data], laidTests := true, laidLooks := .later }
def FnExactFormatNumbersCardSaid : Prop := Claim7.holds Tryd.pinned (.plain (OpenSpec.ofChange fnExactFormatNumbersSpec)) fnExactFormatNumbersCard

/-- THE TIED CARD OF 'laws.FnExactParseNumbers'. -/
def fnExactParseNumbersCard : Claim7 := { stood := { row := fnExactParseNumbersRow, standIns := [], harness := (true, "33c8f726e1063f3cfa93c60c821edb19eedb30fef8bd62e990554492b285a802"), looks := true }, kinds := [], alts := [], laidByText := true, laidKinds := [.data, .data, .data, .sentinel, .sentinel], laidTests := true, laidLooks := .later }
def FnExactParseNumbersCardSaid : Prop := Claim7.holds Tryd.pinned (.plain (OpenSpec.ofChange fnExactParseNumbersSpec)) fnExactParseNumbersCard

/-- THE TIED CARD OF 'laws.FnExactRecordLines'. -/
def fnExactRecordLinesCard : Claim7 := { stood := { row := fnExactRecordLinesRow, standIns := [], harness := (true, "33c8f726e1063f3cfa93c60c821edb19eedb30fef8bd62e990554492b285a802"), looks := true }, kinds := [], alts := [], laidByText := true, laidKinds := [.data, .data, .data, .data], laidTests := true, laidLooks := .later }
def FnExactRecordLinesCardSaid : Prop := Claim7.holds Tryd.pinned (.plain (OpenSpec.ofChange fnExactRecordLinesSpec)) fnExactRecordLinesCard

/-- THE TIED CARD OF 'laws.FnExactFormatRecord'. -/
def fnExactFormatRecordCard : Claim7 := { stood := { row := fnExactFormatRecordRow, standIns := [], harness := (true, "33c8f726e1063f3cfa93c60c821edb19eedb30fef8bd62e990554492b285a802"), looks := true }, kinds := [], alts := [], laidByText := true, laidKinds := [.data, .data, .data, .data], laidTests := true, laidLooks := .later }
def FnExactFormatRecordCardSaid : Prop := Claim7.holds Tryd.pinned (.plain (OpenSpec.ofChange fnExactFormatRecordSpec)) fnExactFormatRecordCard

/-- THE SECOND FORM's CARD OF 'laws.FnExactKindWord'. -/
def fnExactKindWordUptoCard : Claim7 := { stood := { row := fnExactKindWordUptoRow, standIns := [], harness := (true, "33c8f726e1063f3cfa93c60c821edb19eedb30fef8bd62e990554492b285a802"), looks := true }, kinds := [], alts := [], laidByText := true, laidKinds := [.data], laidTests := true, laidLooks := .later }
def FnExactKindWordUptoCardSaid : Prop := Claim7.holds Tryd.pinned (.plain (OpenSpec.upto fnExactKindWordSpec)) fnExactKindWordUptoCard

/-- THE SECOND FORM's CARD OF 'laws.FnExactParseKind'. -/
def fnExactParseKindUptoCard : Claim7 := { stood := { row := fnExactParseKindUptoRow, standIns := [], harness := (true, "33c8f726e1063f3cfa93c60c821edb19eedb30fef8bd62e990554492b285a802"), looks := true }, kinds := [], alts := [], laidByText := true, laidKinds := [.data], laidTests := true, laidLooks := .later }
def FnExactParseKindUptoCardSaid : Prop := Claim7.holds Tryd.pinned (.plain (OpenSpec.upto fnExactParseKindSpec)) fnExactParseKindUptoCard

/-- THE SECOND FORM's CARD OF 'laws.FnExactFormatNumbers'. -/
def fnExactFormatNumbersUptoCard : Claim7 := { stood := { row := fnExactFormatNumbersUptoRow, standIns := [], harness := (true, "33c8f726e1063f3cfa93c60c821edb19eedb30fef8bd62e990554492b285a802"), looks := true }, kinds := [], alts := [], laidByText := true, laidKinds := [.data, .data, .data], laidTests := true, laidLooks := .later }
def FnExactFormatNumbersUptoCardSaid : Prop := Claim7.holds Tryd.pinned (.plain (OpenSpec.upto fnExactFormatNumbersSpec)) fnExactFormatNumbersUptoCard

/-- THE SECOND FORM's CARD OF 'laws.FnExactParseNumbers'. -/
def fnExactParseNumbersUptoCard : Claim7 := { stood := { row := fnExactParseNumbersUptoRow, standIns := [], harness := (true, "33c8f726e1063f3cfa93c60c821edb19eedb30fef8bd62e990554492b285a802"), looks := true }, kinds := [], alts := [], laidByText := true, laidKinds := [.data, .data, .data, .sentinel, .sentinel], laidTests := true, laidLooks := .later }
def FnExactParseNumbersUptoCardSaid : Prop := Claim7.holds Tryd.pinned (.plain (OpenSpec.upto fnExactParseNumbersSpec)) fnExactParseNumbersUptoCard

/-- THE SECOND FORM's CARD OF 'laws.FnExactRecordLines'. -/
def fnExactRecordLinesUptoCard : Claim7 := { stood := { row := fnExactRecordLinesUptoRow, standIns := [], harness := (true, "33c8f726e1063f3cfa93c60c821edb19eedb30fef8bd62e990554492b285a802"), looks := true }, kinds := [], alts := [], laidByText := true, laidKinds := [.data, .data, .data, .data], laidTests := true, laidLooks := .later }
def FnExactRecordLinesUptoCardSaid : Prop := Claim7.holds Tryd.pinned (.plain (OpenSpec.upto fnExactRecordLinesSpec)) fnExactRecordLinesUptoCard

/-- THE SECOND FORM's CARD OF 'laws.FnExactFormatRecord'. -/
def fnExactFormatRecordUptoCard : Claim7 := { stood := { row := fnExactFormatRecordUptoRow, standIns := [], harness := (true, "33c8f726e1063f3cfa93c60c821edb19eedb30fef8bd62e990554492b285a802"), looks := true }, kinds := [], alts := [], laidByText := true, laidKinds := [.data, .data, .data, .data], laidTests := true, laidLooks := .later }
def FnExactFormatRecordUptoCardSaid : Prop := Claim7.holds Tryd.pinned (.plain (OpenSpec.upto fnExactFormatRecordSpec)) fnExactFormatRecordUptoCard
end Rows
end Go.Proofs.YtknlackphdcflaaDoor
