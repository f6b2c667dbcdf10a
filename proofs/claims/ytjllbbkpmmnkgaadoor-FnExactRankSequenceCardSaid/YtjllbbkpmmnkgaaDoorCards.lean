/-
  DERIVED. GIVEN WITH THE SEED: THE CARDS: each row of YtjllbbkpmmnkgaaDoorRows.lean that lists a variable, with what it lists TIED to the program's text (the seventh form; the later family's looks); each row that meets fmt, with fmt's text TOLD by the authors' own Lean function (tested against real Go, not proved from fmt's source: count such statements apart). THE CARD IS WHAT COUNTS. Prove the row's statement (the work); the ties are given (YtjllbbkpmmnkgaaDoorTie.lean); close each card by the builder's one call (the guide's Derived/Test/ToyasCard.lean, 'card_holds'). Laid BY PROGRAM, IN A SANDBOX (cutbox-door.mjs). By AI agents, Wed Nov 11 2026. No macro, syntax, notation, axiom, sorry.
-/
import Derived.Test.YtjllbbkpmmnkgaaDoorRows
import GoSem.ClaimSeven
namespace Go.Proofs.YtjllbbkpmmnkgaaDoor
namespace Rows

/-- THE TIED CARD OF 'laws.FnExactIsSequence'. -/
def fnExactIsSequenceCard : Claim7 := { stood := { row := fnExactIsSequenceRow, standIns := [], harness := (true, "4e7e19c4f43621857e95ca65032e05d629a2f68d1b84082f739c9dd49c37560e"), looks := false }, kinds := [], alts := [], laidByText := true, laidKinds := [.data, .data], laidTests := true, laidLooks := .later }
def FnExactIsSequenceCardSaid : Prop := Claim7.holds Tryd.pinned (.plain (OpenSpec.ofChange fnExactIsSequenceSpec)) fnExactIsSequenceCard

/-- THE TIED CARD OF 'laws.FnExactSequenceDistance'. -/
def fnExactSequenceDistanceCard : Claim7 := { stood := { row := fnExactSequenceDistanceRow, standIns := [], harness := (true, "4e7e19c4f43621857e95ca65032e05d629a2f68d1b84082f739c9dd49c37560e"), looks := false }, kinds := [], alts := [], laidByText := true, laidKinds := [.data, .data], laidTests := true, laidLooks := .later }
def FnExactSequenceDistanceCardSaid : Prop := Claim7.holds Tryd.pinned (.plain (OpenSpec.ofChange fnExactSequenceDistanceSpec)) fnExactSequenceDistanceCard

/-- THE TIED CARD OF 'laws.FnExactCountSequences'. -/
def fnExactCountSequencesCard : Claim7 := { stood := { row := fnExactCountSequencesRow, standIns := [], harness := (true, "4e7e19c4f43621857e95ca65032e05d629a2f68d1b84082f739c9dd49c37560e"), looks := false }, kinds := [], alts := [], laidByText := true, laidKinds := [.data, .data], laidTests := true, laidLooks := .later }
def FnExactCountSequencesCardSaid : Prop := Claim7.holds Tryd.pinned (.plain (OpenSpec.ofChange fnExactCountSequencesSpec)) fnExactCountSequencesCard

/-- THE TIED CARD OF 'laws.FnExactRankSequence'. -/
def fnExactRankSequenceCard : Claim7 := { stood := { row := fnExactRankSequenceRow, standIns := [], harness := (true, "4e7e19c4f43621857e95ca65032e05d629a2f68d1b84082f739c9dd49c37560e"), looks := false }, kinds := [], alts := [], laidByText := true, laidKinds := [.data, .data], laidTests := true, laidLooks := .later }
def FnExactRankSequenceCardSaid : Prop := Claim7.holds Tryd.pinned (.plain (OpenSpec.ofChange fnExactRankSequenceSpec)) fnExactRankSequenceCard

/-- THE TIED CARD OF 'laws.FnExactSequenceAt'. -/
def fnExactSequenceAtCard : Claim7 := { stood := { row := fnExactSequenceAtRow, standIns := [], harness := (true, "4e7e19c4f43621857e95ca65032e05d629a2f68d1b84082f739c9dd49c37560e"), looks := false }, kinds := [], alts := [], laidByText := true, laidKinds := [.data, .data], laidTests := true, laidLooks := .later }
def FnExactSequenceAtCardSaid : Prop := Claim7.holds Tryd.pinned (.plain (OpenSpec.ofChange fnExactSequenceAtSpec)) fnExactSequenceAtCard

/-- THE TIED CARD OF 'laws.FnExactNextSequence'. -/
def fnExactNextSequenceCard : Claim7 := { stood := { row := fnExactNextSequenceRow, standIns := [], harness := (true, "4e7e19c4f43621857e95ca65032e05d629a2f68d1b84082f739c9dd49c37560e"), looks := false }, kinds := [], alts := [], laidByText := true, laidKinds := [.data, .data], laidTests := true, laidLooks := .later }
def FnExactNextSequenceCardSaid : Prop := Claim7.holds Tryd.pinned (.plain (OpenSpec.ofChange fnExactNextSequenceSpec)) fnExactNextSequenceCard

/-- THE TIED CARD OF 'laws.FnExactCountBefore'. -/
def fnExactCountBeforeCard : Claim7 := { stood := { row := fnExactCountBeforeRow, standIns := [], harness := (true, "4e7e19c4f43621857e95ca65032e05d629a2f68d1b84082f739c9dd49c37560e"), looks := false }, kinds := [], alts := [], laidByText := true, laidKinds := [.data, .data], laidTests := true, laidLooks := .later }
def FnExactCountBeforeCardSaid : Prop := Claim7.holds Tryd.pinned (.plain (OpenSpec.ofChange fnExactCountBeforeSpec)) fnExactCountBeforeCard

/-- THE TIED CARD OF 'laws.FnExactPlaceCounts'. -/
def fnExactPlaceCountsCard : Claim7 := { stood := { row := fnExactPlaceCountsRow, standIns := [], harness := (true, "4e7e19c4f43621857e95ca65032e05d629a2f68d1b84082f739c9dd49c37560e"), looks := false }, kinds := [], alts := [], laidByText := true, laidKinds := [.data, .data], laidTests := true, laidLooks := .later }
def FnExactPlaceCountsCardSaid : Prop := Claim7.holds Tryd.pinned (.plain (OpenSpec.ofChange fnExactPlaceCountsSpec)) fnExactPlaceCountsCard

/-- THE SECOND FORM's CARD OF 'laws.FnExactIsSequence'. -/
def fnExactIsSequenceUptoCard : Claim7 := { stood := { row := fnExactIsSequenceUptoRow, standIns := [], harness := (true, "4e7e19c4f43621857e95ca65032e05d629a2f68d1b84082f739c9dd49c37560e"), looks := false }, kinds := [], alts := [], laidByText := true, laidKinds := [.data, .data], laidTests := true, laidLooks := .later }
def FnExactIsSequenceUptoCardSaid : Prop := Claim7.holds Tryd.pinned (.plain (OpenSpec.upto fnExactIsSequenceSpec)) fnExactIsSequenceUptoCard

/-- THE SECOND FORM's CARD OF 'laws.FnExactSequenceDistance'. -/
def fnExactSequenceDistanceUptoCard : Claim7 := { stood := { row := fnExactSequenceDistanceUptoRow, standIns := [], harness := (true, "4e7e19c4f43621857e95ca65032e05d629a2f68d1b84082f739c9dd49c37560e"), looks := false }, kinds := [], alts := [], laidByText := true, laidKinds := [.data, .data], laidTests := true, laidLooks := .later }
def FnExactSequenceDistanceUptoCardSaid : Prop := Claim7.holds Tryd.pinned (.plain (OpenSpec.upto fnExactSequenceDistanceSpec)) fnExactSequenceDistanceUptoCard

/-- THE SECOND FORM's CARD OF 'laws.FnExactCountSequences'. -/
def fnExactCountSequencesUptoCard : Claim7 := { stood := { row := fnExactCountSequencesUptoRow, standIns := [], harness := (true, "4e7e19c4f43621857e95ca65032e05d629a2f68d1b84082f739c9dd49c37560e"), looks := false }, kinds := [], alts := [], laidByText := true, laidKinds := [.data, .data], laidTests := true, laidLooks := .later }
def FnExactCountSequencesUptoCardSaid : Prop := Claim7.holds Tryd.pinned (.plain (OpenSpec.upto fnExactCountSequencesSpec)) fnExactCountSequencesUptoCard

/-- THE SECOND FORM's CARD OF 'laws.FnExactRankSequence'. -/
def fnExactRankSequenceUptoCard : Claim7 := { stood := { row := fnExactRankSequenceUptoRow, standIns := [], harness := (true, "4e7e19c4f43621857e95ca65032e05d629a2f68d1b84082f739c9dd49c37560e"), looks := false }, kinds := [], alts := [], laidByText := true, laidKinds := [.data, .data], laidTests := true, laidLooks := .later }
def FnExactRankSequenceUptoCardSaid : Prop := Claim7.holds Tryd.pinned (.plain (OpenSpec.upto fnExactRankSequenceSpec)) fnExactRankSequenceUptoCard

/-- THE SECOND FORM's CARD OF 'laws.FnExactSequenceAt'. -/
def fnExactSequenceAtUptoCard : Claim7 := { stood := { row := fnExactSequenceAtUptoRow, standIns := [], harness := (true, "4e7e19c4f43621857e95ca65032e05d629a2f68d1b84082f739c9dd49c37560e"), looks := false }, kinds := [], alts := [], laidByText := true, laidKinds := [.data, .data], laidTests := true, laidLooks := .later }
def FnExactSequenceAtUptoCardSaid : Prop := Claim7.holds Tryd.pinned (.plain (OpenSpec.upto fnExactSequenceAtSpec)) fnExactSequenceAtUptoCard

/-- THE SECOND FORM's CARD OF 'laws.FnExactNextSequence'. -/
def fnExactNextSequenceUptoCard : Claim7 := { stood := { row := fnExactNextSequenceUptoRow, standIns := [], harness := (true, "4e7e19c4f43621857e95ca65032e05d629a2f68d1b84082f739c9dd49c37560e"), looks := false }, kinds := [], alts := [], laidByText := true, laidKinds := [.data, .data], laidTests := true, laidLooks := .later }
def FnExactNextSequenceUptoCardSaid : Prop := Claim7.holds Tryd.pinned (.plain (OpenSpec.upto fnExactNextSequenceSpec)) fnExactNextSequenceUptoCard

/-- THE SECOND FORM's CARD OF 'laws.FnExactCountBefore'. -/
def fnExactCountBeforeUptoCard : Claim7 := { stood := { row := fnExactCountBeforeUptoRow, standIns := [], harness := (true, "4e7e19c4f43621857e95ca65032e05d629a2f68d1b84082f739c9dd49c37560e"), looks := false }, kinds := [], alts := [], laidByText := true, laidKinds := [.data, .data], laidTests := true, laidLooks := .later }
def FnExactCountBeforeUptoCardSaid : Prop := Claim7.holds Tryd.pinned (.plain (OpenSpec.upto fnExactCountBeforeSpec)) fnExactCountBeforeUptoCard

/-- THE SECOND FORM's CARD OF 'laws.FnExactPlaceCounts'. -/
def fnExactPlaceCountsUptoCard : Claim7 := { stood := { row := fnExactPlaceCountsUptoRow, standIns := [], harness := (true, "4e7e19c4f43621857e95ca65032e05d629a2f68d1b84082f739c9dd49c37560e"), looks := false }, kinds := [], alts := [], laidByText := true, laidKinds := [.data, .data], laidTests := true, laidLooks := .later }
def FnExactPlaceCountsUptoCardSaid : Prop := Claim7.holds Tryd.pinned (.plain (OpenSpec.upto fnExactPlaceCountsSpec)) fnExactPlaceCountsUptoCard
end Rows
end Go.Proofs.YtjllbbkpmmnkgaaDoor
