/-
  No cell of these rows narrows 'for every input' (looked for: loops, veiled, ifaces, maps, wideKeys, modest, calm, conditions, laid).
  DERIVED. THE GIVEN ROWS OF THIS SEAT. 11 by the template 'for every input the law returns true; each argument reads behind the call as it read before'; 0 by the template 'total and deterministic' (their statements: YtlpcgchekhoieaaTotals.lean).
  GIVEN WITH THE SEED: the statements are not yours to turn. If you find one false, say at which input.
  Laid BY PROGRAM, IN A SANDBOX (cutbox-rows.mjs): the forced cells as the released guide's own fill.sh prints them over the translation fcc5376a1d66f655… (all of the seat's roots in one cut). By AI agents, Wed Nov 11 2026. No macro, syntax, notation, axiom, sorry.
-/
import Derived.Test.YtlpcgchekhoieaaChecked
import GoSem.Claim
import GoSem.ClaimJoined
import GoSem.ClaimMapViews
import Derived.JoinedTies
import Derived.KernelRfl
namespace Go.Proofs.Ytlpcgchekhoieaa
/- THE CELL 'sum', in the pinned program and in every row, IS THE sha256 OF THE DUMP (.gsa) THAT YtlpcgchekhoieaaProg.lean LOADS. Nothing in Lean hashes anything: it is a label: what it is worth is what the hold of that sum in a sandbox is worth. -/
noncomputable def Try.pinned : Pinned := { name := "ytlpcgchekhoieaa", sum := "fcc5376a1d66f655f7501039b9824508cefc79739928ad90f398525f3cee0812", checked := Try.checked }
namespace Rows
def none {H : Type} : Left H := { results := [], args := [] }

/-- 'laws.FnExactIsValidCurve': WHATEVER THE INPUT: true; the input reads as it did. -/
def fnExactIsValidCurveSpec : ChangeSpec := { name := "fnExactIsValidCurve", fn := fun _ => fun
  | [d] => { results := [.lit (.bool true)], args := [d] }
  | _ => none }
def fnExactIsValidCurveRow : OpenClaim := { program := "ytlpcgchekhoieaa", sum := "fcc5376a1d66f655f7501039b9824508cefc79739928ad90f398525f3cee0812", func := "loop.example/g00876/laws.FnExactIsValidCurve", spec := "fnExactIsValidCurve", unfollowed := true, recurses := true, apart := false }
def FnExactIsValidCurveSaid : Prop := fnExactIsValidCurveRow.holds Try.pinned (OpenSpec.ofChange fnExactIsValidCurveSpec)

/-- ITS FALSE NEIGHBOUR: 'it returns false'. Refute it at one input. -/
def fnExactIsValidCurveWrong : ChangeSpec := { name := "fnExactIsValidCurve", fn := fun _ => fun
  | [d] => { results := [.lit (.bool false)], args := [d] }
  | _ => none }
def FnExactIsValidCurveWrongFalsely : Prop := fnExactIsValidCurveRow.holds Try.pinned (OpenSpec.ofChange fnExactIsValidCurveWrong)

/-- 'laws.FnExactCurveAt': WHATEVER THE INPUT: true; the input reads as it did. -/
def fnExactCurveAtSpec : ChangeSpec := { name := "fnExactCurveAt", fn := fun _ => fun
  | [d1, d2] => { results := [.lit (.bool true)], args := [d1, d2] }
  | _ => none }
def fnExactCurveAtRow : OpenClaim := { program := "ytlpcgchekhoieaa", sum := "fcc5376a1d66f655f7501039b9824508cefc79739928ad90f398525f3cee0812", func := "loop.example/g00876/laws.FnExactCurveAt", spec := "fnExactCurveAt", unfollowed := true, recurses := true, apart := false }
def FnExactCurveAtSaid : Prop := fnExactCurveAtRow.holds Try.pinned (OpenSpec.ofChange fnExactCurveAtSpec)

/-- ITS FALSE NEIGHBOUR: 'it returns false'. Refute it at one input. -/
def fnExactCurveAtWrong : ChangeSpec := { name := "fnExactCurveAt", fn := fun _ => fun
  | [d1, d2] => { results := [.lit (.bool false)], args := [d1, d2] }
  | _ => none }
def FnExactCurveAtWrongFalsely : Prop := fnExactCurveAtRow.holds Try.pinned (OpenSpec.ofChange fnExactCurveAtWrong)

/-- 'laws.FnExactYearsWithin': WHATEVER THE INPUT: true; the input reads as it did. -/
def fnExactYearsWithinSpec : ChangeSpec := { name := "fnExactYearsWithin", fn := fun _ => fun
  | [d1, d2, d3] => { results := [.lit (.bool true)], args := [d1, d2, d3] }
  | _ => none }
def fnExactYearsWithinRow : OpenClaim := { program := "ytlpcgchekhoieaa", sum := "fcc5376a1d66f655f7501039b9824508cefc79739928ad90f398525f3cee0812", func := "loop.example/g00876/laws.FnExactYearsWithin", spec := "fnExactYearsWithin", unfollowed := true, recurses := true, apart := false }
def FnExactYearsWithinSaid : Prop := fnExactYearsWithinRow.holds Try.pinned (OpenSpec.ofChange fnExactYearsWithinSpec)

/-- ITS FALSE NEIGHBOUR: 'it returns false'. Refute it at one input. -/
def fnExactYearsWithinWrong : ChangeSpec := { name := "fnExactYearsWithin", fn := fun _ => fun
  | [d1, d2, d3] => { results := [.lit (.bool false)], args := [d1, d2, d3] }
  | _ => none }
def FnExactYearsWithinWrongFalsely : Prop := fnExactYearsWithinRow.holds Try.pinned (OpenSpec.ofChange fnExactYearsWithinWrong)

/-- 'laws.FnExactCalibrateAge': WHATEVER THE INPUT: true; the input reads as it did. -/
def fnExactCalibrateAgeSpec : ChangeSpec := { name := "fnExactCalibrateAge", fn := fun _ => fun
  | [d1, d2] => { results := [.lit (.bool true)], args := [d1, d2] }
  | _ => none }
def fnExactCalibrateAgeRow : OpenClaim := { program := "ytlpcgchekhoieaa", sum := "fcc5376a1d66f655f7501039b9824508cefc79739928ad90f398525f3cee0812", func := "loop.example/g00876/laws.FnExactCalibrateAge", spec := "fnExactCalibrateAge", unfollowed := true, recurses := true, apart := false }
def FnExactCalibrateAgeSaid : Prop := fnExactCalibrateAgeRow.holds Try.pinned (OpenSpec.ofChange fnExactCalibrateAgeSpec)

/-- ITS FALSE NEIGHBOUR: 'it returns false'. Refute it at one input. -/
def fnExactCalibrateAgeWrong : ChangeSpec := { name := "fnExactCalibrateAge", fn := fun _ => fun
  | [d1, d2] => { results := [.lit (.bool false)], args := [d1, d2] }
  | _ => none }
def FnExactCalibrateAgeWrongFalsely : Prop := fnExactCalibrateAgeRow.holds Try.pinned (OpenSpec.ofChange fnExactCalibrateAgeWrong)

/-- 'laws.FnExactCombineMeasurements': WHATEVER THE INPUT: true; the input reads as it did. -/
def fnExactCombineMeasurementsSpec : ChangeSpec := { name := "fnExactCombineMeasurements", fn := fun _ => fun
  | [d] => { results := [.lit (.bool true)], args := [d] }
  | _ => none }
def fnExactCombineMeasurementsRow : OpenClaim := { program := "ytlpcgchekhoieaa", sum := "fcc5376a1d66f655f7501039b9824508cefc79739928ad90f398525f3cee0812", func := "loop.example/g00876/laws.FnExactCombineMeasurements", spec := "fnExactCombineMeasurements", unfollowed := true, recurses := true, apart := false }
def FnExactCombineMeasurementsSaid : Prop := fnExactCombineMeasurementsRow.holds Try.pinned (OpenSpec.ofChange fnExactCombineMeasurementsSpec)

/-- ITS FALSE NEIGHBOUR: 'it returns false'. Refute it at one input. -/
def fnExactCombineMeasurementsWrong : ChangeSpec := { name := "fnExactCombineMeasurements", fn := fun _ => fun
  | [d] => { results := [.lit (.bool false)], args := [d] }
  | _ => none }
def FnExactCombineMeasurementsWrongFalsely : Prop := fnExactCombineMeasurementsRow.holds Try.pinned (OpenSpec.ofChange fnExactCombineMeasurementsWrong)

/-- 'laws.FnExactAgreementOf': WHATEVER THE INPUT: true; the input reads as it did. -/
def fnExactAgreementOfSpec : ChangeSpec := { name := "fnExactAgreementOf", fn := fun _ => fun
  | [d] => { results := [.lit (.bool true)], args := [d] }
  | _ => none }
def fnExactAgreementOfRow : OpenClaim := { program := "ytlpcgchekhoieaa", sum := "fcc5376a1d66f655f7501039b9824508cefc79739928ad90f398525f3cee0812", func := "loop.example/g00876/laws.FnExactAgreementOf", spec := "fnExactAgreementOf", unfollowed := true, recurses := true, apart := false }
def FnExactAgreementOfSaid : Prop := fnExactAgreementOfRow.holds Try.pinned (OpenSpec.ofChange fnExactAgreementOfSpec)

/-- ITS FALSE NEIGHBOUR: 'it returns false'. Refute it at one input. -/
def fnExactAgreementOfWrong : ChangeSpec := { name := "fnExactAgreementOf", fn := fun _ => fun
  | [d] => { results := [.lit (.bool false)], args := [d] }
  | _ => none }
def FnExactAgreementOfWrongFalsely : Prop := fnExactAgreementOfRow.holds Try.pinned (OpenSpec.ofChange fnExactAgreementOfWrong)

/-- 'laws.FnExactCurveTurns': WHATEVER THE INPUT: true; the input reads as it did. -/
def fnExactCurveTurnsSpec : ChangeSpec := { name := "fnExactCurveTurns", fn := fun _ => fun
  | [d] => { results := [.lit (.bool true)], args := [d] }
  | _ => none }
def fnExactCurveTurnsRow : OpenClaim := { program := "ytlpcgchekhoieaa", sum := "fcc5376a1d66f655f7501039b9824508cefc79739928ad90f398525f3cee0812", func := "loop.example/g00876/laws.FnExactCurveTurns", spec := "fnExactCurveTurns", unfollowed := true, recurses := true, apart := false }
def FnExactCurveTurnsSaid : Prop := fnExactCurveTurnsRow.holds Try.pinned (OpenSpec.ofChange fnExactCurveTurnsSpec)

/-- ITS FALSE NEIGHBOUR: 'it returns false'. Refute it at one input. -/
def fnExactCurveTurnsWrong : ChangeSpec := { name := "fnExactCurveTurns", fn := fun _ => fun
  | [d] => { results := [.lit (.bool false)], args := [d] }
  | _ => none }
def FnExactCurveTurnsWrongFalsely : Prop := fnExactCurveTurnsRow.holds Try.pinned (OpenSpec.ofChange fnExactCurveTurnsWrong)

/-- 'laws.FnExactShiftCurve': WHATEVER THE INPUT: true; the input reads as it did. -/
def fnExactShiftCurveSpec : ChangeSpec := { name := "fnExactShiftCurve", fn := fun _ => fun
  | [d1, d2, d3] => { results := [.lit (.bool true)], args := [d1, d2, d3] }
  | _ => none }
def fnExactShiftCurveRow : OpenClaim := { program := "ytlpcgchekhoieaa", sum := "fcc5376a1d66f655f7501039b9824508cefc79739928ad90f398525f3cee0812", func := "loop.example/g00876/laws.FnExactShiftCurve", spec := "fnExactShiftCurve", unfollowed := true, recurses := true, apart := false }
def FnExactShiftCurveSaid : Prop := fnExactShiftCurveRow.holds Try.pinned (OpenSpec.ofChange fnExactShiftCurveSpec)

/-- ITS FALSE NEIGHBOUR: 'it returns false'. Refute it at one input. -/
def fnExactShiftCurveWrong : ChangeSpec := { name := "fnExactShiftCurve", fn := fun _ => fun
  | [d1, d2, d3] => { results := [.lit (.bool false)], args := [d1, d2, d3] }
  | _ => none }
def FnExactShiftCurveWrongFalsely : Prop := fnExactShiftCurveRow.holds Try.pinned (OpenSpec.ofChange fnExactShiftCurveWrong)

/-- 'laws.FnExactWigglePlacement': WHATEVER THE INPUT: true; the input reads as it did. -/
def fnExactWigglePlacementSpec : ChangeSpec := { name := "fnExactWigglePlacement", fn := fun _ => fun
  | [d1, d2, d3] => { results := [.lit (.bool true)], args := [d1, d2, d3] }
  | _ => none }
def fnExactWigglePlacementRow : OpenClaim := { program := "ytlpcgchekhoieaa", sum := "fcc5376a1d66f655f7501039b9824508cefc79739928ad90f398525f3cee0812", func := "loop.example/g00876/laws.FnExactWigglePlacement", spec := "fnExactWigglePlacement", unfollowed := true, recurses := true, apart := false }
def FnExactWigglePlacementSaid : Prop := fnExactWigglePlacementRow.holds Try.pinned (OpenSpec.ofChange fnExactWigglePlacementSpec)

/-- ITS FALSE NEIGHBOUR: 'it returns false'. Refute it at one input. -/
def fnExactWigglePlacementWrong : ChangeSpec := { name := "fnExactWigglePlacement", fn := fun _ => fun
  | [d1, d2, d3] => { results := [.lit (.bool false)], args := [d1, d2, d3] }
  | _ => none }
def FnExactWigglePlacementWrongFalsely : Prop := fnExactWigglePlacementRow.holds Try.pinned (OpenSpec.ofChange fnExactWigglePlacementWrong)

/-- 'laws.FnExactChanceEarlier': WHATEVER THE INPUT: true; the input reads as it did. -/
def fnExactChanceEarlierSpec : ChangeSpec := { name := "fnExactChanceEarlier", fn := fun _ => fun
  | [d1, d2] => { results := [.lit (.bool true)], args := [d1, d2] }
  | _ => none }
def fnExactChanceEarlierRow : OpenClaim := { program := "ytlpcgchekhoieaa", sum := "fcc5376a1d66f655f7501039b9824508cefc79739928ad90f398525f3cee0812", func := "loop.example/g00876/laws.FnExactChanceEarlier", spec := "fnExactChanceEarlier", unfollowed := true, recurses := true, apart := false }
def FnExactChanceEarlierSaid : Prop := fnExactChanceEarlierRow.holds Try.pinned (OpenSpec.ofChange fnExactChanceEarlierSpec)

/-- ITS FALSE NEIGHBOUR: 'it returns false'. Refute it at one input. -/
def fnExactChanceEarlierWrong : ChangeSpec := { name := "fnExactChanceEarlier", fn := fun _ => fun
  | [d1, d2] => { results := [.lit (.bool false)], args := [d1, d2] }
  | _ => none }
def FnExactChanceEarlierWrongFalsely : Prop := fnExactChanceEarlierRow.holds Try.pinned (OpenSpec.ofChange fnExactChanceEarlierWrong)

/-- 'laws.FnExactMixDistributions': WHATEVER THE INPUT: true; the input reads as it did. -/
def fnExactMixDistributionsSpec : ChangeSpec := { name := "fnExactMixDistributions", fn := fun _ => fun
  | [d1, d2, d3, d4] => { results := [.lit (.bool true)], args := [d1, d2, d3, d4] }
  | _ => none }
def fnExactMixDistributionsRow : OpenClaim := { program := "ytlpcgchekhoieaa", sum := "fcc5376a1d66f655f7501039b9824508cefc79739928ad90f398525f3cee0812", func := "loop.example/g00876/laws.FnExactMixDistributions", spec := "fnExactMixDistributions", unfollowed := true, recurses := true, apart := false }
def FnExactMixDistributionsSaid : Prop := fnExactMixDistributionsRow.holds Try.pinned (OpenSpec.ofChange fnExactMixDistributionsSpec)

/-- ITS FALSE NEIGHBOUR: 'it returns false'. Refute it at one input. -/
def fnExactMixDistributionsWrong : ChangeSpec := { name := "fnExactMixDistributions", fn := fun _ => fun
  | [d1, d2, d3, d4] => { results := [.lit (.bool false)], args := [d1, d2, d3, d4] }
  | _ => none }
def FnExactMixDistributionsWrongFalsely : Prop := fnExactMixDistributionsRow.holds Try.pinned (OpenSpec.ofChange fnExactMixDistributionsWrong)

/- THE SECOND FORM. 'bulk': how many values and letters a reading holds, each counted each time it is reached (what is shared counts as often as it is met; a slice's spare places count too). A statement '..UptoSaid' is the law's where the arguments, and the package variables that the reading takes, are together of bulk at most 1048576: NARROWER than '..Said'. Prove '..Said' where nothing that the law and all that it calls make is longer than what came in: it says more and counts as full. Else prove '..UptoSaid'. A law counts once. -/
mutual
def uptoBulk {H : Type} : DataW H → Nat
  | .lit (.string bytes) => bytes.length + 1
  | .lit _ => 1
  | .nil => 1
  | .ptr d => uptoBulk d + 1
  | .slice elems spare => uptoBulkAll elems + uptoBulkAll spare + 1
  | .agg parts => uptoBulkAll parts + 1
  | .iface _ d => uptoBulk d + 1
  | .map entries => uptoBulkEntries entries + 1
  | .held _ => 1
def uptoBulkAll {H : Type} : List (DataW H) → Nat
  | [] => 0
  | d :: r => uptoBulk d + uptoBulkAll r
def uptoBulkEntries {H : Type} : List (Lit × DataW H) → Nat
  | [] => 0
  | x :: r => uptoBulkEntry x + uptoBulkEntries r
def uptoBulkEntry {H : Type} : Lit × DataW H → Nat
  | (.string bytes, d) => bytes.length + uptoBulk d + 1
  | (_, d) => uptoBulk d + 1
 end
def uptoSmall : (H : Type) → List (DataW H) → Bool := fun _ ds => decide (uptoBulkAll ds ≤ 1048576)
def OpenSpec.upto (s : _root_.Go.ChangeSpec) : _root_.Go.OpenSpec := { _root_.Go.OpenSpec.ofChange s with cond := some uptoSmall }

/-- 'laws.FnExactIsValidCurve', WHERE WHAT IT READS IS OF BULK AT MOST 1048576: true; the input reads as it did. -/
def fnExactIsValidCurveUptoRow : OpenClaim := { program := "ytlpcgchekhoieaa", sum := "fcc5376a1d66f655f7501039b9824508cefc79739928ad90f398525f3cee0812", func := "loop.example/g00876/laws.FnExactIsValidCurve", spec := "fnExactIsValidCurve", unfollowed := true, recurses := true, apart := false, narrowed := true }
def FnExactIsValidCurveUptoSaid : Prop := fnExactIsValidCurveUptoRow.holds Try.pinned (OpenSpec.upto fnExactIsValidCurveSpec)

/-- 'laws.FnExactCurveAt', WHERE WHAT IT READS IS OF BULK AT MOST 1048576: true; the input reads as it did. -/
def fnExactCurveAtUptoRow : OpenClaim := { program := "ytlpcgchekhoieaa", sum := "fcc5376a1d66f655f7501039b9824508cefc79739928ad90f398525f3cee0812", func := "loop.example/g00876/laws.FnExactCurveAt", spec := "fnExactCurveAt", unfollowed := true, recurses := true, apart := false, narrowed := true }
def FnExactCurveAtUptoSaid : Prop := fnExactCurveAtUptoRow.holds Try.pinned (OpenSpec.upto fnExactCurveAtSpec)

/-- 'laws.FnExactYearsWithin', WHERE WHAT IT READS IS OF BULK AT MOST 1048576: true; the input reads as it did. -/
def fnExactYearsWithinUptoRow : OpenClaim := { program := "ytlpcgchekhoieaa", sum := "fcc5376a1d66f655f7501039b9824508cefc79739928ad90f398525f3cee0812", func := "loop.example/g00876/laws.FnExactYearsWithin", spec := "fnExactYearsWithin", unfollowed := true, recurses := true, apart := false, narrowed := true }
def FnExactYearsWithinUptoSaid : Prop := fnExactYearsWithinUptoRow.holds Try.pinned (OpenSpec.upto fnExactYearsWithinSpec)

/-- 'laws.FnExactCalibrateAge', WHERE WHAT IT READS IS OF BULK AT MOST 1048576: true; the input reads as it did. -/
def fnExactCalibrateAgeUptoRow : OpenClaim := { program := "ytlpcgchekhoieaa", sum := "fcc5376a1d66f655f7501039b9824508cefc79739928ad90f398525f3cee0812", func := "loop.example/g00876/laws.FnExactCalibrateAge", spec := "fnExactCalibrateAge", unfollowed := true, recurses := true, apart := false, narrowed := true }
def FnExactCalibrateAgeUptoSaid : Prop := fnExactCalibrateAgeUptoRow.holds Try.pinned (OpenSpec.upto fnExactCalibrateAgeSpec)

/-- 'laws.FnExactCombineMeasurements', WHERE WHAT IT READS IS OF BULK AT MOST 1048576: true; the input reads as it did. -/
def fnExactCombineMeasurementsUptoRow : OpenClaim := { program := "ytlpcgchekhoieaa", sum := "fcc5376a1d66f655f7501039b9824508cefc79739928ad90f398525f3cee0812", func := "loop.example/g00876/laws.FnExactCombineMeasurements", spec := "fnExactCombineMeasurements", unfollowed := true, recurses := true, apart := false, narrowed := true }
def FnExactCombineMeasurementsUptoSaid : Prop := fnExactCombineMeasurementsUptoRow.holds Try.pinned (OpenSpec.upto fnExactCombineMeasurementsSpec)

/-- 'laws.FnExactAgreementOf', WHERE WHAT IT READS IS OF BULK AT MOST 1048576: true; the input reads as it did. -/
def fnExactAgreementOfUptoRow : OpenClaim := { program := "ytlpcgchekhoieaa", sum := "fcc5376a1d66f655f7501039b9824508cefc79739928ad90f398525f3cee0812", func := "loop.example/g00876/laws.FnExactAgreementOf", spec := "fnExactAgreementOf", unfollowed := true, recurses := true, apart := false, narrowed := true }
def FnExactAgreementOfUptoSaid : Prop := fnExactAgreementOfUptoRow.holds Try.pinned (OpenSpec.upto fnExactAgreementOfSpec)

/-- 'laws.FnExactCurveTurns', WHERE WHAT IT READS IS OF BULK AT MOST 1048576: true; the input reads as it did. -/
def fnExactCurveTurnsUptoRow : OpenClaim := { program := "ytlpcgchekhoieaa", sum := "fcc5376a1d66f655f7501039b9824508cefc79739928ad90f398525f3cee0812", func := "loop.example/g00876/laws.FnExactCurveTurns", spec := "fnExactCurveTurns", unfollowed := true, recurses := true, apart := false, narrowed := true }
def FnExactCurveTurnsUptoSaid : Prop := fnExactCurveTurnsUptoRow.holds Try.pinned (OpenSpec.upto fnExactCurveTurnsSpec)

/-- 'laws.FnExactShiftCurve', WHERE WHAT IT READS IS OF BULK AT MOST 1048576: true; the input reads as it did. -/
def fnExactShiftCurveUptoRow : OpenClaim := { program := "ytlpcgchekhoieaa", sum := "fcc5376a1d66f655f7501039b9824508cefc79739928ad90f398525f3cee0812", func := "loop.example/g00876/laws.FnExactShiftCurve", spec := "fnExactShiftCurve", unfollowed := true, recurses := true, apart := false, narrowed := true }
def FnExactShiftCurveUptoSaid : Prop := fnExactShiftCurveUptoRow.holds Try.pinned (OpenSpec.upto fnExactShiftCurveSpec)

/-- 'laws.FnExactWigglePlacement', WHERE WHAT IT READS IS OF BULK AT MOST 1048576: true; the input reads as it did. -/
def fnExactWigglePlacementUptoRow : OpenClaim := { program := "ytlpcgchekhoieaa", sum := "fcc5376a1d66f655f7501039b9824508cefc79739928ad90f398525f3cee0812", func := "loop.example/g00876/laws.FnExactWigglePlacement", spec := "fnExactWigglePlacement", unfollowed := true, recurses := true, apart := false, narrowed := true }
def FnExactWigglePlacementUptoSaid : Prop := fnExactWigglePlacementUptoRow.holds Try.pinned (OpenSpec.upto fnExactWigglePlacementSpec)

/-- 'laws.FnExactChanceEarlier', WHERE WHAT IT READS IS OF BULK AT MOST 1048576: true; the input reads as it did. -/
def fnExactChanceEarlierUptoRow : OpenClaim := { program := "ytlpcgchekhoieaa", sum := "fcc5376a1d66f655f7501039b9824508cefc79739928ad90f398525f3cee0812", func := "loop.example/g00876/laws.FnExactChanceEarlier", spec := "fnExactChanceEarlier", unfollowed := true, recurses := true, apart := false, narrowed := true }
def FnExactChanceEarlierUptoSaid : Prop := fnExactChanceEarlierUptoRow.holds Try.pinned (OpenSpec.upto fnExactChanceEarlierSpec)

/-- 'laws.FnExactMixDistributions', WHERE WHAT IT READS IS OF BULK AT MOST 1048576: true; the input reads as it did. -/
def fnExactMixDistributionsUptoRow : OpenClaim := { program := "ytlpcgchekhoieaa", sum := "fcc5376a1d66f655f7501039b9824508cefc79739928ad90f398525f3cee0812", func := "loop.example/g00876/laws.FnExactMixDistributions", spec := "fnExactMixDistributions", unfollowed := true, recurses := true, apart := false, narrowed := true }
def FnExactMixDistributionsUptoSaid : Prop := fnExactMixDistributionsUptoRow.holds Try.pinned (OpenSpec.upto fnExactMixDistributionsSpec)

end Rows
end Go.Proofs.Ytlpcgchekhoieaa
