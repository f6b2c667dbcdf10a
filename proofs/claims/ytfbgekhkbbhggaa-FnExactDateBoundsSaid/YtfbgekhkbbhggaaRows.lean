/-
  No cell of these rows narrows 'for every input' (looked for: loops, veiled, ifaces, maps, wideKeys, modest, calm, conditions, laid).
  DERIVED. THE GIVEN ROWS OF THIS SEAT. 11 by the template 'for every input the law returns true; each argument reads behind the call as it read before'; 0 by the template 'total and deterministic' (their statements: YtfbgekhkbbhggaaTotals.lean).
  GIVEN WITH THE SEED: the statements are not yours to turn. If you find one false, say at which input.
  Laid BY PROGRAM, IN A SANDBOX (cutbox-rows.mjs): the forced cells as the released guide's own fill.sh prints them over the translation c0d1526b14c3c5ec… (all of the seat's roots in one cut). By AI agents, Wed Nov 11 2026. No macro, syntax, notation, axiom, sorry.
-/
import Derived.Test.YtfbgekhkbbhggaaChecked
import GoSem.Claim
import GoSem.ClaimJoined
import GoSem.ClaimMapViews
import Derived.JoinedTies
import Derived.KernelRfl
namespace Go.Proofs.Ytfbgekhkbbhggaa
/- THE CELL 'sum', in the pinned program and in every row, IS THE sha256 OF THE DUMP (.gsa) THAT YtfbgekhkbbhggaaProg.lean LOADS. Nothing in Lean hashes anything: it is a label: what it is worth is what the hold of that sum in a sandbox is worth. -/
noncomputable def Try.pinned : Pinned := { name := "ytfbgekhkbbhggaa", sum := "c0d1526b14c3c5ecdd1616de4b306fecdc5e9d7772f115812fda88ac71458089", checked := Try.checked }
namespace Rows
def none {H : Type} : Left H := { results := [], args := [] }

/-- 'laws.FnExactIsValidDated': WHATEVER THE INPUT: true; the input reads as it did. -/
def fnExactIsValidDatedSpec : ChangeSpec := { name := "fnExactIsValidDated", fn := fun _ => fun
  | [d] => { results := [.lit (.bool true)], args := [d] }
  | _ => none }
def fnExactIsValidDatedRow : OpenClaim := { program := "ytfbgekhkbbhggaa", sum := "c0d1526b14c3c5ecdd1616de4b306fecdc5e9d7772f115812fda88ac71458089", func := "loop.example/g00876/laws.FnExactIsValidDated", spec := "fnExactIsValidDated", unfollowed := true, recurses := true, apart := false }
def FnExactIsValidDatedSaid : Prop := fnExactIsValidDatedRow.holds Try.pinned (OpenSpec.ofChange fnExactIsValidDatedSpec)

/-- ITS FALSE NEIGHBOUR: 'it returns false'. Refute it at one input. -/
def fnExactIsValidDatedWrong : ChangeSpec := { name := "fnExactIsValidDated", fn := fun _ => fun
  | [d] => { results := [.lit (.bool false)], args := [d] }
  | _ => none }
def FnExactIsValidDatedWrongFalsely : Prop := fnExactIsValidDatedRow.holds Try.pinned (OpenSpec.ofChange fnExactIsValidDatedWrong)

/-- 'laws.FnExactDatingWeight': WHATEVER THE INPUT: true; the input reads as it did. -/
def fnExactDatingWeightSpec : ChangeSpec := { name := "fnExactDatingWeight", fn := fun _ => fun
  | [d1, d2] => { results := [.lit (.bool true)], args := [d1, d2] }
  | _ => none }
def fnExactDatingWeightRow : OpenClaim := { program := "ytfbgekhkbbhggaa", sum := "c0d1526b14c3c5ecdd1616de4b306fecdc5e9d7772f115812fda88ac71458089", func := "loop.example/g00876/laws.FnExactDatingWeight", spec := "fnExactDatingWeight", unfollowed := true, recurses := true, apart := false }
def FnExactDatingWeightSaid : Prop := fnExactDatingWeightRow.holds Try.pinned (OpenSpec.ofChange fnExactDatingWeightSpec)

/-- ITS FALSE NEIGHBOUR: 'it returns false'. Refute it at one input. -/
def fnExactDatingWeightWrong : ChangeSpec := { name := "fnExactDatingWeight", fn := fun _ => fun
  | [d1, d2] => { results := [.lit (.bool false)], args := [d1, d2] }
  | _ => none }
def FnExactDatingWeightWrongFalsely : Prop := fnExactDatingWeightRow.holds Try.pinned (OpenSpec.ofChange fnExactDatingWeightWrong)

/-- 'laws.FnExactCountDatings': WHATEVER THE INPUT: true; the input reads as it did. -/
def fnExactCountDatingsSpec : ChangeSpec := { name := "fnExactCountDatings", fn := fun _ => fun
  | [d] => { results := [.lit (.bool true)], args := [d] }
  | _ => none }
def fnExactCountDatingsRow : OpenClaim := { program := "ytfbgekhkbbhggaa", sum := "c0d1526b14c3c5ecdd1616de4b306fecdc5e9d7772f115812fda88ac71458089", func := "loop.example/g00876/laws.FnExactCountDatings", spec := "fnExactCountDatings", unfollowed := true, recurses := true, apart := false }
def FnExactCountDatingsSaid : Prop := fnExactCountDatingsRow.holds Try.pinned (OpenSpec.ofChange fnExactCountDatingsSpec)

/-- ITS FALSE NEIGHBOUR: 'it returns false'. Refute it at one input. -/
def fnExactCountDatingsWrong : ChangeSpec := { name := "fnExactCountDatings", fn := fun _ => fun
  | [d] => { results := [.lit (.bool false)], args := [d] }
  | _ => none }
def FnExactCountDatingsWrongFalsely : Prop := fnExactCountDatingsRow.holds Try.pinned (OpenSpec.ofChange fnExactCountDatingsWrong)

/-- 'laws.FnExactMarginalDate': WHATEVER THE INPUT: true; the input reads as it did. -/
def fnExactMarginalDateSpec : ChangeSpec := { name := "fnExactMarginalDate", fn := fun _ => fun
  | [d1, d2] => { results := [.lit (.bool true)], args := [d1, d2] }
  | _ => none }
def fnExactMarginalDateRow : OpenClaim := { program := "ytfbgekhkbbhggaa", sum := "c0d1526b14c3c5ecdd1616de4b306fecdc5e9d7772f115812fda88ac71458089", func := "loop.example/g00876/laws.FnExactMarginalDate", spec := "fnExactMarginalDate", unfollowed := true, recurses := true, apart := false }
def FnExactMarginalDateSaid : Prop := fnExactMarginalDateRow.holds Try.pinned (OpenSpec.ofChange fnExactMarginalDateSpec)

/-- ITS FALSE NEIGHBOUR: 'it returns false'. Refute it at one input. -/
def fnExactMarginalDateWrong : ChangeSpec := { name := "fnExactMarginalDate", fn := fun _ => fun
  | [d1, d2] => { results := [.lit (.bool false)], args := [d1, d2] }
  | _ => none }
def FnExactMarginalDateWrongFalsely : Prop := fnExactMarginalDateRow.holds Try.pinned (OpenSpec.ofChange fnExactMarginalDateWrong)

/-- 'laws.FnExactDateBounds': WHATEVER THE INPUT: true; the input reads as it did. -/
def fnExactDateBoundsSpec : ChangeSpec := { name := "fnExactDateBounds", fn := fun _ => fun
  | [d] => { results := [.lit (.bool true)], args := [d] }
  | _ => none }
def fnExactDateBoundsRow : OpenClaim := { program := "ytfbgekhkbbhggaa", sum := "c0d1526b14c3c5ecdd1616de4b306fecdc5e9d7772f115812fda88ac71458089", func := "loop.example/g00876/laws.FnExactDateBounds", spec := "fnExactDateBounds", unfollowed := true, recurses := true, apart := false }
def FnExactDateBoundsSaid : Prop := fnExactDateBoundsRow.holds Try.pinned (OpenSpec.ofChange fnExactDateBoundsSpec)

/-- ITS FALSE NEIGHBOUR: 'it returns false'. Refute it at one input. -/
def fnExactDateBoundsWrong : ChangeSpec := { name := "fnExactDateBounds", fn := fun _ => fun
  | [d] => { results := [.lit (.bool false)], args := [d] }
  | _ => none }
def FnExactDateBoundsWrongFalsely : Prop := fnExactDateBoundsRow.holds Try.pinned (OpenSpec.ofChange fnExactDateBoundsWrong)

/-- 'laws.FnExactLikeliestDating': WHATEVER THE INPUT: true; the input reads as it did. -/
def fnExactLikeliestDatingSpec : ChangeSpec := { name := "fnExactLikeliestDating", fn := fun _ => fun
  | [d] => { results := [.lit (.bool true)], args := [d] }
  | _ => none }
def fnExactLikeliestDatingRow : OpenClaim := { program := "ytfbgekhkbbhggaa", sum := "c0d1526b14c3c5ecdd1616de4b306fecdc5e9d7772f115812fda88ac71458089", func := "loop.example/g00876/laws.FnExactLikeliestDating", spec := "fnExactLikeliestDating", unfollowed := true, recurses := true, apart := false }
def FnExactLikeliestDatingSaid : Prop := fnExactLikeliestDatingRow.holds Try.pinned (OpenSpec.ofChange fnExactLikeliestDatingSpec)

/-- ITS FALSE NEIGHBOUR: 'it returns false'. Refute it at one input. -/
def fnExactLikeliestDatingWrong : ChangeSpec := { name := "fnExactLikeliestDating", fn := fun _ => fun
  | [d] => { results := [.lit (.bool false)], args := [d] }
  | _ => none }
def FnExactLikeliestDatingWrongFalsely : Prop := fnExactLikeliestDatingRow.holds Try.pinned (OpenSpec.ofChange fnExactLikeliestDatingWrong)

/-- 'laws.FnExactChanceOfOrder': WHATEVER THE INPUT: true; the input reads as it did. -/
def fnExactChanceOfOrderSpec : ChangeSpec := { name := "fnExactChanceOfOrder", fn := fun _ => fun
  | [d1, d2, d3] => { results := [.lit (.bool true)], args := [d1, d2, d3] }
  | _ => none }
def fnExactChanceOfOrderRow : OpenClaim := { program := "ytfbgekhkbbhggaa", sum := "c0d1526b14c3c5ecdd1616de4b306fecdc5e9d7772f115812fda88ac71458089", func := "loop.example/g00876/laws.FnExactChanceOfOrder", spec := "fnExactChanceOfOrder", unfollowed := true, recurses := true, apart := false }
def FnExactChanceOfOrderSaid : Prop := fnExactChanceOfOrderRow.holds Try.pinned (OpenSpec.ofChange fnExactChanceOfOrderSpec)

/-- ITS FALSE NEIGHBOUR: 'it returns false'. Refute it at one input. -/
def fnExactChanceOfOrderWrong : ChangeSpec := { name := "fnExactChanceOfOrder", fn := fun _ => fun
  | [d1, d2, d3] => { results := [.lit (.bool false)], args := [d1, d2, d3] }
  | _ => none }
def FnExactChanceOfOrderWrongFalsely : Prop := fnExactChanceOfOrderRow.holds Try.pinned (OpenSpec.ofChange fnExactChanceOfOrderWrong)

/-- 'laws.FnExactFixDate': WHATEVER THE INPUT: true; the input reads as it did. -/
def fnExactFixDateSpec : ChangeSpec := { name := "fnExactFixDate", fn := fun _ => fun
  | [d1, d2, d3] => { results := [.lit (.bool true)], args := [d1, d2, d3] }
  | _ => none }
def fnExactFixDateRow : OpenClaim := { program := "ytfbgekhkbbhggaa", sum := "c0d1526b14c3c5ecdd1616de4b306fecdc5e9d7772f115812fda88ac71458089", func := "loop.example/g00876/laws.FnExactFixDate", spec := "fnExactFixDate", unfollowed := true, recurses := true, apart := false }
def FnExactFixDateSaid : Prop := fnExactFixDateRow.holds Try.pinned (OpenSpec.ofChange fnExactFixDateSpec)

/-- ITS FALSE NEIGHBOUR: 'it returns false'. Refute it at one input. -/
def fnExactFixDateWrong : ChangeSpec := { name := "fnExactFixDate", fn := fun _ => fun
  | [d1, d2, d3] => { results := [.lit (.bool false)], args := [d1, d2, d3] }
  | _ => none }
def FnExactFixDateWrongFalsely : Prop := fnExactFixDateRow.holds Try.pinned (OpenSpec.ofChange fnExactFixDateWrong)

/-- 'laws.FnExactAddDating': WHATEVER THE INPUT: true; the input reads as it did. -/
def fnExactAddDatingSpec : ChangeSpec := { name := "fnExactAddDating", fn := fun _ => fun
  | [d1, d2, d3] => { results := [.lit (.bool true)], args := [d1, d2, d3] }
  | _ => none }
def fnExactAddDatingRow : OpenClaim := { program := "ytfbgekhkbbhggaa", sum := "c0d1526b14c3c5ecdd1616de4b306fecdc5e9d7772f115812fda88ac71458089", func := "loop.example/g00876/laws.FnExactAddDating", spec := "fnExactAddDating", unfollowed := true, recurses := true, apart := false }
def FnExactAddDatingSaid : Prop := fnExactAddDatingRow.holds Try.pinned (OpenSpec.ofChange fnExactAddDatingSpec)

/-- ITS FALSE NEIGHBOUR: 'it returns false'. Refute it at one input. -/
def fnExactAddDatingWrong : ChangeSpec := { name := "fnExactAddDating", fn := fun _ => fun
  | [d1, d2, d3] => { results := [.lit (.bool false)], args := [d1, d2, d3] }
  | _ => none }
def FnExactAddDatingWrongFalsely : Prop := fnExactAddDatingRow.holds Try.pinned (OpenSpec.ofChange fnExactAddDatingWrong)

/-- 'laws.FnExactMixDistributions': WHATEVER THE INPUT: true; the input reads as it did. -/
def fnExactMixDistributionsSpec : ChangeSpec := { name := "fnExactMixDistributions", fn := fun _ => fun
  | [d1, d2, d3, d4] => { results := [.lit (.bool true)], args := [d1, d2, d3, d4] }
  | _ => none }
def fnExactMixDistributionsRow : OpenClaim := { program := "ytfbgekhkbbhggaa", sum := "c0d1526b14c3c5ecdd1616de4b306fecdc5e9d7772f115812fda88ac71458089", func := "loop.example/g00876/laws.FnExactMixDistributions", spec := "fnExactMixDistributions", unfollowed := true, recurses := true, apart := false }
def FnExactMixDistributionsSaid : Prop := fnExactMixDistributionsRow.holds Try.pinned (OpenSpec.ofChange fnExactMixDistributionsSpec)

/-- ITS FALSE NEIGHBOUR: 'it returns false'. Refute it at one input. -/
def fnExactMixDistributionsWrong : ChangeSpec := { name := "fnExactMixDistributions", fn := fun _ => fun
  | [d1, d2, d3, d4] => { results := [.lit (.bool false)], args := [d1, d2, d3, d4] }
  | _ => none }
def FnExactMixDistributionsWrongFalsely : Prop := fnExactMixDistributionsRow.holds Try.pinned (OpenSpec.ofChange fnExactMixDistributionsWrong)

/-- 'laws.FnExactChanceEarlier': WHATEVER THE INPUT: true; the input reads as it did. -/
def fnExactChanceEarlierSpec : ChangeSpec := { name := "fnExactChanceEarlier", fn := fun _ => fun
  | [d1, d2] => { results := [.lit (.bool true)], args := [d1, d2] }
  | _ => none }
def fnExactChanceEarlierRow : OpenClaim := { program := "ytfbgekhkbbhggaa", sum := "c0d1526b14c3c5ecdd1616de4b306fecdc5e9d7772f115812fda88ac71458089", func := "loop.example/g00876/laws.FnExactChanceEarlier", spec := "fnExactChanceEarlier", unfollowed := true, recurses := true, apart := false }
def FnExactChanceEarlierSaid : Prop := fnExactChanceEarlierRow.holds Try.pinned (OpenSpec.ofChange fnExactChanceEarlierSpec)

/-- ITS FALSE NEIGHBOUR: 'it returns false'. Refute it at one input. -/
def fnExactChanceEarlierWrong : ChangeSpec := { name := "fnExactChanceEarlier", fn := fun _ => fun
  | [d1, d2] => { results := [.lit (.bool false)], args := [d1, d2] }
  | _ => none }
def FnExactChanceEarlierWrongFalsely : Prop := fnExactChanceEarlierRow.holds Try.pinned (OpenSpec.ofChange fnExactChanceEarlierWrong)

/- THE SECOND FORM. 'bulk': how many values and letters a reading holds, each counted each time it is reached (what is shared counts as often as it is met; a slice's spare places count too). A statement '..UptoSaid' is the law's where the arguments, and the package variables that the reading takes, are together of bulk at most 1048576: NARROWER than '..Said'. Prove '..Said' where nothing that the law and all that it calls make is longer than what came in: it says more and counts as full. Else prove '..UptoSaid'. A law counts once. -/
mutual
def uptoBulk {H : Type} : DataW H → Nat
  | .lit (.string bytes) => bytes.length + 1
  | .lit _ => 1
  | .nil => 1
  | .ptr d => uptoBulk d + 1
  | .slice elems spare => uptoBulkAll elems + uptoBulkAll spare + 1
  | .agg parts => uptoBulkAll parts + 1
  | .iface _ d => uptoBulk d + 1
  | .map entries => uptoBulkEntries entries + 1
  | .held _ => 1
def uptoBulkAll {H : Type} : List (DataW H) → Nat
  | [] => 0
  | d :: r => uptoBulk d + uptoBulkAll r
def uptoBulkEntries {H : Type} : List (Lit × DataW H) → Nat
  | [] => 0
  | x :: r => uptoBulkEntry x + uptoBulkEntries r
def uptoBulkEntry {H : Type} : Lit × DataW H → Nat
  | (.string bytes, d) => bytes.length + uptoBulk d + 1
  | (_, d) => uptoBulk d + 1
 end
def uptoSmall : (H : Type) → List (DataW H) → Bool := fun _ ds => decide (uptoBulkAll ds ≤ 1048576)
def OpenSpec.upto (s : _root_.Go.ChangeSpec) : _root_.Go.OpenSpec := { _root_.Go.OpenSpec.ofChange s with cond := some uptoSmall }

/-- 'laws.FnExactIsValidDated', WHERE WHAT IT READS IS OF BULK AT MOST 1048576: true; the input reads as it did. -/
def fnExactIsValidDatedUptoRow : OpenClaim := { program := "ytfbgekhkbbhggaa", sum := "c0d1526b14c3c5ecdd1616de4b306fecdc5e9d7772f115812fda88ac71458089", func := "loop.example/g00876/laws.FnExactIsValidDated", spec := "fnExactIsValidDated", unfollowed := true, recurses := true, apart := false, narrowed := true }
def FnExactIsValidDatedUptoSaid : Prop := fnExactIsValidDatedUptoRow.holds Try.pinned (OpenSpec.upto fnExactIsValidDatedSpec)

/-- 'laws.FnExactDatingWeight', WHERE WHAT IT READS IS OF BULK AT MOST 1048576: true; the input reads as it did. -/
def fnExactDatingWeightUptoRow : OpenClaim := { program := "ytfbgekhkbbhggaa", sum := "c0d1526b14c3c5ecdd1616de4b306fecdc5e9d7772f115812fda88ac71458089", func := "loop.example/g00876/laws.FnExactDatingWeight", spec := "fnExactDatingWeight", unfollowed := true, recurses := true, apart := false, narrowed := true }
def FnExactDatingWeightUptoSaid : Prop := fnExactDatingWeightUptoRow.holds Try.pinned (OpenSpec.upto fnExactDatingWeightSpec)

/-- 'laws.FnExactCountDatings', WHERE WHAT IT READS IS OF BULK AT MOST 1048576: true; the input reads as it did. -/
def fnExactCountDatingsUptoRow : OpenClaim := { program := "ytfbgekhkbbhggaa", sum := "c0d1526b14c3c5ecdd1616de4b306fecdc5e9d7772f115812fda88ac71458089", func := "loop.example/g00876/laws.FnExactCountDatings", spec := "fnExactCountDatings", unfollowed := true, recurses := true, apart := false, narrowed := true }
def FnExactCountDatingsUptoSaid : Prop := fnExactCountDatingsUptoRow.holds Try.pinned (OpenSpec.upto fnExactCountDatingsSpec)

/-- 'laws.FnExactMarginalDate', WHERE WHAT IT READS IS OF BULK AT MOST 1048576: true; the input reads as it did. -/
def fnExactMarginalDateUptoRow : OpenClaim := { program := "ytfbgekhkbbhggaa", sum := "c0d1526b14c3c5ecdd1616de4b306fecdc5e9d7772f115812fda88ac71458089", func := "loop.example/g00876/laws.FnExactMarginalDate", spec := "fnExactMarginalDate", unfollowed := true, recurses := true, apart := false, narrowed := true }
def FnExactMarginalDateUptoSaid : Prop := fnExactMarginalDateUptoRow.holds Try.pinned (OpenSpec.upto fnExactMarginalDateSpec)

/-- 'laws.FnExactDateBounds', WHERE WHAT IT READS IS OF BULK AT MOST 1048576: true; the input reads as it did. -/
def fnExactDateBoundsUptoRow : OpenClaim := { program := "ytfbgekhkbbhggaa", sum := "c0d1526b14c3c5ecdd1616de4b306fecdc5e9d7772f115812fda88ac71458089", func := "loop.example/g00876/laws.FnExactDateBounds", spec := "fnExactDateBounds", unfollowed := true, recurses := true, apart := false, narrowed := true }
def FnExactDateBoundsUptoSaid : Prop := fnExactDateBoundsUptoRow.holds Try.pinned (OpenSpec.upto fnExactDateBoundsSpec)

/-- 'laws.FnExactLikeliestDating', WHERE WHAT IT READS IS OF BULK AT MOST 1048576: true; the input reads as it did. -/
def fnExactLikeliestDatingUptoRow : OpenClaim := { program := "ytfbgekhkbbhggaa", sum := "c0d1526b14c3c5ecdd1616de4b306fecdc5e9d7772f115812fda88ac71458089", func := "loop.example/g00876/laws.FnExactLikeliestDating", spec := "fnExactLikeliestDating", unfollowed := true, recurses := true, apart := false, narrowed := true }
def FnExactLikeliestDatingUptoSaid : Prop := fnExactLikeliestDatingUptoRow.holds Try.pinned (OpenSpec.upto fnExactLikeliestDatingSpec)

/-- 'laws.FnExactChanceOfOrder', WHERE WHAT IT READS IS OF BULK AT MOST 1048576: true; the input reads as it did. -/
def fnExactChanceOfOrderUptoRow : OpenClaim := { program := "ytfbgekhkbbhggaa", sum := "c0d1526b14c3c5ecdd1616de4b306fecdc5e9d7772f115812fda88ac71458089", func := "loop.example/g00876/laws.FnExactChanceOfOrder", spec := "fnExactChanceOfOrder", unfollowed := true, recurses := true, apart := false, narrowed := true }
def FnExactChanceOfOrderUptoSaid : Prop := fnExactChanceOfOrderUptoRow.holds Try.pinned (OpenSpec.upto fnExactChanceOfOrderSpec)

/-- 'laws.FnExactFixDate', WHERE WHAT IT READS IS OF BULK AT MOST 1048576: true; the input reads as it did. -/
def fnExactFixDateUptoRow : OpenClaim := { program := "ytfbgekhkbbhggaa", sum := "c0d1526b14c3c5ecdd1616de4b306fecdc5e9d7772f115812fda88ac71458089", func := "loop.example/g00876/laws.FnExactFixDate", spec := "fnExactFixDate", unfollowed := true, recurses := true, apart := false, narrowed := true }
def FnExactFixDateUptoSaid : Prop := fnExactFixDateUptoRow.holds Try.pinned (OpenSpec.upto fnExactFixDateSpec)

/-- 'laws.FnExactAddDating', WHERE WHAT IT READS IS OF BULK AT MOST 1048576: true; the input reads as it did. -/
def fnExactAddDatingUptoRow : OpenClaim := { program := "ytfbgekhkbbhggaa", sum := "c0d1526b14c3c5ecdd1616de4b306fecdc5e9d7772f115812fda88ac71458089", func := "loop.example/g00876/laws.FnExactAddDating", spec := "fnExactAddDating", unfollowed := true, recurses := true, apart := false, narrowed := true }
def FnExactAddDatingUptoSaid : Prop := fnExactAddDatingUptoRow.holds Try.pinned (OpenSpec.upto fnExactAddDatingSpec)

/-- 'laws.FnExactMixDistributions', WHERE WHAT IT READS IS OF BULK AT MOST 1048576: true; the input reads as it did. -/
def fnExactMixDistributionsUptoRow : OpenClaim := { program := "ytfbgekhkbbhggaa", sum := "c0d1526b14c3c5ecdd1616de4b306fecdc5e9d7772f115812fda88ac71458089", func := "loop.example/g00876/laws.FnExactMixDistributions", spec := "fnExactMixDistributions", unfollowed := true, recurses := true, apart := false, narrowed := true }
def FnExactMixDistributionsUptoSaid : Prop := fnExactMixDistributionsUptoRow.holds Try.pinned (OpenSpec.upto fnExactMixDistributionsSpec)

/-- 'laws.FnExactChanceEarlier', WHERE WHAT IT READS IS OF BULK AT MOST 1048576: true; the input reads as it did. -/
def fnExactChanceEarlierUptoRow : OpenClaim := { program := "ytfbgekhkbbhggaa", sum := "c0d1526b14c3c5ecdd1616de4b306fecdc5e9d7772f115812fda88ac71458089", func := "loop.example/g00876/laws.FnExactChanceEarlier", spec := "fnExactChanceEarlier", unfollowed := true, recurses := true, apart := false, narrowed := true }
def FnExactChanceEarlierUptoSaid : Prop := fnExactChanceEarlierUptoRow.holds Try.pinned (OpenSpec.upto fnExactChanceEarlierSpec)

end Rows
end Go.Proofs.Ytfbgekhkbbhggaa
