/-
  No cell of these rows narrows 'for every input' (looked for: loops, veiled, ifaces, maps, wideKeys, modest, calm, conditions, laid).
  DERIVED. THE GIVEN ROWS OF THIS SEAT. 10 by the template 'for every input the law returns true; each argument reads behind the call as it read before'; 0 by the template 'total and deterministic' (their statements: YtfnbjfmegikciaaTotals.lean).
  GIVEN WITH THE SEED: the statements are not yours to turn. If you find one false, say at which input.
  Laid BY PROGRAM, IN A SANDBOX (cutbox-rows.mjs): the forced cells as the released guide's own fill.sh prints them over the translation 722da83f99632bc6… (all of the seat's roots in one cut). By AI agents, Wed Nov 11 2026. No macro, syntax, notation, axiom, sorry.
-/
import Derived.Test.YtfnbjfmegikciaaChecked
import GoSem.Claim
import GoSem.ClaimJoined
import GoSem.ClaimMapViews
import Derived.JoinedTies
import Derived.KernelRfl
namespace Go.Proofs.Ytfnbjfmegikciaa
/- THE CELL 'sum', in the pinned program and in every row, IS THE sha256 OF THE DUMP (.gsa) THAT YtfnbjfmegikciaaProg.lean LOADS. Nothing in Lean hashes anything: it is a label: what it is worth is what the hold of that sum in a sandbox is worth. -/
noncomputable def Try.pinned : Pinned := { name := "ytfnbjfmegikciaa", sum := "722da83f99632bc6d94fe857c4b3695f3f6d406ceb827c18ecf51c25dc10184c", checked := Try.checked }
namespace Rows
def none {H : Type} : Left H := { results := [], args := [] }

/-- 'laws.FnExactIsValidDistribution': WHATEVER THE INPUT: true; the input reads as it did. -/
def fnExactIsValidDistributionSpec : ChangeSpec := { name := "fnExactIsValidDistribution", fn := fun _ => fun
  | [d] => { results := [.lit (.bool true)], args := [d] }
  | _ => none }
def fnExactIsValidDistributionRow : OpenClaim := { program := "ytfnbjfmegikciaa", sum := "722da83f99632bc6d94fe857c4b3695f3f6d406ceb827c18ecf51c25dc10184c", func := "loop.example/g00876/laws.FnExactIsValidDistribution", spec := "fnExactIsValidDistribution", unfollowed := true, recurses := true, apart := false }
def FnExactIsValidDistributionSaid : Prop := fnExactIsValidDistributionRow.holds Try.pinned (OpenSpec.ofChange fnExactIsValidDistributionSpec)

/-- ITS FALSE NEIGHBOUR: 'it returns false'. Refute it at one input. -/
def fnExactIsValidDistributionWrong : ChangeSpec := { name := "fnExactIsValidDistribution", fn := fun _ => fun
  | [d] => { results := [.lit (.bool false)], args := [d] }
  | _ => none }
def FnExactIsValidDistributionWrongFalsely : Prop := fnExactIsValidDistributionRow.holds Try.pinned (OpenSpec.ofChange fnExactIsValidDistributionWrong)

/-- 'laws.FnExactMakeDistribution': WHATEVER THE INPUT: true; the input reads as it did. -/
def fnExactMakeDistributionSpec : ChangeSpec := { name := "fnExactMakeDistribution", fn := fun _ => fun
  | [d1, d2] => { results := [.lit (.bool true)], args := [d1, d2] }
  | _ => none }
def fnExactMakeDistributionRow : OpenClaim := { program := "ytfnbjfmegikciaa", sum := "722da83f99632bc6d94fe857c4b3695f3f6d406ceb827c18ecf51c25dc10184c", func := "loop.example/g00876/laws.FnExactMakeDistribution", spec := "fnExactMakeDistribution", unfollowed := true, recurses := true, apart := false }
def FnExactMakeDistributionSaid : Prop := fnExactMakeDistributionRow.holds Try.pinned (OpenSpec.ofChange fnExactMakeDistributionSpec)

/-- ITS FALSE NEIGHBOUR: 'it returns false'. Refute it at one input. -/
def fnExactMakeDistributionWrong : ChangeSpec := { name := "fnExactMakeDistribution", fn := fun _ => fun
  | [d1, d2] => { results := [.lit (.bool false)], args := [d1, d2] }
  | _ => none }
def FnExactMakeDistributionWrongFalsely : Prop := fnExactMakeDistributionRow.holds Try.pinned (OpenSpec.ofChange fnExactMakeDistributionWrong)

/-- 'laws.FnExactWeightAt': WHATEVER THE INPUT: true; the input reads as it did. -/
def fnExactWeightAtSpec : ChangeSpec := { name := "fnExactWeightAt", fn := fun _ => fun
  | [d1, d2] => { results := [.lit (.bool true)], args := [d1, d2] }
  | _ => none }
def fnExactWeightAtRow : OpenClaim := { program := "ytfnbjfmegikciaa", sum := "722da83f99632bc6d94fe857c4b3695f3f6d406ceb827c18ecf51c25dc10184c", func := "loop.example/g00876/laws.FnExactWeightAt", spec := "fnExactWeightAt", unfollowed := true, recurses := true, apart := false }
def FnExactWeightAtSaid : Prop := fnExactWeightAtRow.holds Try.pinned (OpenSpec.ofChange fnExactWeightAtSpec)

/-- ITS FALSE NEIGHBOUR: 'it returns false'. Refute it at one input. -/
def fnExactWeightAtWrong : ChangeSpec := { name := "fnExactWeightAt", fn := fun _ => fun
  | [d1, d2] => { results := [.lit (.bool false)], args := [d1, d2] }
  | _ => none }
def FnExactWeightAtWrongFalsely : Prop := fnExactWeightAtRow.holds Try.pinned (OpenSpec.ofChange fnExactWeightAtWrong)

/-- 'laws.FnExactShiftDistribution': WHATEVER THE INPUT: true; the input reads as it did. -/
def fnExactShiftDistributionSpec : ChangeSpec := { name := "fnExactShiftDistribution", fn := fun _ => fun
  | [d1, d2] => { results := [.lit (.bool true)], args := [d1, d2] }
  | _ => none }
def fnExactShiftDistributionRow : OpenClaim := { program := "ytfnbjfmegikciaa", sum := "722da83f99632bc6d94fe857c4b3695f3f6d406ceb827c18ecf51c25dc10184c", func := "loop.example/g00876/laws.FnExactShiftDistribution", spec := "fnExactShiftDistribution", unfollowed := true, recurses := true, apart := false }
def FnExactShiftDistributionSaid : Prop := fnExactShiftDistributionRow.holds Try.pinned (OpenSpec.ofChange fnExactShiftDistributionSpec)

/-- ITS FALSE NEIGHBOUR: 'it returns false'. Refute it at one input. -/
def fnExactShiftDistributionWrong : ChangeSpec := { name := "fnExactShiftDistribution", fn := fun _ => fun
  | [d1, d2] => { results := [.lit (.bool false)], args := [d1, d2] }
  | _ => none }
def FnExactShiftDistributionWrongFalsely : Prop := fnExactShiftDistributionRow.holds Try.pinned (OpenSpec.ofChange fnExactShiftDistributionWrong)

/-- 'laws.FnExactCombineDistributions': WHATEVER THE INPUT: true; the input reads as it did. -/
def fnExactCombineDistributionsSpec : ChangeSpec := { name := "fnExactCombineDistributions", fn := fun _ => fun
  | [d1, d2] => { results := [.lit (.bool true)], args := [d1, d2] }
  | _ => none }
def fnExactCombineDistributionsRow : OpenClaim := { program := "ytfnbjfmegikciaa", sum := "722da83f99632bc6d94fe857c4b3695f3f6d406ceb827c18ecf51c25dc10184c", func := "loop.example/g00876/laws.FnExactCombineDistributions", spec := "fnExactCombineDistributions", unfollowed := true, recurses := true, apart := false }
def FnExactCombineDistributionsSaid : Prop := fnExactCombineDistributionsRow.holds Try.pinned (OpenSpec.ofChange fnExactCombineDistributionsSpec)

/-- ITS FALSE NEIGHBOUR: 'it returns false'. Refute it at one input. -/
def fnExactCombineDistributionsWrong : ChangeSpec := { name := "fnExactCombineDistributions", fn := fun _ => fun
  | [d1, d2] => { results := [.lit (.bool false)], args := [d1, d2] }
  | _ => none }
def FnExactCombineDistributionsWrongFalsely : Prop := fnExactCombineDistributionsRow.holds Try.pinned (OpenSpec.ofChange fnExactCombineDistributionsWrong)

/-- 'laws.FnExactLaterBy': WHATEVER THE INPUT: true; the input reads as it did. -/
def fnExactLaterBySpec : ChangeSpec := { name := "fnExactLaterBy", fn := fun _ => fun
  | [d1, d2] => { results := [.lit (.bool true)], args := [d1, d2] }
  | _ => none }
def fnExactLaterByRow : OpenClaim := { program := "ytfnbjfmegikciaa", sum := "722da83f99632bc6d94fe857c4b3695f3f6d406ceb827c18ecf51c25dc10184c", func := "loop.example/g00876/laws.FnExactLaterBy", spec := "fnExactLaterBy", unfollowed := true, recurses := true, apart := false }
def FnExactLaterBySaid : Prop := fnExactLaterByRow.holds Try.pinned (OpenSpec.ofChange fnExactLaterBySpec)

/-- ITS FALSE NEIGHBOUR: 'it returns false'. Refute it at one input. -/
def fnExactLaterByWrong : ChangeSpec := { name := "fnExactLaterBy", fn := fun _ => fun
  | [d1, d2] => { results := [.lit (.bool false)], args := [d1, d2] }
  | _ => none }
def FnExactLaterByWrongFalsely : Prop := fnExactLaterByRow.holds Try.pinned (OpenSpec.ofChange fnExactLaterByWrong)

/-- 'laws.FnExactChanceEarlier': WHATEVER THE INPUT: true; the input reads as it did. -/
def fnExactChanceEarlierSpec : ChangeSpec := { name := "fnExactChanceEarlier", fn := fun _ => fun
  | [d1, d2] => { results := [.lit (.bool true)], args := [d1, d2] }
  | _ => none }
def fnExactChanceEarlierRow : OpenClaim := { program := "ytfnbjfmegikciaa", sum := "722da83f99632bc6d94fe857c4b3695f3f6d406ceb827c18ecf51c25dc10184c", func := "loop.example/g00876/laws.FnExactChanceEarlier", spec := "fnExactChanceEarlier", unfollowed := true, recurses := true, apart := false }
def FnExactChanceEarlierSaid : Prop := fnExactChanceEarlierRow.holds Try.pinned (OpenSpec.ofChange fnExactChanceEarlierSpec)

/-- ITS FALSE NEIGHBOUR: 'it returns false'. Refute it at one input. -/
def fnExactChanceEarlierWrong : ChangeSpec := { name := "fnExactChanceEarlier", fn := fun _ => fun
  | [d1, d2] => { results := [.lit (.bool false)], args := [d1, d2] }
  | _ => none }
def FnExactChanceEarlierWrongFalsely : Prop := fnExactChanceEarlierRow.holds Try.pinned (OpenSpec.ofChange fnExactChanceEarlierWrong)

/-- 'laws.FnExactQuantileYear': WHATEVER THE INPUT: true; the input reads as it did. -/
def fnExactQuantileYearSpec : ChangeSpec := { name := "fnExactQuantileYear", fn := fun _ => fun
  | [d1, d2, d3] => { results := [.lit (.bool true)], args := [d1, d2, d3] }
  | _ => none }
def fnExactQuantileYearRow : OpenClaim := { program := "ytfnbjfmegikciaa", sum := "722da83f99632bc6d94fe857c4b3695f3f6d406ceb827c18ecf51c25dc10184c", func := "loop.example/g00876/laws.FnExactQuantileYear", spec := "fnExactQuantileYear", unfollowed := true, recurses := true, apart := false }
def FnExactQuantileYearSaid : Prop := fnExactQuantileYearRow.holds Try.pinned (OpenSpec.ofChange fnExactQuantileYearSpec)

/-- ITS FALSE NEIGHBOUR: 'it returns false'. Refute it at one input. -/
def fnExactQuantileYearWrong : ChangeSpec := { name := "fnExactQuantileYear", fn := fun _ => fun
  | [d1, d2, d3] => { results := [.lit (.bool false)], args := [d1, d2, d3] }
  | _ => none }
def FnExactQuantileYearWrongFalsely : Prop := fnExactQuantileYearRow.holds Try.pinned (OpenSpec.ofChange fnExactQuantileYearWrong)

/-- 'laws.FnExactShortestInterval': WHATEVER THE INPUT: true; the input reads as it did. -/
def fnExactShortestIntervalSpec : ChangeSpec := { name := "fnExactShortestInterval", fn := fun _ => fun
  | [d1, d2, d3] => { results := [.lit (.bool true)], args := [d1, d2, d3] }
  | _ => none }
def fnExactShortestIntervalRow : OpenClaim := { program := "ytfnbjfmegikciaa", sum := "722da83f99632bc6d94fe857c4b3695f3f6d406ceb827c18ecf51c25dc10184c", func := "loop.example/g00876/laws.FnExactShortestInterval", spec := "fnExactShortestInterval", unfollowed := true, recurses := true, apart := false }
def FnExactShortestIntervalSaid : Prop := fnExactShortestIntervalRow.holds Try.pinned (OpenSpec.ofChange fnExactShortestIntervalSpec)

/-- ITS FALSE NEIGHBOUR: 'it returns false'. Refute it at one input. -/
def fnExactShortestIntervalWrong : ChangeSpec := { name := "fnExactShortestInterval", fn := fun _ => fun
  | [d1, d2, d3] => { results := [.lit (.bool false)], args := [d1, d2, d3] }
  | _ => none }
def FnExactShortestIntervalWrongFalsely : Prop := fnExactShortestIntervalRow.holds Try.pinned (OpenSpec.ofChange fnExactShortestIntervalWrong)

/-- 'laws.FnExactMixDistributions': WHATEVER THE INPUT: true; the input reads as it did. -/
def fnExactMixDistributionsSpec : ChangeSpec := { name := "fnExactMixDistributions", fn := fun _ => fun
  | [d1, d2, d3, d4] => { results := [.lit (.bool true)], args := [d1, d2, d3, d4] }
  | _ => none }
def fnExactMixDistributionsRow : OpenClaim := { program := "ytfnbjfmegikciaa", sum := "722da83f99632bc6d94fe857c4b3695f3f6d406ceb827c18ecf51c25dc10184c", func := "loop.example/g00876/laws.FnExactMixDistributions", spec := "fnExactMixDistributions", unfollowed := true, recurses := true, apart := false }
def FnExactMixDistributionsSaid : Prop := fnExactMixDistributionsRow.holds Try.pinned (OpenSpec.ofChange fnExactMixDistributionsSpec)

/-- ITS FALSE NEIGHBOUR: 'it returns false'. Refute it at one input. -/
def fnExactMixDistributionsWrong : ChangeSpec := { name := "fnExactMixDistributions", fn := fun _ => fun
  | [d1, d2, d3, d4] => { results := [.lit (.bool false)], args := [d1, d2, d3, d4] }
  | _ => none }
def FnExactMixDistributionsWrongFalsely : Prop := fnExactMixDistributionsRow.holds Try.pinned (OpenSpec.ofChange fnExactMixDistributionsWrong)

/- THE SECOND FORM. 'bulk': how many values and letters a reading holds, each counted each time it is reached (what is shared counts as often as it is met; a slice's spare places count too). A statement '..UptoSaid' is the law's where the arguments, and the package variables that the reading takes, are together of bulk at most 1048576: NARROWER than '..Said'. Prove '..Said' where nothing that the law and all that it calls make is longer than what came in: it says more and counts as full. Else prove '..UptoSaid'. A law counts once. -/
mutual
def uptoBulk {H : Type} : DataW H → Nat
  | .lit (.string bytes) => bytes.length + 1
  | .lit _ => 1
  | .nil => 1
  | .ptr d => uptoBulk d + 1
  | .slice elems spare => uptoBulkAll elems + uptoBulkAll spare + 1
  | .agg parts => uptoBulkAll parts + 1
  | .iface _ d => uptoBulk d + 1
  | .map entries => uptoBulkEntries entries + 1
  | .held _ => 1
def uptoBulkAll {H : Type} : List (DataW H) → Nat
  | [] => 0
  | d :: r => uptoBulk d + uptoBulkAll r
def uptoBulkEntries {H : Type} : List (Lit × DataW H) → Nat
  | [] => 0
  | x :: r => uptoBulkEntry x + uptoBulkEntries r
def uptoBulkEntry {H : Type} : Lit × DataW H → Nat
  | (.string bytes, d) => bytes.length + uptoBulk d + 1
  | (_, d) => uptoBulk d + 1
 end
def uptoSmall : (H : Type) → List (DataW H) → Bool := fun _ ds => decide (uptoBulkAll ds ≤ 1048576)
def OpenSpec.upto (s : _root_.Go.ChangeSpec) : _root_.Go.OpenSpec := { _root_.Go.OpenSpec.ofChange s with cond := some uptoSmall }

/-- 'laws.FnExactIsValidDistribution', WHERE WHAT IT READS IS OF BULK AT MOST 1048576: true; the input reads as it did. -/
def fnExactIsValidDistributionUptoRow : OpenClaim := { program := "ytfnbjfmegikciaa", sum := "722da83f99632bc6d94fe857c4b3695f3f6d406ceb827c18ecf51c25dc10184c", func := "loop.example/g00876/laws.FnExactIsValidDistribution", spec := "fnExactIsValidDistribution", unfollowed := true, recurses := true, apart := false, narrowed := true }
def FnExactIsValidDistributionUptoSaid : Prop := fnExactIsValidDistributionUptoRow.holds Try.pinned (OpenSpec.upto fnExactIsValidDistributionSpec)

/-- 'laws.FnExactMakeDistribution', WHERE WHAT IT READS IS OF BULK AT MOST 1048576: true; the input reads as it did. -/
def fnExactMakeDistributionUptoRow : OpenClaim := { program := "ytfnbjfmegikciaa", sum := "722da83f99632bc6d94fe857c4b3695f3f6d406ceb827c18ecf51c25dc10184c", func := "loop.example/g00876/laws.FnExactMakeDistribution", spec := "fnExactMakeDistribution", unfollowed := true, recurses := true, apart := false, narrowed := true }
def FnExactMakeDistributionUptoSaid : Prop := fnExactMakeDistributionUptoRow.holds Try.pinned (OpenSpec.upto fnExactMakeDistributionSpec)

/-- 'laws.FnExactWeightAt', WHERE WHAT IT READS IS OF BULK AT MOST 1048576: true; the input reads as it did. -/
def fnExactWeightAtUptoRow : OpenClaim := { program := "ytfnbjfmegikciaa", sum := "722da83f99632bc6d94fe857c4b3695f3f6d406ceb827c18ecf51c25dc10184c", func := "loop.example/g00876/laws.FnExactWeightAt", spec := "fnExactWeightAt", unfollowed := true, recurses := true, apart := false, narrowed := true }
def FnExactWeightAtUptoSaid : Prop := fnExactWeightAtUptoRow.holds Try.pinned (OpenSpec.upto fnExactWeightAtSpec)

/-- 'laws.FnExactShiftDistribution', WHERE WHAT IT READS IS OF BULK AT MOST 1048576: true; the input reads as it did. -/
def fnExactShiftDistributionUptoRow : OpenClaim := { program := "ytfnbjfmegikciaa", sum := "722da83f99632bc6d94fe857c4b3695f3f6d406ceb827c18ecf51c25dc10184c", func := "loop.example/g00876/laws.FnExactShiftDistribution", spec := "fnExactShiftDistribution", unfollowed := true, recurses := true, apart := false, narrowed := true }
def FnExactShiftDistributionUptoSaid : Prop := fnExactShiftDistributionUptoRow.holds Try.pinned (OpenSpec.upto fnExactShiftDistributionSpec)

/-- 'laws.FnExactCombineDistributions', WHERE WHAT IT READS IS OF BULK AT MOST 1048576: true; the input reads as it did. -/
def fnExactCombineDistributionsUptoRow : OpenClaim := { program := "ytfnbjfmegikciaa", sum := "722da83f99632bc6d94fe857c4b3695f3f6d406ceb827c18ecf51c25dc10184c", func := "loop.example/g00876/laws.FnExactCombineDistributions", spec := "fnExactCombineDistributions", unfollowed := true, recurses := true, apart := false, narrowed := true }
def FnExactCombineDistributionsUptoSaid : Prop := fnExactCombineDistributionsUptoRow.holds Try.pinned (OpenSpec.upto fnExactCombineDistributionsSpec)

/-- 'laws.FnExactLaterBy', WHERE WHAT IT READS IS OF BULK AT MOST 1048576: true; the input reads as it did. -/
def fnExactLaterByUptoRow : OpenClaim := { program := "ytfnbjfmegikciaa", sum := "722da83f99632bc6d94fe857c4b3695f3f6d406ceb827c18ecf51c25dc10184c", func := "loop.example/g00876/laws.FnExactLaterBy", spec := "fnExactLaterBy", unfollowed := true, recurses := true, apart := false, narrowed := true }
def FnExactLaterByUptoSaid : Prop := fnExactLaterByUptoRow.holds Try.pinned (OpenSpec.upto fnExactLaterBySpec)

/-- 'laws.FnExactChanceEarlier', WHERE WHAT IT READS IS OF BULK AT MOST 1048576: true; the input reads as it did. -/
def fnExactChanceEarlierUptoRow : OpenClaim := { program := "ytfnbjfmegikciaa", sum := "722da83f99632bc6d94fe857c4b3695f3f6d406ceb827c18ecf51c25dc10184c", func := "loop.example/g00876/laws.FnExactChanceEarlier", spec := "fnExactChanceEarlier", unfollowed := true, recurses := true, apart := false, narrowed := true }
def FnExactChanceEarlierUptoSaid : Prop := fnExactChanceEarlierUptoRow.holds Try.pinned (OpenSpec.upto fnExactChanceEarlierSpec)

/-- 'laws.FnExactQuantileYear', WHERE WHAT IT READS IS OF BULK AT MOST 1048576: true; the input reads as it did. -/
def fnExactQuantileYearUptoRow : OpenClaim := { program := "ytfnbjfmegikciaa", sum := "722da83f99632bc6d94fe857c4b3695f3f6d406ceb827c18ecf51c25dc10184c", func := "loop.example/g00876/laws.FnExactQuantileYear", spec := "fnExactQuantileYear", unfollowed := true, recurses := true, apart := false, narrowed := true }
def FnExactQuantileYearUptoSaid : Prop := fnExactQuantileYearUptoRow.holds Try.pinned (OpenSpec.upto fnExactQuantileYearSpec)

/-- 'laws.FnExactShortestInterval', WHERE WHAT IT READS IS OF BULK AT MOST 1048576: true; the input reads as it did. -/
def fnExactShortestIntervalUptoRow : OpenClaim := { program := "ytfnbjfmegikciaa", sum := "722da83f99632bc6d94fe857c4b3695f3f6d406ceb827c18ecf51c25dc10184c", func := "loop.example/g00876/laws.FnExactShortestInterval", spec := "fnExactShortestInterval", unfollowed := true, recurses := true, apart := false, narrowed := true }
def FnExactShortestIntervalUptoSaid : Prop := fnExactShortestIntervalUptoRow.holds Try.pinned (OpenSpec.upto fnExactShortestIntervalSpec)

/-- 'laws.FnExactMixDistributions', WHERE WHAT IT READS IS OF BULK AT MOST 1048576: true; the input reads as it did. -/
def fnExactMixDistributionsUptoRow : OpenClaim := { program := "ytfnbjfmegikciaa", sum := "722da83f99632bc6d94fe857c4b3695f3f6d406ceb827c18ecf51c25dc10184c", func := "loop.example/g00876/laws.FnExactMixDistributions", spec := "fnExactMixDistributions", unfollowed := true, recurses := true, apart := false, narrowed := true }
def FnExactMixDistributionsUptoSaid : Prop := fnExactMixDistributionsUptoRow.holds Try.pinned (OpenSpec.upto fnExactMixDistributionsSpec)

end Rows
end Go.Proofs.Ytfnbjfmegikciaa
