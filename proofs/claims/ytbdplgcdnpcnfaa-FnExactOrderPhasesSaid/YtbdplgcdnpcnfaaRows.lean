/-
  No cell of these rows narrows 'for every input' (looked for: loops, veiled, ifaces, maps, wideKeys, modest, calm, conditions, laid).
  DERIVED. THE GIVEN ROWS OF THIS SEAT. 5 by the template 'for every input the law returns true; each argument reads behind the call as it read before'; 0 by the template 'total and deterministic' (their statements: YtbdplgcdnpcnfaaTotals.lean).
  GIVEN WITH THE SEED: the statements are not yours to turn. If you find one false, say at which input.
  Laid BY PROGRAM, IN A SANDBOX (cutbox-rows.mjs): the forced cells as the released guide's own fill.sh prints them over the translation 5400f18da0c43b7f… (all of the seat's roots in one cut). By AI agents, Wed Nov 11 2026. No macro, syntax, notation, axiom, sorry.
-/
import Derived.Test.YtbdplgcdnpcnfaaChecked
import GoSem.Claim
import GoSem.ClaimJoined
import GoSem.ClaimMapViews
import Derived.JoinedTies
import Derived.KernelRfl
namespace Go.Proofs.Ytbdplgcdnpcnfaa
/- THE CELL 'sum', in the pinned program and in every row, IS THE sha256 OF THE DUMP (.gsa) THAT YtbdplgcdnpcnfaaProg.lean LOADS. Nothing in Lean hashes anything: it is a label: what it is worth is what the hold of that sum in a sandbox is worth. -/
noncomputable def Try.pinned : Pinned := { name := "ytbdplgcdnpcnfaa", sum := "5400f18da0c43b7f4c34842a50d33ec559ce0eb64a0d8eed0b3fd1443daeca8a", checked := Try.checked }
namespace Rows
def none {H : Type} : Left H := { results := [], args := [] }

/-- 'laws.FnExactIsValidGrouping': WHATEVER THE INPUT: true; the input reads as it did. -/
def fnExactIsValidGroupingSpec : ChangeSpec := { name := "fnExactIsValidGrouping", fn := fun _ => fun
  | [d1, d2] => { results := [.lit (.bool true)], args := [d1, d2] }
  | _ => none }
def fnExactIsValidGroupingRow : OpenClaim := { program := "ytbdplgcdnpcnfaa", sum := "5400f18da0c43b7f4c34842a50d33ec559ce0eb64a0d8eed0b3fd1443daeca8a", func := "loop.example/g00876/laws.FnExactIsValidGrouping", spec := "fnExactIsValidGrouping", unfollowed := true, recurses := true, apart := false }
def FnExactIsValidGroupingSaid : Prop := fnExactIsValidGroupingRow.holds Try.pinned (OpenSpec.ofChange fnExactIsValidGroupingSpec)

/-- ITS FALSE NEIGHBOUR: 'it returns false'. Refute it at one input. -/
def fnExactIsValidGroupingWrong : ChangeSpec := { name := "fnExactIsValidGrouping", fn := fun _ => fun
  | [d1, d2] => { results := [.lit (.bool false)], args := [d1, d2] }
  | _ => none }
def FnExactIsValidGroupingWrongFalsely : Prop := fnExactIsValidGroupingRow.holds Try.pinned (OpenSpec.ofChange fnExactIsValidGroupingWrong)

/-- 'laws.FnExactPhaseOf': WHATEVER THE INPUT: true; the input reads as it did. -/
def fnExactPhaseOfSpec : ChangeSpec := { name := "fnExactPhaseOf", fn := fun _ => fun
  | [d1, d2, d3] => { results := [.lit (.bool true)], args := [d1, d2, d3] }
  | _ => none }
def fnExactPhaseOfRow : OpenClaim := { program := "ytbdplgcdnpcnfaa", sum := "5400f18da0c43b7f4c34842a50d33ec559ce0eb64a0d8eed0b3fd1443daeca8a", func := "loop.example/g00876/laws.FnExactPhaseOf", spec := "fnExactPhaseOf", unfollowed := true, recurses := true, apart := false }
def FnExactPhaseOfSaid : Prop := fnExactPhaseOfRow.holds Try.pinned (OpenSpec.ofChange fnExactPhaseOfSpec)

/-- ITS FALSE NEIGHBOUR: 'it returns false'. Refute it at one input. -/
def fnExactPhaseOfWrong : ChangeSpec := { name := "fnExactPhaseOf", fn := fun _ => fun
  | [d1, d2, d3] => { results := [.lit (.bool false)], args := [d1, d2, d3] }
  | _ => none }
def FnExactPhaseOfWrongFalsely : Prop := fnExactPhaseOfRow.holds Try.pinned (OpenSpec.ofChange fnExactPhaseOfWrong)

/-- 'laws.FnExactUngroupedContexts': WHATEVER THE INPUT: true; the input reads as it did. -/
def fnExactUngroupedContextsSpec : ChangeSpec := { name := "fnExactUngroupedContexts", fn := fun _ => fun
  | [d1, d2] => { results := [.lit (.bool true)], args := [d1, d2] }
  | _ => none }
def fnExactUngroupedContextsRow : OpenClaim := { program := "ytbdplgcdnpcnfaa", sum := "5400f18da0c43b7f4c34842a50d33ec559ce0eb64a0d8eed0b3fd1443daeca8a", func := "loop.example/g00876/laws.FnExactUngroupedContexts", spec := "fnExactUngroupedContexts", unfollowed := true, recurses := true, apart := false }
def FnExactUngroupedContextsSaid : Prop := fnExactUngroupedContextsRow.holds Try.pinned (OpenSpec.ofChange fnExactUngroupedContextsSpec)

/-- ITS FALSE NEIGHBOUR: 'it returns false'. Refute it at one input. -/
def fnExactUngroupedContextsWrong : ChangeSpec := { name := "fnExactUngroupedContexts", fn := fun _ => fun
  | [d1, d2] => { results := [.lit (.bool false)], args := [d1, d2] }
  | _ => none }
def FnExactUngroupedContextsWrongFalsely : Prop := fnExactUngroupedContextsRow.holds Try.pinned (OpenSpec.ofChange fnExactUngroupedContextsWrong)

/-- 'laws.FnExactOrderPhases': WHATEVER THE INPUT: true; the input reads as it did. -/
def fnExactOrderPhasesSpec : ChangeSpec := { name := "fnExactOrderPhases", fn := fun _ => fun
  | [d1, d2] => { results := [.lit (.bool true)], args := [d1, d2] }
  | _ => none }
def fnExactOrderPhasesRow : OpenClaim := { program := "ytbdplgcdnpcnfaa", sum := "5400f18da0c43b7f4c34842a50d33ec559ce0eb64a0d8eed0b3fd1443daeca8a", func := "loop.example/g00876/laws.FnExactOrderPhases", spec := "fnExactOrderPhases", unfollowed := true, recurses := true, apart := false }
def FnExactOrderPhasesSaid : Prop := fnExactOrderPhasesRow.holds Try.pinned (OpenSpec.ofChange fnExactOrderPhasesSpec)

/-- ITS FALSE NEIGHBOUR: 'it returns false'. Refute it at one input. -/
def fnExactOrderPhasesWrong : ChangeSpec := { name := "fnExactOrderPhases", fn := fun _ => fun
  | [d1, d2] => { results := [.lit (.bool false)], args := [d1, d2] }
  | _ => none }
def FnExactOrderPhasesWrongFalsely : Prop := fnExactOrderPhasesRow.holds Try.pinned (OpenSpec.ofChange fnExactOrderPhasesWrong)

/-- 'laws.FnExactSpreadOf': WHATEVER THE INPUT: true; the input reads as it did. -/
def fnExactSpreadOfSpec : ChangeSpec := { name := "fnExactSpreadOf", fn := fun _ => fun
  | [d1, d2, d3] => { results := [.lit (.bool true)], args := [d1, d2, d3] }
  | _ => none }
def fnExactSpreadOfRow : OpenClaim := { program := "ytbdplgcdnpcnfaa", sum := "5400f18da0c43b7f4c34842a50d33ec559ce0eb64a0d8eed0b3fd1443daeca8a", func := "loop.example/g00876/laws.FnExactSpreadOf", spec := "fnExactSpreadOf", unfollowed := true, recurses := true, apart := false }
def FnExactSpreadOfSaid : Prop := fnExactSpreadOfRow.holds Try.pinned (OpenSpec.ofChange fnExactSpreadOfSpec)

/-- ITS FALSE NEIGHBOUR: 'it returns false'. Refute it at one input. -/
def fnExactSpreadOfWrong : ChangeSpec := { name := "fnExactSpreadOf", fn := fun _ => fun
  | [d1, d2, d3] => { results := [.lit (.bool false)], args := [d1, d2, d3] }
  | _ => none }
def FnExactSpreadOfWrongFalsely : Prop := fnExactSpreadOfRow.holds Try.pinned (OpenSpec.ofChange fnExactSpreadOfWrong)

/- THE SECOND FORM. 'bulk': how many values and letters a reading holds, each counted each time it is reached (what is shared counts as often as it is met; a slice's spare places count too). A statement '..UptoSaid' is the law's where the arguments, and the package variables that the reading takes, are together of bulk at most 1048576: NARROWER than '..Said'. Prove '..Said' where nothing that the law and all that it calls make is longer than what came in: it says more and counts as full. Else prove '..UptoSaid'. A law counts once. -/
mutual
def uptoBulk {H : Type} : DataW H → Nat
  | .lit (.string bytes) => bytes.length + 1
  | .lit _ => 1
  | .nil => 1
  | .ptr d => uptoBulk d + 1
  | .slice elems spare => uptoBulkAll elems + uptoBulkAll spare + 1
  | .agg parts => uptoBulkAll parts + 1
  | .iface _ d => uptoBulk d + 1
  | .map entries => uptoBulkEntries entries + 1
  | .held _ => 1
def uptoBulkAll {H : Type} : List (DataW H) → Nat
  | [] => 0
  | d :: r => uptoBulk d + uptoBulkAll r
def uptoBulkEntries {H : Type} : List (Lit × DataW H) → Nat
  | [] => 0
  | x :: r => uptoBulkEntry x + uptoBulkEntries r
def uptoBulkEntry {H : Type} : Lit × DataW H → Nat
  | (.string bytes, d) => bytes.length + uptoBulk d + 1
  | (_, d) => uptoBulk d + 1
 end
def uptoSmall : (H : Type) → List (DataW H) → Bool := fun _ ds => decide (uptoBulkAll ds ≤ 1048576)
def OpenSpec.upto (s : _root_.Go.ChangeSpec) : _root_.Go.OpenSpec := { _root_.Go.OpenSpec.ofChange s with cond := some uptoSmall }

/-- 'laws.FnExactIsValidGrouping', WHERE WHAT IT READS IS OF BULK AT MOST 1048576: true; the input reads as it did. -/
def fnExactIsValidGroupingUptoRow : OpenClaim := { program := "ytbdplgcdnpcnfaa", sum := "5400f18da0c43b7f4c34842a50d33ec559ce0eb64a0d8eed0b3fd1443daeca8a", func := "loop.example/g00876/laws.FnExactIsValidGrouping", spec := "fnExactIsValidGrouping", unfollowed := true, recurses := true, apart := false, narrowed := true }
def FnExactIsValidGroupingUptoSaid : Prop := fnExactIsValidGroupingUptoRow.holds Try.pinned (OpenSpec.upto fnExactIsValidGroupingSpec)

/-- 'laws.FnExactPhaseOf', WHERE WHAT IT READS IS OF BULK AT MOST 1048576: true; the input reads as it did. -/
def fnExactPhaseOfUptoRow : OpenClaim := { program := "ytbdplgcdnpcnfaa", sum := "5400f18da0c43b7f4c34842a50d33ec559ce0eb64a0d8eed0b3fd1443daeca8a", func := "loop.example/g00876/laws.FnExactPhaseOf", spec := "fnExactPhaseOf", unfollowed := true, recurses := true, apart := false, narrowed := true }
def FnExactPhaseOfUptoSaid : Prop := fnExactPhaseOfUptoRow.holds Try.pinned (OpenSpec.upto fnExactPhaseOfSpec)

/-- 'laws.FnExactUngroupedContexts', WHERE WHAT IT READS IS OF BULK AT MOST 1048576: true; the input reads as it did. -/
def fnExactUngroupedContextsUptoRow : OpenClaim := { program := "ytbdplgcdnpcnfaa", sum := "5400f18da0c43b7f4c34842a50d33ec559ce0eb64a0d8eed0b3fd1443daeca8a", func := "loop.example/g00876/laws.FnExactUngroupedContexts", spec := "fnExactUngroupedContexts", unfollowed := true, recurses := true, apart := false, narrowed := true }
def FnExactUngroupedContextsUptoSaid : Prop := fnExactUngroupedContextsUptoRow.holds Try.pinned (OpenSpec.upto fnExactUngroupedContextsSpec)

/-- 'laws.FnExactOrderPhases', WHERE WHAT IT READS IS OF BULK AT MOST 1048576: true; the input reads as it did. -/
def fnExactOrderPhasesUptoRow : OpenClaim := { program := "ytbdplgcdnpcnfaa", sum := "5400f18da0c43b7f4c34842a50d33ec559ce0eb64a0d8eed0b3fd1443daeca8a", func := "loop.example/g00876/laws.FnExactOrderPhases", spec := "fnExactOrderPhases", unfollowed := true, recurses := true, apart := false, narrowed := true }
def FnExactOrderPhasesUptoSaid : Prop := fnExactOrderPhasesUptoRow.holds Try.pinned (OpenSpec.upto fnExactOrderPhasesSpec)

/-- 'laws.FnExactSpreadOf', WHERE WHAT IT READS IS OF BULK AT MOST 1048576: true; the input reads as it did. -/
def fnExactSpreadOfUptoRow : OpenClaim := { program := "ytbdplgcdnpcnfaa", sum := "5400f18da0c43b7f4c34842a50d33ec559ce0eb64a0d8eed0b3fd1443daeca8a", func := "loop.example/g00876/laws.FnExactSpreadOf", spec := "fnExactSpreadOf", unfollowed := true, recurses := true, apart := false, narrowed := true }
def FnExactSpreadOfUptoSaid : Prop := fnExactSpreadOfUptoRow.holds Try.pinned (OpenSpec.upto fnExactSpreadOfSpec)

end Rows
end Go.Proofs.Ytbdplgcdnpcnfaa
