/-
  No cell of these rows narrows 'for every input' (looked for: loops, veiled, ifaces, maps, wideKeys, modest, calm, conditions, laid).
  DERIVED. THE GIVEN ROWS OF THIS SEAT. 6 by the template 'for every input the law returns true; each argument reads behind the call as it read before'; 0 by the template 'total and deterministic' (their statements: YtldalomoojhbkabTotals.lean).
  GIVEN WITH THE SEED: the statements are not yours to turn. If you find one false, say at which input.
  Laid BY PROGRAM, IN A SANDBOX (cutbox-rows.mjs): the forced cells as the released guide's own fill.sh prints them over the translation a317be08222f7568… (all of the seat's roots in one cut). By AI agents, Wed Nov 11 2026. No macro, syntax, notation, axiom, sorry.
-/
import Derived.Test.YtldalomoojhbkabChecked
import GoSem.Claim
import GoSem.ClaimJoined
import GoSem.ClaimMapViews
import Derived.JoinedTies
import Derived.KernelRfl
namespace Go.Proofs.Ytldalomoojhbkab
/- THE CELL 'sum', in the pinned program and in every row, IS THE sha256 OF THE DUMP (.gsa) THAT YtldalomoojhbkabProg.lean LOADS. Nothing in Lean hashes anything: it is a label: what it is worth is what the hold of that sum in a sandbox is worth. -/
noncomputable def Try.pinned : Pinned := { name := "ytldalomoojhbkab", sum := "a317be08222f7568800121ffac47d4f440cfbedf5db9068c4b81d080418947b8", checked := Try.checked }
namespace Rows
def none {H : Type} : Left H := { results := [], args := [] }

/-- 'laws.FnExactAddRelation': WHATEVER THE INPUT: true; the input reads as it did. -/
def fnExactAddRelationSpec : ChangeSpec := { name := "fnExactAddRelation", fn := fun _ => fun
  | [d1, d2] => { results := [.lit (.bool true)], args := [d1, d2] }
  | _ => none }
def fnExactAddRelationRow : OpenClaim := { program := "ytldalomoojhbkab", sum := "a317be08222f7568800121ffac47d4f440cfbedf5db9068c4b81d080418947b8", func := "loop.example/g00876/laws.FnExactAddRelation", spec := "fnExactAddRelation", inPlace := ["slices.overlaps[loop.example/g00876/impl.Relation]"], unfollowed := true, recurses := true, apart := false }
def FnExactAddRelationSaid : Prop := fnExactAddRelationRow.holds Try.pinned (OpenSpec.ofChange fnExactAddRelationSpec)

/-- ITS FALSE NEIGHBOUR: 'it returns false'. Refute it at one input. -/
def fnExactAddRelationWrong : ChangeSpec := { name := "fnExactAddRelation", fn := fun _ => fun
  | [d1, d2] => { results := [.lit (.bool false)], args := [d1, d2] }
  | _ => none }
def FnExactAddRelationWrongFalsely : Prop := fnExactAddRelationRow.holds Try.pinned (OpenSpec.ofChange fnExactAddRelationWrong)

/-- 'laws.FnExactRemoveRelation': WHATEVER THE INPUT: true; the input reads as it did. -/
def fnExactRemoveRelationSpec : ChangeSpec := { name := "fnExactRemoveRelation", fn := fun _ => fun
  | [d1, d2] => { results := [.lit (.bool true)], args := [d1, d2] }
  | _ => none }
def fnExactRemoveRelationRow : OpenClaim := { program := "ytldalomoojhbkab", sum := "a317be08222f7568800121ffac47d4f440cfbedf5db9068c4b81d080418947b8", func := "loop.example/g00876/laws.FnExactRemoveRelation", spec := "fnExactRemoveRelation", unfollowed := true, recurses := true, apart := false }
def FnExactRemoveRelationSaid : Prop := fnExactRemoveRelationRow.holds Try.pinned (OpenSpec.ofChange fnExactRemoveRelationSpec)

/-- ITS FALSE NEIGHBOUR: 'it returns false'. Refute it at one input. -/
def fnExactRemoveRelationWrong : ChangeSpec := { name := "fnExactRemoveRelation", fn := fun _ => fun
  | [d1, d2] => { results := [.lit (.bool false)], args := [d1, d2] }
  | _ => none }
def FnExactRemoveRelationWrongFalsely : Prop := fnExactRemoveRelationRow.holds Try.pinned (OpenSpec.ofChange fnExactRemoveRelationWrong)

/-- 'laws.FnExactRelationsOf': WHATEVER THE INPUT: true; the input reads as it did. -/
def fnExactRelationsOfSpec : ChangeSpec := { name := "fnExactRelationsOf", fn := fun _ => fun
  | [d1, d2] => { results := [.lit (.bool true)], args := [d1, d2] }
  | _ => none }
def fnExactRelationsOfRow : OpenClaim := { program := "ytldalomoojhbkab", sum := "a317be08222f7568800121ffac47d4f440cfbedf5db9068c4b81d080418947b8", func := "loop.example/g00876/laws.FnExactRelationsOf", spec := "fnExactRelationsOf", unfollowed := true, recurses := true, apart := false }
def FnExactRelationsOfSaid : Prop := fnExactRelationsOfRow.holds Try.pinned (OpenSpec.ofChange fnExactRelationsOfSpec)

/-- ITS FALSE NEIGHBOUR: 'it returns false'. Refute it at one input. -/
def fnExactRelationsOfWrong : ChangeSpec := { name := "fnExactRelationsOf", fn := fun _ => fun
  | [d1, d2] => { results := [.lit (.bool false)], args := [d1, d2] }
  | _ => none }
def FnExactRelationsOfWrongFalsely : Prop := fnExactRelationsOfRow.holds Try.pinned (OpenSpec.ofChange fnExactRelationsOfWrong)

/-- 'laws.FnExactContextsOfKind': WHATEVER THE INPUT: true; the input reads as it did. -/
def fnExactContextsOfKindSpec : ChangeSpec := { name := "fnExactContextsOfKind", fn := fun _ => fun
  | [d1, d2] => { results := [.lit (.bool true)], args := [d1, d2] }
  | _ => none }
def fnExactContextsOfKindRow : OpenClaim := { program := "ytldalomoojhbkab", sum := "a317be08222f7568800121ffac47d4f440cfbedf5db9068c4b81d080418947b8", func := "loop.example/g00876/laws.FnExactContextsOfKind", spec := "fnExactContextsOfKind", unfollowed := true, recurses := true, apart := false }
def FnExactContextsOfKindSaid : Prop := fnExactContextsOfKindRow.holds Try.pinned (OpenSpec.ofChange fnExactContextsOfKindSpec)

/-- ITS FALSE NEIGHBOUR: 'it returns false'. Refute it at one input. -/
def fnExactContextsOfKindWrong : ChangeSpec := { name := "fnExactContextsOfKind", fn := fun _ => fun
  | [d1, d2] => { results := [.lit (.bool false)], args := [d1, d2] }
  | _ => none }
def FnExactContextsOfKindWrongFalsely : Prop := fnExactContextsOfKindRow.holds Try.pinned (OpenSpec.ofChange fnExactContextsOfKindWrong)

/-- 'laws.FnExactEquateContexts': WHATEVER THE INPUT: true; the input reads as it did. -/
def fnExactEquateContextsSpec : ChangeSpec := { name := "fnExactEquateContexts", fn := fun _ => fun
  | [d1, d2, d3] => { results := [.lit (.bool true)], args := [d1, d2, d3] }
  | _ => none }
def fnExactEquateContextsRow : OpenClaim := { program := "ytldalomoojhbkab", sum := "a317be08222f7568800121ffac47d4f440cfbedf5db9068c4b81d080418947b8", func := "loop.example/g00876/laws.FnExactEquateContexts", spec := "fnExactEquateContexts", unfollowed := true, recurses := true, apart := false }
def FnExactEquateContextsSaid : Prop := fnExactEquateContextsRow.holds Try.pinned (OpenSpec.ofChange fnExactEquateContextsSpec)

/-- ITS FALSE NEIGHBOUR: 'it returns false'. Refute it at one input. -/
def fnExactEquateContextsWrong : ChangeSpec := { name := "fnExactEquateContexts", fn := fun _ => fun
  | [d1, d2, d3] => { results := [.lit (.bool false)], args := [d1, d2, d3] }
  | _ => none }
def FnExactEquateContextsWrongFalsely : Prop := fnExactEquateContextsRow.holds Try.pinned (OpenSpec.ofChange fnExactEquateContextsWrong)

/-- 'laws.FnExactRenumberContext': WHATEVER THE INPUT: true; the input reads as it did. -/
def fnExactRenumberContextSpec : ChangeSpec := { name := "fnExactRenumberContext", fn := fun _ => fun
  | [d1, d2, d3] => { results := [.lit (.bool true)], args := [d1, d2, d3] }
  | _ => none }
def fnExactRenumberContextRow : OpenClaim := { program := "ytldalomoojhbkab", sum := "a317be08222f7568800121ffac47d4f440cfbedf5db9068c4b81d080418947b8", func := "loop.example/g00876/laws.FnExactRenumberContext", spec := "fnExactRenumberContext", unfollowed := true, recurses := true, apart := false }
def FnExactRenumberContextSaid : Prop := fnExactRenumberContextRow.holds Try.pinned (OpenSpec.ofChange fnExactRenumberContextSpec)

/-- ITS FALSE NEIGHBOUR: 'it returns false'. Refute it at one input. -/
def fnExactRenumberContextWrong : ChangeSpec := { name := "fnExactRenumberContext", fn := fun _ => fun
  | [d1, d2, d3] => { results := [.lit (.bool false)], args := [d1, d2, d3] }
  | _ => none }
def FnExactRenumberContextWrongFalsely : Prop := fnExactRenumberContextRow.holds Try.pinned (OpenSpec.ofChange fnExactRenumberContextWrong)

/- THE SECOND FORM. 'bulk': how many values and letters a reading holds, each counted each time it is reached (what is shared counts as often as it is met; a slice's spare places count too). A statement '..UptoSaid' is the law's where the arguments, and the package variables that the reading takes, are together of bulk at most 1048576: NARROWER than '..Said'. Prove '..Said' where nothing that the law and all that it calls make is longer than what came in: it says more and counts as full. Else prove '..UptoSaid'. A law counts once. -/
mutual
def uptoBulk {H : Type} : DataW H → Nat
  | .lit (.string bytes) => bytes.length + 1
  | .lit _ => 1
  | .nil => 1
  | .ptr d => uptoBulk d + 1
  | .slice elems spare => uptoBulkAll elems + uptoBulkAll spare + 1
  | .agg parts => uptoBulkAll parts + 1
  | .iface _ d => uptoBulk d + 1
  | .map entries => uptoBulkEntries entries + 1
  | .held _ => 1
def uptoBulkAll {H : Type} : List (DataW H) → Nat
  | [] => 0
  | d :: r => uptoBulk d + uptoBulkAll r
def uptoBulkEntries {H : Type} : List (Lit × DataW H) → Nat
  | [] => 0
  | x :: r => uptoBulkEntry x + uptoBulkEntries r
def uptoBulkEntry {H : Type} : Lit × DataW H → Nat
  | (.string bytes, d) => bytes.length + uptoBulk d + 1
  | (_, d) => uptoBulk d + 1
 end
def uptoSmall : (H : Type) → List (DataW H) → Bool := fun _ ds => decide (uptoBulkAll ds ≤ 1048576)
def OpenSpec.upto (s : _root_.Go.ChangeSpec) : _root_.Go.OpenSpec := { _root_.Go.OpenSpec.ofChange s with cond := some uptoSmall }

/-- 'laws.FnExactAddRelation', WHERE WHAT IT READS IS OF BULK AT MOST 1048576: true; the input reads as it did. -/
def fnExactAddRelationUptoRow : OpenClaim := { program := "ytldalomoojhbkab", sum := "a317be08222f7568800121ffac47d4f440cfbedf5db9068c4b81d080418947b8", func := "loop.example/g00876/laws.FnExactAddRelation", spec := "fnExactAddRelation", inPlace := ["slices.overlaps[loop.example/g00876/impl.Relation]"], unfollowed := true, recurses := true, apart := false, narrowed := true }
def FnExactAddRelationUptoSaid : Prop := fnExactAddRelationUptoRow.holds Try.pinned (OpenSpec.upto fnExactAddRelationSpec)

/-- 'laws.FnExactRemoveRelation', WHERE WHAT IT READS IS OF BULK AT MOST 1048576: true; the input reads as it did. -/
def fnExactRemoveRelationUptoRow : OpenClaim := { program := "ytldalomoojhbkab", sum := "a317be08222f7568800121ffac47d4f440cfbedf5db9068c4b81d080418947b8", func := "loop.example/g00876/laws.FnExactRemoveRelation", spec := "fnExactRemoveRelation", unfollowed := true, recurses := true, apart := false, narrowed := true }
def FnExactRemoveRelationUptoSaid : Prop := fnExactRemoveRelationUptoRow.holds Try.pinned (OpenSpec.upto fnExactRemoveRelationSpec)

/-- 'laws.FnExactRelationsOf', WHERE WHAT IT READS IS OF BULK AT MOST 1048576: true; the input reads as it did. -/
def fnExactRelationsOfUptoRow : OpenClaim := { program := "ytldalomoojhbkab", sum := "a317be08222f7568800121ffac47d4f440cfbedf5db9068c4b81d080418947b8", func := "loop.example/g00876/laws.FnExactRelationsOf", spec := "fnExactRelationsOf", unfollowed := true, recurses := true, apart := false, narrowed := true }
def FnExactRelationsOfUptoSaid : Prop := fnExactRelationsOfUptoRow.holds Try.pinned (OpenSpec.upto fnExactRelationsOfSpec)

/-- 'laws.FnExactContextsOfKind', WHERE WHAT IT READS IS OF BULK AT MOST 1048576: true; the input reads as it did. -/
def fnExactContextsOfKindUptoRow : OpenClaim := { program := "ytldalomoojhbkab", sum := "a317be08222f7568800121ffac47d4f440cfbedf5db9068c4b81d080418947b8", func := "loop.example/g00876/laws.FnExactContextsOfKind", spec := "fnExactContextsOfKind", unfollowed := true, recurses := true, apart := false, narrowed := true }
def FnExactContextsOfKindUptoSaid : Prop := fnExactContextsOfKindUptoRow.holds Try.pinned (OpenSpec.upto fnExactContextsOfKindSpec)

/-- 'laws.FnExactEquateContexts', WHERE WHAT IT READS IS OF BULK AT MOST 1048576: true; the input reads as it did. -/
def fnExactEquateContextsUptoRow : OpenClaim := { program := "ytldalomoojhbkab", sum := "a317be08222f7568800121ffac47d4f440cfbedf5db9068c4b81d080418947b8", func := "loop.example/g00876/laws.FnExactEquateContexts", spec := "fnExactEquateContexts", unfollowed := true, recurses := true, apart := false, narrowed := true }
def FnExactEquateContextsUptoSaid : Prop := fnExactEquateContextsUptoRow.holds Try.pinned (OpenSpec.upto fnExactEquateContextsSpec)

/-- 'laws.FnExactRenumberContext', WHERE WHAT IT READS IS OF BULK AT MOST 1048576: true; the input reads as it did. -/
def fnExactRenumberContextUptoRow : OpenClaim := { program := "ytldalomoojhbkab", sum := "a317be08222f7568800121ffac47d4f440cfbedf5db9068c4b81d080418947b8", func := "loop.example/g00876/laws.FnExactRenumberContext", spec := "fnExactRenumberContext", unfollowed := true, recurses := true, apart := false, narrowed := true }
def FnExactRenumberContextUptoSaid : Prop := fnExactRenumberContextUptoRow.holds Try.pinned (OpenSpec.upto fnExactRenumberContextSpec)

end Rows
end Go.Proofs.Ytldalomoojhbkab
