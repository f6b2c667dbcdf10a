/-
  No cell of these rows narrows 'for every input' (looked for: loops, veiled, ifaces, maps, wideKeys, modest, calm, conditions, laid).
  DERIVED. THE GIVEN ROWS OF THIS SEAT. 7 by the template 'for every input the law returns true; each argument reads behind the call as it read before'; 0 by the template 'total and deterministic' (their statements: YtaikphcemldikaaTotals.lean).
  GIVEN WITH THE SEED: the statements are not yours to turn. If you find one false, say at which input.
  Laid BY PROGRAM, IN A SANDBOX (cutbox-rows.mjs): the forced cells as the released guide's own fill.sh prints them over the translation 6197d166921df549… (all of the seat's roots in one cut). By AI agents, Wed Nov 11 2026. No macro, syntax, notation, axiom, sorry.
-/
import Derived.Test.YtaikphcemldikaaChecked
import GoSem.Claim
import GoSem.ClaimJoined
import GoSem.ClaimMapViews
import Derived.JoinedTies
import Derived.KernelRfl
namespace Go.Proofs.Ytaikphcemldikaa
/- THE CELL 'sum', in the pinned program and in every row, IS THE sha256 OF THE DUMP (.gsa) THAT YtaikphcemldikaaProg.lean LOADS. Nothing in Lean hashes anything: it is a label: what it is worth is what the hold of that sum in a sandbox is worth. -/
noncomputable def Try.pinned : Pinned := { name := "ytaikphcemldikaa", sum := "6197d166921df5491b98020499f019b8d95c58f2d745dd30b78a1b8c12fd6226", checked := Try.checked }
namespace Rows
def none {H : Type} : Left H := { results := [], args := [] }

/-- 'laws.FnRecords': WHATEVER THE INPUT: true; the input reads as it did. -/
def fnRecordsSpec : ChangeSpec := { name := "fnRecords", fn := fun _ => fun
  | [d] => { results := [.lit (.bool true)], args := [d] }
  | _ => none }
def fnRecordsRow : OpenClaim := { program := "ytaikphcemldikaa", sum := "6197d166921df5491b98020499f019b8d95c58f2d745dd30b78a1b8c12fd6226", func := "loop.example/g00876/laws.FnRecords", spec := "fnRecords", inPlace := ["slices.overlaps[loop.example/g00876/impl.Context]", "slices.overlaps[loop.example/g00876/impl.Relation]"], unfollowed := true, recurses := true, apart := false }
def FnRecordsSaid : Prop := fnRecordsRow.holds Try.pinned (OpenSpec.ofChange fnRecordsSpec)

/-- ITS FALSE NEIGHBOUR: 'it returns false'. Refute it at one input. -/
def fnRecordsWrong : ChangeSpec := { name := "fnRecords", fn := fun _ => fun
  | [d] => { results := [.lit (.bool false)], args := [d] }
  | _ => none }
def FnRecordsWrongFalsely : Prop := fnRecordsRow.holds Try.pinned (OpenSpec.ofChange fnRecordsWrong)

/-- 'laws.FnRenumber': WHATEVER THE INPUT: true; the input reads as it did. -/
def fnRenumberSpec : ChangeSpec := { name := "fnRenumber", fn := fun _ => fun
  | [d] => { results := [.lit (.bool true)], args := [d] }
  | _ => none }
def fnRenumberRow : OpenClaim := { program := "ytaikphcemldikaa", sum := "6197d166921df5491b98020499f019b8d95c58f2d745dd30b78a1b8c12fd6226", func := "loop.example/g00876/laws.FnRenumber", spec := "fnRenumber", unfollowed := true, recurses := true, apart := false }
def FnRenumberSaid : Prop := fnRenumberRow.holds Try.pinned (OpenSpec.ofChange fnRenumberSpec)

/-- ITS FALSE NEIGHBOUR: 'it returns false'. Refute it at one input. -/
def fnRenumberWrong : ChangeSpec := { name := "fnRenumber", fn := fun _ => fun
  | [d] => { results := [.lit (.bool false)], args := [d] }
  | _ => none }
def FnRenumberWrongFalsely : Prop := fnRenumberRow.holds Try.pinned (OpenSpec.ofChange fnRenumberWrong)

/-- 'laws.FnExactEndContexts': WHATEVER THE INPUT: true; the input reads as it did. -/
def fnExactEndContextsSpec : ChangeSpec := { name := "fnExactEndContexts", fn := fun _ => fun
  | [d] => { results := [.lit (.bool true)], args := [d] }
  | _ => none }
def fnExactEndContextsRow : OpenClaim := { program := "ytaikphcemldikaa", sum := "6197d166921df5491b98020499f019b8d95c58f2d745dd30b78a1b8c12fd6226", func := "loop.example/g00876/laws.FnExactEndContexts", spec := "fnExactEndContexts", unfollowed := true, recurses := true, apart := false }
def FnExactEndContextsSaid : Prop := fnExactEndContextsRow.holds Try.pinned (OpenSpec.ofChange fnExactEndContextsSpec)

/-- ITS FALSE NEIGHBOUR: 'it returns false'. Refute it at one input. -/
def fnExactEndContextsWrong : ChangeSpec := { name := "fnExactEndContexts", fn := fun _ => fun
  | [d] => { results := [.lit (.bool false)], args := [d] }
  | _ => none }
def FnExactEndContextsWrongFalsely : Prop := fnExactEndContextsRow.holds Try.pinned (OpenSpec.ofChange fnExactEndContextsWrong)

/-- 'laws.FnExactIsLater': WHATEVER THE INPUT: true; the input reads as it did. -/
def fnExactIsLaterSpec : ChangeSpec := { name := "fnExactIsLater", fn := fun _ => fun
  | [d1, d2, d3] => { results := [.lit (.bool true)], args := [d1, d2, d3] }
  | _ => none }
def fnExactIsLaterRow : OpenClaim := { program := "ytaikphcemldikaa", sum := "6197d166921df5491b98020499f019b8d95c58f2d745dd30b78a1b8c12fd6226", func := "loop.example/g00876/laws.FnExactIsLater", spec := "fnExactIsLater", unfollowed := true, recurses := true, apart := false }
def FnExactIsLaterSaid : Prop := fnExactIsLaterRow.holds Try.pinned (OpenSpec.ofChange fnExactIsLaterSpec)

/-- ITS FALSE NEIGHBOUR: 'it returns false'. Refute it at one input. -/
def fnExactIsLaterWrong : ChangeSpec := { name := "fnExactIsLater", fn := fun _ => fun
  | [d1, d2, d3] => { results := [.lit (.bool false)], args := [d1, d2, d3] }
  | _ => none }
def FnExactIsLaterWrongFalsely : Prop := fnExactIsLaterRow.holds Try.pinned (OpenSpec.ofChange fnExactIsLaterWrong)

/-- 'laws.FnExactIsConsistent': WHATEVER THE INPUT: true; the input reads as it did. -/
def fnExactIsConsistentSpec : ChangeSpec := { name := "fnExactIsConsistent", fn := fun _ => fun
  | [d] => { results := [.lit (.bool true)], args := [d] }
  | _ => none }
def fnExactIsConsistentRow : OpenClaim := { program := "ytaikphcemldikaa", sum := "6197d166921df5491b98020499f019b8d95c58f2d745dd30b78a1b8c12fd6226", func := "loop.example/g00876/laws.FnExactIsConsistent", spec := "fnExactIsConsistent", unfollowed := true, recurses := true, apart := false }
def FnExactIsConsistentSaid : Prop := fnExactIsConsistentRow.holds Try.pinned (OpenSpec.ofChange fnExactIsConsistentSpec)

/-- ITS FALSE NEIGHBOUR: 'it returns false'. Refute it at one input. -/
def fnExactIsConsistentWrong : ChangeSpec := { name := "fnExactIsConsistent", fn := fun _ => fun
  | [d] => { results := [.lit (.bool false)], args := [d] }
  | _ => none }
def FnExactIsConsistentWrongFalsely : Prop := fnExactIsConsistentRow.holds Try.pinned (OpenSpec.ofChange fnExactIsConsistentWrong)

/-- 'laws.FnExactLaterContexts': WHATEVER THE INPUT: true; the input reads as it did. -/
def fnExactLaterContextsSpec : ChangeSpec := { name := "fnExactLaterContexts", fn := fun _ => fun
  | [d1, d2] => { results := [.lit (.bool true)], args := [d1, d2] }
  | _ => none }
def fnExactLaterContextsRow : OpenClaim := { program := "ytaikphcemldikaa", sum := "6197d166921df5491b98020499f019b8d95c58f2d745dd30b78a1b8c12fd6226", func := "loop.example/g00876/laws.FnExactLaterContexts", spec := "fnExactLaterContexts", unfollowed := true, recurses := true, apart := false }
def FnExactLaterContextsSaid : Prop := fnExactLaterContextsRow.holds Try.pinned (OpenSpec.ofChange fnExactLaterContextsSpec)

/-- ITS FALSE NEIGHBOUR: 'it returns false'. Refute it at one input. -/
def fnExactLaterContextsWrong : ChangeSpec := { name := "fnExactLaterContexts", fn := fun _ => fun
  | [d1, d2] => { results := [.lit (.bool false)], args := [d1, d2] }
  | _ => none }
def FnExactLaterContextsWrongFalsely : Prop := fnExactLaterContextsRow.holds Try.pinned (OpenSpec.ofChange fnExactLaterContextsWrong)

/-- 'laws.FnExactEarlierContexts': WHATEVER THE INPUT: true; the input reads as it did. -/
def fnExactEarlierContextsSpec : ChangeSpec := { name := "fnExactEarlierContexts", fn := fun _ => fun
  | [d1, d2] => { results := [.lit (.bool true)], args := [d1, d2] }
  | _ => none }
def fnExactEarlierContextsRow : OpenClaim := { program := "ytaikphcemldikaa", sum := "6197d166921df5491b98020499f019b8d95c58f2d745dd30b78a1b8c12fd6226", func := "loop.example/g00876/laws.FnExactEarlierContexts", spec := "fnExactEarlierContexts", unfollowed := true, recurses := true, apart := false }
def FnExactEarlierContextsSaid : Prop := fnExactEarlierContextsRow.holds Try.pinned (OpenSpec.ofChange fnExactEarlierContextsSpec)

/-- ITS FALSE NEIGHBOUR: 'it returns false'. Refute it at one input. -/
def fnExactEarlierContextsWrong : ChangeSpec := { name := "fnExactEarlierContexts", fn := fun _ => fun
  | [d1, d2] => { results := [.lit (.bool false)], args := [d1, d2] }
  | _ => none }
def FnExactEarlierContextsWrongFalsely : Prop := fnExactEarlierContextsRow.holds Try.pinned (OpenSpec.ofChange fnExactEarlierContextsWrong)

/- THE SECOND FORM. 'bulk': how many values and letters a reading holds, each counted each time it is reached (what is shared counts as often as it is met; a slice's spare places count too). A statement '..UptoSaid' is the law's where the arguments, and the package variables that the reading takes, are together of bulk at most 1048576: NARROWER than '..Said'. Prove '..Said' where nothing that the law and all that it calls make is longer than what came in: it says more and counts as full. Else prove '..UptoSaid'. A law counts once. -/
mutual
def uptoBulk {H : Type} : DataW H → Nat
  | .lit (.string bytes) => bytes.length + 1
  | .lit _ => 1
  | .nil => 1
  | .ptr d => uptoBulk d + 1
  | .slice elems spare => uptoBulkAll elems + uptoBulkAll spare + 1
  | .agg parts => uptoBulkAll parts + 1
  | .iface _ d => uptoBulk d + 1
  | .map entries => uptoBulkEntries entries + 1
  | .held _ => 1
def uptoBulkAll {H : Type} : List (DataW H) → Nat
  | [] => 0
  | d :: r => uptoBulk d + uptoBulkAll r
def uptoBulkEntries {H : Type} : List (Lit × DataW H) → Nat
  | [] => 0
  | x :: r => uptoBulkEntry x + uptoBulkEntries r
def uptoBulkEntry {H : Type} : Lit × DataW H → Nat
  | (.string bytes, d) => bytes.length + uptoBulk d + 1
  | (_, d) => uptoBulk d + 1
 end
def uptoSmall : (H : Type) → List (DataW H) → Bool := fun _ ds => decide (uptoBulkAll ds ≤ 1048576)
def OpenSpec.upto (s : _root_.Go.ChangeSpec) : _root_.Go.OpenSpec := { _root_.Go.OpenSpec.ofChange s with cond := some uptoSmall }

/-- 'laws.FnRecords', WHERE WHAT IT READS IS OF BULK AT MOST 1048576: true; the input reads as it did. -/
def fnRecordsUptoRow : OpenClaim := { program := "ytaikphcemldikaa", sum := "6197d166921df5491b98020499f019b8d95c58f2d745dd30b78a1b8c12fd6226", func := "loop.example/g00876/laws.FnRecords", spec := "fnRecords", inPlace := ["slices.overlaps[loop.example/g00876/impl.Context]", "slices.overlaps[loop.example/g00876/impl.Relation]"], unfollowed := true, recurses := true, apart := false, narrowed := true }
def FnRecordsUptoSaid : Prop := fnRecordsUptoRow.holds Try.pinned (OpenSpec.upto fnRecordsSpec)

/-- 'laws.FnRenumber', WHERE WHAT IT READS IS OF BULK AT MOST 1048576: true; the input reads as it did. -/
def fnRenumberUptoRow : OpenClaim := { program := "ytaikphcemldikaa", sum := "6197d166921df5491b98020499f019b8d95c58f2d745dd30b78a1b8c12fd6226", func := "loop.example/g00876/laws.FnRenumber", spec := "fnRenumber", unfollowed := true, recurses := true, apart := false, narrowed := true }
def FnRenumberUptoSaid : Prop := fnRenumberUptoRow.holds Try.pinned (OpenSpec.upto fnRenumberSpec)

/-- 'laws.FnExactEndContexts', WHERE WHAT IT READS IS OF BULK AT MOST 1048576: true; the input reads as it did. -/
def fnExactEndContextsUptoRow : OpenClaim := { program := "ytaikphcemldikaa", sum := "6197d166921df5491b98020499f019b8d95c58f2d745dd30b78a1b8c12fd6226", func := "loop.example/g00876/laws.FnExactEndContexts", spec := "fnExactEndContexts", unfollowed := true, recurses := true, apart := false, narrowed := true }
def FnExactEndContextsUptoSaid : Prop := fnExactEndContextsUptoRow.holds Try.pinned (OpenSpec.upto fnExactEndContextsSpec)

/-- 'laws.FnExactIsLater', WHERE WHAT IT READS IS OF BULK AT MOST 1048576: true; the input reads as it did. -/
def fnExactIsLaterUptoRow : OpenClaim := { program := "ytaikphcemldikaa", sum := "6197d166921df5491b98020499f019b8d95c58f2d745dd30b78a1b8c12fd6226", func := "loop.example/g00876/laws.FnExactIsLater", spec := "fnExactIsLater", unfollowed := true, recurses := true, apart := false, narrowed := true }
def FnExactIsLaterUptoSaid : Prop := fnExactIsLaterUptoRow.holds Try.pinned (OpenSpec.upto fnExactIsLaterSpec)

/-- 'laws.FnExactIsConsistent', WHERE WHAT IT READS IS OF BULK AT MOST 1048576: true; the input reads as it did. -/
def fnExactIsConsistentUptoRow : OpenClaim := { program := "ytaikphcemldikaa", sum := "6197d166921df5491b98020499f019b8d95c58f2d745dd30b78a1b8c12fd6226", func := "loop.example/g00876/laws.FnExactIsConsistent", spec := "fnExactIsConsistent", unfollowed := true, recurses := true, apart := false, narrowed := true }
def FnExactIsConsistentUptoSaid : Prop := fnExactIsConsistentUptoRow.holds Try.pinned (OpenSpec.upto fnExactIsConsistentSpec)

/-- 'laws.FnExactLaterContexts', WHERE WHAT IT READS IS OF BULK AT MOST 1048576: true; the input reads as it did. -/
def fnExactLaterContextsUptoRow : OpenClaim := { program := "ytaikphcemldikaa", sum := "6197d166921df5491b98020499f019b8d95c58f2d745dd30b78a1b8c12fd6226", func := "loop.example/g00876/laws.FnExactLaterContexts", spec := "fnExactLaterContexts", unfollowed := true, recurses := true, apart := false, narrowed := true }
def FnExactLaterContextsUptoSaid : Prop := fnExactLaterContextsUptoRow.holds Try.pinned (OpenSpec.upto fnExactLaterContextsSpec)

/-- 'laws.FnExactEarlierContexts', WHERE WHAT IT READS IS OF BULK AT MOST 1048576: true; the input reads as it did. -/
def fnExactEarlierContextsUptoRow : OpenClaim := { program := "ytaikphcemldikaa", sum := "6197d166921df5491b98020499f019b8d95c58f2d745dd30b78a1b8c12fd6226", func := "loop.example/g00876/laws.FnExactEarlierContexts", spec := "fnExactEarlierContexts", unfollowed := true, recurses := true, apart := false, narrowed := true }
def FnExactEarlierContextsUptoSaid : Prop := fnExactEarlierContextsUptoRow.holds Try.pinned (OpenSpec.upto fnExactEarlierContextsSpec)

end Rows
end Go.Proofs.Ytaikphcemldikaa
