/-
  No cell of these rows narrows 'for every input' (looked for: loops, veiled, ifaces, maps, wideKeys, modest, calm, conditions, laid).
  DERIVED. THE GIVEN ROWS OF THIS SEAT. 9 by the template 'for every input the law returns true; each argument reads behind the call as it read before'; 0 by the template 'total and deterministic' (their statements: YtmjhgjlnpnkmkaaTotals.lean).
  GIVEN WITH THE SEED: the statements are not yours to turn. If you find one false, say at which input.
  Laid BY PROGRAM, IN A SANDBOX (cutbox-rows.mjs): the forced cells as the released guide's own fill.sh prints them over the translation 71f8f0e242fe8d8e… (all of the seat's roots in one cut). By AI agents, Wed Nov 11 2026. No macro, syntax, notation, axiom, sorry.
-/
import Derived.Test.YtmjhgjlnpnkmkaaChecked
import GoSem.Claim
import GoSem.ClaimJoined
import GoSem.ClaimMapViews
import Derived.JoinedTies
import Derived.KernelRfl
namespace Go.Proofs.Ytmjhgjlnpnkmkaa
/- THE CELL 'sum', in the pinned program and in every row, IS THE sha256 OF THE DUMP (.gsa) THAT YtmjhgjlnpnkmkaaProg.lean LOADS. Nothing in Lean hashes anything: it is a label: what it is worth is what the hold of that sum in a sandbox is worth. -/
noncomputable def Try.pinned : Pinned := { name := "ytmjhgjlnpnkmkaa", sum := "71f8f0e242fe8d8e179e13050c0b6d1cd11a213fb390c60495ee755fa3ab92da", checked := Try.checked }
namespace Rows
def none {H : Type} : Left H := { results := [], args := [] }

/-- 'laws.FnExactIsValidEvidence': WHATEVER THE INPUT: true; the input reads as it did. -/
def fnExactIsValidEvidenceSpec : ChangeSpec := { name := "fnExactIsValidEvidence", fn := fun _ => fun
  | [d1, d2] => { results := [.lit (.bool true)], args := [d1, d2] }
  | _ => none }
def fnExactIsValidEvidenceRow : OpenClaim := { program := "ytmjhgjlnpnkmkaa", sum := "71f8f0e242fe8d8e179e13050c0b6d1cd11a213fb390c60495ee755fa3ab92da", func := "loop.example/g00876/laws.FnExactIsValidEvidence", spec := "fnExactIsValidEvidence", unfollowed := true, recurses := true, apart := false }
def FnExactIsValidEvidenceSaid : Prop := fnExactIsValidEvidenceRow.holds Try.pinned (OpenSpec.ofChange fnExactIsValidEvidenceSpec)

/-- ITS FALSE NEIGHBOUR: 'it returns false'. Refute it at one input. -/
def fnExactIsValidEvidenceWrong : ChangeSpec := { name := "fnExactIsValidEvidence", fn := fun _ => fun
  | [d1, d2] => { results := [.lit (.bool false)], args := [d1, d2] }
  | _ => none }
def FnExactIsValidEvidenceWrongFalsely : Prop := fnExactIsValidEvidenceRow.holds Try.pinned (OpenSpec.ofChange fnExactIsValidEvidenceWrong)

/-- 'laws.FnExactArePossible': WHATEVER THE INPUT: true; the input reads as it did. -/
def fnExactArePossibleSpec : ChangeSpec := { name := "fnExactArePossible", fn := fun _ => fun
  | [d1, d2, d3] => { results := [.lit (.bool true)], args := [d1, d2, d3] }
  | _ => none }
def fnExactArePossibleRow : OpenClaim := { program := "ytmjhgjlnpnkmkaa", sum := "71f8f0e242fe8d8e179e13050c0b6d1cd11a213fb390c60495ee755fa3ab92da", func := "loop.example/g00876/laws.FnExactArePossible", spec := "fnExactArePossible", unfollowed := true, recurses := true, apart := false }
def FnExactArePossibleSaid : Prop := fnExactArePossibleRow.holds Try.pinned (OpenSpec.ofChange fnExactArePossibleSpec)

/-- ITS FALSE NEIGHBOUR: 'it returns false'. Refute it at one input. -/
def fnExactArePossibleWrong : ChangeSpec := { name := "fnExactArePossible", fn := fun _ => fun
  | [d1, d2, d3] => { results := [.lit (.bool false)], args := [d1, d2, d3] }
  | _ => none }
def FnExactArePossibleWrongFalsely : Prop := fnExactArePossibleRow.holds Try.pinned (OpenSpec.ofChange fnExactArePossibleWrong)

/-- 'laws.FnExactFirstConflict': WHATEVER THE INPUT: true; the input reads as it did. -/
def fnExactFirstConflictSpec : ChangeSpec := { name := "fnExactFirstConflict", fn := fun _ => fun
  | [d1, d2] => { results := [.lit (.bool true)], args := [d1, d2] }
  | _ => none }
def fnExactFirstConflictRow : OpenClaim := { program := "ytmjhgjlnpnkmkaa", sum := "71f8f0e242fe8d8e179e13050c0b6d1cd11a213fb390c60495ee755fa3ab92da", func := "loop.example/g00876/laws.FnExactFirstConflict", spec := "fnExactFirstConflict", unfollowed := true, recurses := true, apart := false }
def FnExactFirstConflictSaid : Prop := fnExactFirstConflictRow.holds Try.pinned (OpenSpec.ofChange fnExactFirstConflictSpec)

/-- ITS FALSE NEIGHBOUR: 'it returns false'. Refute it at one input. -/
def fnExactFirstConflictWrong : ChangeSpec := { name := "fnExactFirstConflict", fn := fun _ => fun
  | [d1, d2] => { results := [.lit (.bool false)], args := [d1, d2] }
  | _ => none }
def FnExactFirstConflictWrongFalsely : Prop := fnExactFirstConflictRow.holds Try.pinned (OpenSpec.ofChange fnExactFirstConflictWrong)

/-- 'laws.FnExactPropagateDates': WHATEVER THE INPUT: true; the input reads as it did. -/
def fnExactPropagateDatesSpec : ChangeSpec := { name := "fnExactPropagateDates", fn := fun _ => fun
  | [d1, d2] => { results := [.lit (.bool true)], args := [d1, d2] }
  | _ => none }
def fnExactPropagateDatesRow : OpenClaim := { program := "ytmjhgjlnpnkmkaa", sum := "71f8f0e242fe8d8e179e13050c0b6d1cd11a213fb390c60495ee755fa3ab92da", func := "loop.example/g00876/laws.FnExactPropagateDates", spec := "fnExactPropagateDates", unfollowed := true, recurses := true, apart := false }
def FnExactPropagateDatesSaid : Prop := fnExactPropagateDatesRow.holds Try.pinned (OpenSpec.ofChange fnExactPropagateDatesSpec)

/-- ITS FALSE NEIGHBOUR: 'it returns false'. Refute it at one input. -/
def fnExactPropagateDatesWrong : ChangeSpec := { name := "fnExactPropagateDates", fn := fun _ => fun
  | [d1, d2] => { results := [.lit (.bool false)], args := [d1, d2] }
  | _ => none }
def FnExactPropagateDatesWrongFalsely : Prop := fnExactPropagateDatesRow.holds Try.pinned (OpenSpec.ofChange fnExactPropagateDatesWrong)

/-- 'laws.FnExactEarliestDates': WHATEVER THE INPUT: true; the input reads as it did. -/
def fnExactEarliestDatesSpec : ChangeSpec := { name := "fnExactEarliestDates", fn := fun _ => fun
  | [d1, d2] => { results := [.lit (.bool true)], args := [d1, d2] }
  | _ => none }
def fnExactEarliestDatesRow : OpenClaim := { program := "ytmjhgjlnpnkmkaa", sum := "71f8f0e242fe8d8e179e13050c0b6d1cd11a213fb390c60495ee755fa3ab92da", func := "loop.example/g00876/laws.FnExactEarliestDates", spec := "fnExactEarliestDates", unfollowed := true, recurses := true, apart := false }
def FnExactEarliestDatesSaid : Prop := fnExactEarliestDatesRow.holds Try.pinned (OpenSpec.ofChange fnExactEarliestDatesSpec)

/-- ITS FALSE NEIGHBOUR: 'it returns false'. Refute it at one input. -/
def fnExactEarliestDatesWrong : ChangeSpec := { name := "fnExactEarliestDates", fn := fun _ => fun
  | [d1, d2] => { results := [.lit (.bool false)], args := [d1, d2] }
  | _ => none }
def FnExactEarliestDatesWrongFalsely : Prop := fnExactEarliestDatesRow.holds Try.pinned (OpenSpec.ofChange fnExactEarliestDatesWrong)

/-- 'laws.FnExactLatestDates': WHATEVER THE INPUT: true; the input reads as it did. -/
def fnExactLatestDatesSpec : ChangeSpec := { name := "fnExactLatestDates", fn := fun _ => fun
  | [d1, d2] => { results := [.lit (.bool true)], args := [d1, d2] }
  | _ => none }
def fnExactLatestDatesRow : OpenClaim := { program := "ytmjhgjlnpnkmkaa", sum := "71f8f0e242fe8d8e179e13050c0b6d1cd11a213fb390c60495ee755fa3ab92da", func := "loop.example/g00876/laws.FnExactLatestDates", spec := "fnExactLatestDates", unfollowed := true, recurses := true, apart := false }
def FnExactLatestDatesSaid : Prop := fnExactLatestDatesRow.holds Try.pinned (OpenSpec.ofChange fnExactLatestDatesSpec)

/-- ITS FALSE NEIGHBOUR: 'it returns false'. Refute it at one input. -/
def fnExactLatestDatesWrong : ChangeSpec := { name := "fnExactLatestDates", fn := fun _ => fun
  | [d1, d2] => { results := [.lit (.bool false)], args := [d1, d2] }
  | _ => none }
def FnExactLatestDatesWrongFalsely : Prop := fnExactLatestDatesRow.holds Try.pinned (OpenSpec.ofChange fnExactLatestDatesWrong)

/-- 'laws.FnExactAddEvidence': WHATEVER THE INPUT: true; the input reads as it did. -/
def fnExactAddEvidenceSpec : ChangeSpec := { name := "fnExactAddEvidence", fn := fun _ => fun
  | [d1, d2, d3] => { results := [.lit (.bool true)], args := [d1, d2, d3] }
  | _ => none }
def fnExactAddEvidenceRow : OpenClaim := { program := "ytmjhgjlnpnkmkaa", sum := "71f8f0e242fe8d8e179e13050c0b6d1cd11a213fb390c60495ee755fa3ab92da", func := "loop.example/g00876/laws.FnExactAddEvidence", spec := "fnExactAddEvidence", inPlace := ["slices.overlaps[loop.example/g00876/impl.Dated]"], unfollowed := true, recurses := true, apart := false }
def FnExactAddEvidenceSaid : Prop := fnExactAddEvidenceRow.holds Try.pinned (OpenSpec.ofChange fnExactAddEvidenceSpec)

/-- ITS FALSE NEIGHBOUR: 'it returns false'. Refute it at one input. -/
def fnExactAddEvidenceWrong : ChangeSpec := { name := "fnExactAddEvidence", fn := fun _ => fun
  | [d1, d2, d3] => { results := [.lit (.bool false)], args := [d1, d2, d3] }
  | _ => none }
def FnExactAddEvidenceWrongFalsely : Prop := fnExactAddEvidenceRow.holds Try.pinned (OpenSpec.ofChange fnExactAddEvidenceWrong)

/-- 'laws.FnExactShortestSpan': WHATEVER THE INPUT: true; the input reads as it did. -/
def fnExactShortestSpanSpec : ChangeSpec := { name := "fnExactShortestSpan", fn := fun _ => fun
  | [d1, d2] => { results := [.lit (.bool true)], args := [d1, d2] }
  | _ => none }
def fnExactShortestSpanRow : OpenClaim := { program := "ytmjhgjlnpnkmkaa", sum := "71f8f0e242fe8d8e179e13050c0b6d1cd11a213fb390c60495ee755fa3ab92da", func := "loop.example/g00876/laws.FnExactShortestSpan", spec := "fnExactShortestSpan", unfollowed := true, recurses := true, apart := false }
def FnExactShortestSpanSaid : Prop := fnExactShortestSpanRow.holds Try.pinned (OpenSpec.ofChange fnExactShortestSpanSpec)

/-- ITS FALSE NEIGHBOUR: 'it returns false'. Refute it at one input. -/
def fnExactShortestSpanWrong : ChangeSpec := { name := "fnExactShortestSpan", fn := fun _ => fun
  | [d1, d2] => { results := [.lit (.bool false)], args := [d1, d2] }
  | _ => none }
def FnExactShortestSpanWrongFalsely : Prop := fnExactShortestSpanRow.holds Try.pinned (OpenSpec.ofChange fnExactShortestSpanWrong)

/-- 'laws.FnExactDecisiveEvidence': WHATEVER THE INPUT: true; the input reads as it did. -/
def fnExactDecisiveEvidenceSpec : ChangeSpec := { name := "fnExactDecisiveEvidence", fn := fun _ => fun
  | [d1, d2] => { results := [.lit (.bool true)], args := [d1, d2] }
  | _ => none }
def fnExactDecisiveEvidenceRow : OpenClaim := { program := "ytmjhgjlnpnkmkaa", sum := "71f8f0e242fe8d8e179e13050c0b6d1cd11a213fb390c60495ee755fa3ab92da", func := "loop.example/g00876/laws.FnExactDecisiveEvidence", spec := "fnExactDecisiveEvidence", unfollowed := true, recurses := true, apart := false }
def FnExactDecisiveEvidenceSaid : Prop := fnExactDecisiveEvidenceRow.holds Try.pinned (OpenSpec.ofChange fnExactDecisiveEvidenceSpec)

/-- ITS FALSE NEIGHBOUR: 'it returns false'. Refute it at one input. -/
def fnExactDecisiveEvidenceWrong : ChangeSpec := { name := "fnExactDecisiveEvidence", fn := fun _ => fun
  | [d1, d2] => { results := [.lit (.bool false)], args := [d1, d2] }
  | _ => none }
def FnExactDecisiveEvidenceWrongFalsely : Prop := fnExactDecisiveEvidenceRow.holds Try.pinned (OpenSpec.ofChange fnExactDecisiveEvidenceWrong)

/- THE SECOND FORM. 'bulk': how many values and letters a reading holds, each counted each time it is reached (what is shared counts as often as it is met; a slice's spare places count too). A statement '..UptoSaid' is the law's where the arguments, and the package variables that the reading takes, are together of bulk at most 1048576: NARROWER than '..Said'. Prove '..Said' where nothing that the law and all that it calls make is longer than what came in: it says more and counts as full. Else prove '..UptoSaid'. A law counts once. -/
mutual
def uptoBulk {H : Type} : DataW H → Nat
  | .lit (.string bytes) => bytes.length + 1
  | .lit _ => 1
  | .nil => 1
  | .ptr d => uptoBulk d + 1
  | .slice elems spare => uptoBulkAll elems + uptoBulkAll spare + 1
  | .agg parts => uptoBulkAll parts + 1
  | .iface _ d => uptoBulk d + 1
  | .map entries => uptoBulkEntries entries + 1
  | .held _ => 1
def uptoBulkAll {H : Type} : List (DataW H) → Nat
  | [] => 0
  | d :: r => uptoBulk d + uptoBulkAll r
def uptoBulkEntries {H : Type} : List (Lit × DataW H) → Nat
  | [] => 0
  | x :: r => uptoBulkEntry x + uptoBulkEntries r
def uptoBulkEntry {H : Type} : Lit × DataW H → Nat
  | (.string bytes, d) => bytes.length + uptoBulk d + 1
  | (_, d) => uptoBulk d + 1
 end
def uptoSmall : (H : Type) → List (DataW H) → Bool := fun _ ds => decide (uptoBulkAll ds ≤ 1048576)
def OpenSpec.upto (s : _root_.Go.ChangeSpec) : _root_.Go.OpenSpec := { _root_.Go.OpenSpec.ofChange s with cond := some uptoSmall }

/-- 'laws.FnExactIsValidEvidence', WHERE WHAT IT READS IS OF BULK AT MOST 1048576: true; the input reads as it did. -/
def fnExactIsValidEvidenceUptoRow : OpenClaim := { program := "ytmjhgjlnpnkmkaa", sum := "71f8f0e242fe8d8e179e13050c0b6d1cd11a213fb390c60495ee755fa3ab92da", func := "loop.example/g00876/laws.FnExactIsValidEvidence", spec := "fnExactIsValidEvidence", unfollowed := true, recurses := true, apart := false, narrowed := true }
def FnExactIsValidEvidenceUptoSaid : Prop := fnExactIsValidEvidenceUptoRow.holds Try.pinned (OpenSpec.upto fnExactIsValidEvidenceSpec)

/-- 'laws.FnExactArePossible', WHERE WHAT IT READS IS OF BULK AT MOST 1048576: true; the input reads as it did. -/
def fnExactArePossibleUptoRow : OpenClaim := { program := "ytmjhgjlnpnkmkaa", sum := "71f8f0e242fe8d8e179e13050c0b6d1cd11a213fb390c60495ee755fa3ab92da", func := "loop.example/g00876/laws.FnExactArePossible", spec := "fnExactArePossible", unfollowed := true, recurses := true, apart := false, narrowed := true }
def FnExactArePossibleUptoSaid : Prop := fnExactArePossibleUptoRow.holds Try.pinned (OpenSpec.upto fnExactArePossibleSpec)

/-- 'laws.FnExactFirstConflict', WHERE WHAT IT READS IS OF BULK AT MOST 1048576: true; the input reads as it did. -/
def fnExactFirstConflictUptoRow : OpenClaim := { program := "ytmjhgjlnpnkmkaa", sum := "71f8f0e242fe8d8e179e13050c0b6d1cd11a213fb390c60495ee755fa3ab92da", func := "loop.example/g00876/laws.FnExactFirstConflict", spec := "fnExactFirstConflict", unfollowed := true, recurses := true, apart := false, narrowed := true }
def FnExactFirstConflictUptoSaid : Prop := fnExactFirstConflictUptoRow.holds Try.pinned (OpenSpec.upto fnExactFirstConflictSpec)

/-- 'laws.FnExactPropagateDates', WHERE WHAT IT READS IS OF BULK AT MOST 1048576: true; the input reads as it did. -/
def fnExactPropagateDatesUptoRow : OpenClaim := { program := "ytmjhgjlnpnkmkaa", sum := "71f8f0e242fe8d8e179e13050c0b6d1cd11a213fb390c60495ee755fa3ab92da", func := "loop.example/g00876/laws.FnExactPropagateDates", spec := "fnExactPropagateDates", unfollowed := true, recurses := true, apart := false, narrowed := true }
def FnExactPropagateDatesUptoSaid : Prop := fnExactPropagateDatesUptoRow.holds Try.pinned (OpenSpec.upto fnExactPropagateDatesSpec)

/-- 'laws.FnExactEarliestDates', WHERE WHAT IT READS IS OF BULK AT MOST 1048576: true; the input reads as it did. -/
def fnExactEarliestDatesUptoRow : OpenClaim := { program := "ytmjhgjlnpnkmkaa", sum := "71f8f0e242fe8d8e179e13050c0b6d1cd11a213fb390c60495ee755fa3ab92da", func := "loop.example/g00876/laws.FnExactEarliestDates", spec := "fnExactEarliestDates", unfollowed := true, recurses := true, apart := false, narrowed := true }
def FnExactEarliestDatesUptoSaid : Prop := fnExactEarliestDatesUptoRow.holds Try.pinned (OpenSpec.upto fnExactEarliestDatesSpec)

/-- 'laws.FnExactLatestDates', WHERE WHAT IT READS IS OF BULK AT MOST 1048576: true; the input reads as it did. -/
def fnExactLatestDatesUptoRow : OpenClaim := { program := "ytmjhgjlnpnkmkaa", sum := "71f8f0e242fe8d8e179e13050c0b6d1cd11a213fb390c60495ee755fa3ab92da", func := "loop.example/g00876/laws.FnExactLatestDates", spec := "fnExactLatestDates", unfollowed := true, recurses := true, apart := false, narrowed := true }
def FnExactLatestDatesUptoSaid : Prop := fnExactLatestDatesUptoRow.holds Try.pinned (OpenSpec.upto fnExactLatestDatesSpec)

/-- 'laws.FnExactAddEvidence', WHERE WHAT IT READS IS OF BULK AT MOST 1048576: true; the input reads as it did. -/
def fnExactAddEvidenceUptoRow : OpenClaim := { program := "ytmjhgjlnpnkmkaa", sum := "71f8f0e242fe8d8e179e13050c0b6d1cd11a213fb390c60495ee755fa3ab92da", func := "loop.example/g00876/laws.FnExactAddEvidence", spec := "fnExactAddEvidence", inPlace := ["slices.overlaps[loop.example/g00876/impl.Dated]"], unfollowed := true, recurses := true, apart := false, narrowed := true }
def FnExactAddEvidenceUptoSaid : Prop := fnExactAddEvidenceUptoRow.holds Try.pinned (OpenSpec.upto fnExactAddEvidenceSpec)

/-- 'laws.FnExactShortestSpan', WHERE WHAT IT READS IS OF BULK AT MOST 1048576: true; the input reads as it did. -/
def fnExactShortestSpanUptoRow : OpenClaim := { program := "ytmjhgjlnpnkmkaa", sum := "71f8f0e242fe8d8e179e13050c0b6d1cd11a213fb390c60495ee755fa3ab92da", func := "loop.example/g00876/laws.FnExactShortestSpan", spec := "fnExactShortestSpan", unfollowed := true, recurses := true, apart := false, narrowed := true }
def FnExactShortestSpanUptoSaid : Prop := fnExactShortestSpanUptoRow.holds Try.pinned (OpenSpec.upto fnExactShortestSpanSpec)

/-- 'laws.FnExactDecisiveEvidence', WHERE WHAT IT READS IS OF BULK AT MOST 1048576: true; the input reads as it did. -/
def fnExactDecisiveEvidenceUptoRow : OpenClaim := { program := "ytmjhgjlnpnkmkaa", sum := "71f8f0e242fe8d8e179e13050c0b6d1cd11a213fb390c60495ee755fa3ab92da", func := "loop.example/g00876/laws.FnExactDecisiveEvidence", spec := "fnExactDecisiveEvidence", unfollowed := true, recurses := true, apart := false, narrowed := true }
def FnExactDecisiveEvidenceUptoSaid : Prop := fnExactDecisiveEvidenceUptoRow.holds Try.pinned (OpenSpec.upto fnExactDecisiveEvidenceSpec)

end Rows
end Go.Proofs.Ytmjhgjlnpnkmkaa
