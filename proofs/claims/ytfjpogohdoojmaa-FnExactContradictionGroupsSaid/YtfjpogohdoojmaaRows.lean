/-
  No cell of these rows narrows 'for every input' (looked for: loops, veiled, ifaces, maps, wideKeys, modest, calm, conditions, laid).
  DERIVED. THE GIVEN ROWS OF THIS SEAT. 10 by the template 'for every input the law returns true; each argument reads behind the call as it read before'; 0 by the template 'total and deterministic' (their statements: YtfjpogohdoojmaaTotals.lean).
  GIVEN WITH THE SEED: the statements are not yours to turn. If you find one false, say at which input.
  Laid BY PROGRAM, IN A SANDBOX (cutbox-rows.mjs): the forced cells as the released guide's own fill.sh prints them over the translation 6f164a5f4cefd334… (all of the seat's roots in one cut). By AI agents, Wed Nov 11 2026. No macro, syntax, notation, axiom, sorry.
-/
import Derived.Test.YtfjpogohdoojmaaChecked
import GoSem.Claim
import GoSem.ClaimJoined
import GoSem.ClaimMapViews
import Derived.JoinedTies
import Derived.KernelRfl
namespace Go.Proofs.Ytfjpogohdoojmaa
/- THE CELL 'sum', in the pinned program and in every row, IS THE sha256 OF THE DUMP (.gsa) THAT YtfjpogohdoojmaaProg.lean LOADS. Nothing in Lean hashes anything: it is a label: what it is worth is what the hold of that sum in a sandbox is worth. -/
noncomputable def Try.pinned : Pinned := { name := "ytfjpogohdoojmaa", sum := "6f164a5f4cefd33457236f201fd8e18e90652f6a95666777ce32d04aa66b76e5", checked := Try.checked }
namespace Rows
def none {H : Type} : Left H := { results := [], args := [] }

/-- 'laws.FnCycle': WHATEVER THE INPUT: true; the input reads as it did. -/
def fnCycleSpec : ChangeSpec := { name := "fnCycle", fn := fun _ => fun
  | [d] => { results := [.lit (.bool true)], args := [d] }
  | _ => none }
def fnCycleRow : OpenClaim := { program := "ytfjpogohdoojmaa", sum := "6f164a5f4cefd33457236f201fd8e18e90652f6a95666777ce32d04aa66b76e5", func := "loop.example/g00876/laws.FnCycle", spec := "fnCycle", unfollowed := true, recurses := true, apart := false }
def FnCycleSaid : Prop := fnCycleRow.holds Try.pinned (OpenSpec.ofChange fnCycleSpec)

/-- ITS FALSE NEIGHBOUR: 'it returns false'. Refute it at one input. -/
def fnCycleWrong : ChangeSpec := { name := "fnCycle", fn := fun _ => fun
  | [d] => { results := [.lit (.bool false)], args := [d] }
  | _ => none }
def FnCycleWrongFalsely : Prop := fnCycleRow.holds Try.pinned (OpenSpec.ofChange fnCycleWrong)

/-- 'laws.FnSuspects': WHATEVER THE INPUT: true; the input reads as it did. -/
def fnSuspectsSpec : ChangeSpec := { name := "fnSuspects", fn := fun _ => fun
  | [d] => { results := [.lit (.bool true)], args := [d] }
  | _ => none }
def fnSuspectsRow : OpenClaim := { program := "ytfjpogohdoojmaa", sum := "6f164a5f4cefd33457236f201fd8e18e90652f6a95666777ce32d04aa66b76e5", func := "loop.example/g00876/laws.FnSuspects", spec := "fnSuspects", unfollowed := true, recurses := true, apart := false }
def FnSuspectsSaid : Prop := fnSuspectsRow.holds Try.pinned (OpenSpec.ofChange fnSuspectsSpec)

/-- ITS FALSE NEIGHBOUR: 'it returns false'. Refute it at one input. -/
def fnSuspectsWrong : ChangeSpec := { name := "fnSuspects", fn := fun _ => fun
  | [d] => { results := [.lit (.bool false)], args := [d] }
  | _ => none }
def FnSuspectsWrongFalsely : Prop := fnSuspectsRow.holds Try.pinned (OpenSpec.ofChange fnSuspectsWrong)

/-- 'laws.FnExactContradictionGroups': WHATEVER THE INPUT: true; the input reads as it did. -/
def fnExactContradictionGroupsSpec : ChangeSpec := { name := "fnExactContradictionGroups", fn := fun _ => fun
  | [d] => { results := [.lit (.bool true)], args := [d] }
  | _ => none }
def fnExactContradictionGroupsRow : OpenClaim := { program := "ytfjpogohdoojmaa", sum := "6f164a5f4cefd33457236f201fd8e18e90652f6a95666777ce32d04aa66b76e5", func := "loop.example/g00876/laws.FnExactContradictionGroups", spec := "fnExactContradictionGroups", unfollowed := true, recurses := true, apart := false }
def FnExactContradictionGroupsSaid : Prop := fnExactContradictionGroupsRow.holds Try.pinned (OpenSpec.ofChange fnExactContradictionGroupsSpec)

/-- ITS FALSE NEIGHBOUR: 'it returns false'. Refute it at one input. -/
def fnExactContradictionGroupsWrong : ChangeSpec := { name := "fnExactContradictionGroups", fn := fun _ => fun
  | [d] => { results := [.lit (.bool false)], args := [d] }
  | _ => none }
def FnExactContradictionGroupsWrongFalsely : Prop := fnExactContradictionGroupsRow.holds Try.pinned (OpenSpec.ofChange fnExactContradictionGroupsWrong)

/-- 'laws.FnOrder': WHATEVER THE INPUT: true; the input reads as it did. -/
def fnOrderSpec : ChangeSpec := { name := "fnOrder", fn := fun _ => fun
  | [d] => { results := [.lit (.bool true)], args := [d] }
  | _ => none }
def fnOrderRow : OpenClaim := { program := "ytfjpogohdoojmaa", sum := "6f164a5f4cefd33457236f201fd8e18e90652f6a95666777ce32d04aa66b76e5", func := "loop.example/g00876/laws.FnOrder", spec := "fnOrder", unfollowed := true, recurses := true, apart := false }
def FnOrderSaid : Prop := fnOrderRow.holds Try.pinned (OpenSpec.ofChange fnOrderSpec)

/-- ITS FALSE NEIGHBOUR: 'it returns false'. Refute it at one input. -/
def fnOrderWrong : ChangeSpec := { name := "fnOrder", fn := fun _ => fun
  | [d] => { results := [.lit (.bool false)], args := [d] }
  | _ => none }
def FnOrderWrongFalsely : Prop := fnOrderRow.holds Try.pinned (OpenSpec.ofChange fnOrderWrong)

/-- 'laws.FnRecords': WHATEVER THE INPUT: true; the input reads as it did. -/
def fnRecordsSpec : ChangeSpec := { name := "fnRecords", fn := fun _ => fun
  | [d] => { results := [.lit (.bool true)], args := [d] }
  | _ => none }
def fnRecordsRow : OpenClaim := { program := "ytfjpogohdoojmaa", sum := "6f164a5f4cefd33457236f201fd8e18e90652f6a95666777ce32d04aa66b76e5", func := "loop.example/g00876/laws.FnRecords", spec := "fnRecords", inPlace := ["slices.overlaps[loop.example/g00876/impl.Context]", "slices.overlaps[loop.example/g00876/impl.Relation]"], unfollowed := true, recurses := true, apart := false }
def FnRecordsSaid : Prop := fnRecordsRow.holds Try.pinned (OpenSpec.ofChange fnRecordsSpec)

/-- ITS FALSE NEIGHBOUR: 'it returns false'. Refute it at one input. -/
def fnRecordsWrong : ChangeSpec := { name := "fnRecords", fn := fun _ => fun
  | [d] => { results := [.lit (.bool false)], args := [d] }
  | _ => none }
def FnRecordsWrongFalsely : Prop := fnRecordsRow.holds Try.pinned (OpenSpec.ofChange fnRecordsWrong)

/-- 'laws.FnRenumber': WHATEVER THE INPUT: true; the input reads as it did. -/
def fnRenumberSpec : ChangeSpec := { name := "fnRenumber", fn := fun _ => fun
  | [d] => { results := [.lit (.bool true)], args := [d] }
  | _ => none }
def fnRenumberRow : OpenClaim := { program := "ytfjpogohdoojmaa", sum := "6f164a5f4cefd33457236f201fd8e18e90652f6a95666777ce32d04aa66b76e5", func := "loop.example/g00876/laws.FnRenumber", spec := "fnRenumber", unfollowed := true, recurses := true, apart := false }
def FnRenumberSaid : Prop := fnRenumberRow.holds Try.pinned (OpenSpec.ofChange fnRenumberSpec)

/-- ITS FALSE NEIGHBOUR: 'it returns false'. Refute it at one input. -/
def fnRenumberWrong : ChangeSpec := { name := "fnRenumber", fn := fun _ => fun
  | [d] => { results := [.lit (.bool false)], args := [d] }
  | _ => none }
def FnRenumberWrongFalsely : Prop := fnRenumberRow.holds Try.pinned (OpenSpec.ofChange fnRenumberWrong)

/-- 'laws.FnExactLongestChain': WHATEVER THE INPUT: true; the input reads as it did. -/
def fnExactLongestChainSpec : ChangeSpec := { name := "fnExactLongestChain", fn := fun _ => fun
  | [d] => { results := [.lit (.bool true)], args := [d] }
  | _ => none }
def fnExactLongestChainRow : OpenClaim := { program := "ytfjpogohdoojmaa", sum := "6f164a5f4cefd33457236f201fd8e18e90652f6a95666777ce32d04aa66b76e5", func := "loop.example/g00876/laws.FnExactLongestChain", spec := "fnExactLongestChain", unfollowed := true, recurses := true, apart := false }
def FnExactLongestChainSaid : Prop := fnExactLongestChainRow.holds Try.pinned (OpenSpec.ofChange fnExactLongestChainSpec)

/-- ITS FALSE NEIGHBOUR: 'it returns false'. Refute it at one input. -/
def fnExactLongestChainWrong : ChangeSpec := { name := "fnExactLongestChain", fn := fun _ => fun
  | [d] => { results := [.lit (.bool false)], args := [d] }
  | _ => none }
def FnExactLongestChainWrongFalsely : Prop := fnExactLongestChainRow.holds Try.pinned (OpenSpec.ofChange fnExactLongestChainWrong)

/-- 'laws.FnMatrix': WHATEVER THE INPUT: true; the input reads as it did. -/
def fnMatrixSpec : ChangeSpec := { name := "fnMatrix", fn := fun _ => fun
  | [d] => { results := [.lit (.bool true)], args := [d] }
  | _ => none }
def fnMatrixRow : OpenClaim := { program := "ytfjpogohdoojmaa", sum := "6f164a5f4cefd33457236f201fd8e18e90652f6a95666777ce32d04aa66b76e5", func := "loop.example/g00876/laws.FnMatrix", spec := "fnMatrix", unfollowed := true, recurses := true, apart := false }
def FnMatrixSaid : Prop := fnMatrixRow.holds Try.pinned (OpenSpec.ofChange fnMatrixSpec)

/-- ITS FALSE NEIGHBOUR: 'it returns false'. Refute it at one input. -/
def fnMatrixWrong : ChangeSpec := { name := "fnMatrix", fn := fun _ => fun
  | [d] => { results := [.lit (.bool false)], args := [d] }
  | _ => none }
def FnMatrixWrongFalsely : Prop := fnMatrixRow.holds Try.pinned (OpenSpec.ofChange fnMatrixWrong)

/-- 'laws.FnExactResolvesRecord': WHATEVER THE INPUT: true; the input reads as it did. -/
def fnExactResolvesRecordSpec : ChangeSpec := { name := "fnExactResolvesRecord", fn := fun _ => fun
  | [d1, d2] => { results := [.lit (.bool true)], args := [d1, d2] }
  | _ => none }
def fnExactResolvesRecordRow : OpenClaim := { program := "ytfjpogohdoojmaa", sum := "6f164a5f4cefd33457236f201fd8e18e90652f6a95666777ce32d04aa66b76e5", func := "loop.example/g00876/laws.FnExactResolvesRecord", spec := "fnExactResolvesRecord", unfollowed := true, recurses := true, apart := false }
def FnExactResolvesRecordSaid : Prop := fnExactResolvesRecordRow.holds Try.pinned (OpenSpec.ofChange fnExactResolvesRecordSpec)

/-- ITS FALSE NEIGHBOUR: 'it returns false'. Refute it at one input. -/
def fnExactResolvesRecordWrong : ChangeSpec := { name := "fnExactResolvesRecord", fn := fun _ => fun
  | [d1, d2] => { results := [.lit (.bool false)], args := [d1, d2] }
  | _ => none }
def FnExactResolvesRecordWrongFalsely : Prop := fnExactResolvesRecordRow.holds Try.pinned (OpenSpec.ofChange fnExactResolvesRecordWrong)

/-- 'laws.FnExactSmallestDoubt': WHATEVER THE INPUT: true; the input reads as it did. -/
def fnExactSmallestDoubtSpec : ChangeSpec := { name := "fnExactSmallestDoubt", fn := fun _ => fun
  | [d] => { results := [.lit (.bool true)], args := [d] }
  | _ => none }
def fnExactSmallestDoubtRow : OpenClaim := { program := "ytfjpogohdoojmaa", sum := "6f164a5f4cefd33457236f201fd8e18e90652f6a95666777ce32d04aa66b76e5", func := "loop.example/g00876/laws.FnExactSmallestDoubt", spec := "fnExactSmallestDoubt", unfollowed := true, recurses := true, apart := false }
def FnExactSmallestDoubtSaid : Prop := fnExactSmallestDoubtRow.holds Try.pinned (OpenSpec.ofChange fnExactSmallestDoubtSpec)

/-- ITS FALSE NEIGHBOUR: 'it returns false'. Refute it at one input. -/
def fnExactSmallestDoubtWrong : ChangeSpec := { name := "fnExactSmallestDoubt", fn := fun _ => fun
  | [d] => { results := [.lit (.bool false)], args := [d] }
  | _ => none }
def FnExactSmallestDoubtWrongFalsely : Prop := fnExactSmallestDoubtRow.holds Try.pinned (OpenSpec.ofChange fnExactSmallestDoubtWrong)

/- THE SECOND FORM. 'bulk': how many values and letters a reading holds, each counted each time it is reached (what is shared counts as often as it is met; a slice's spare places count too). A statement '..UptoSaid' is the law's where the arguments, and the package variables that the reading takes, are together of bulk at most 1048576: NARROWER than '..Said'. Prove '..Said' where nothing that the law and all that it calls make is longer than what came in: it says more and counts as full. Else prove '..UptoSaid'. A law counts once. -/
mutual
def uptoBulk {H : Type} : DataW H → Nat
  | .lit (.string bytes) => bytes.length + 1
  | .lit _ => 1
  | .nil => 1
  | .ptr d => uptoBulk d + 1
  | .slice elems spare => uptoBulkAll elems + uptoBulkAll spare + 1
  | .agg parts => uptoBulkAll parts + 1
  | .iface _ d => uptoBulk d + 1
  | .map entries => uptoBulkEntries entries + 1
  | .held _ => 1
def uptoBulkAll {H : Type} : List (DataW H) → Nat
  | [] => 0
  | d :: r => uptoBulk d + uptoBulkAll r
def uptoBulkEntries {H : Type} : List (Lit × DataW H) → Nat
  | [] => 0
  | x :: r => uptoBulkEntry x + uptoBulkEntries r
def uptoBulkEntry {H : Type} : Lit × DataW H → Nat
  | (.string bytes, d) => bytes.length + uptoBulk d + 1
  | (_, d) => uptoBulk d + 1
 end
def uptoSmall : (H : Type) → List (DataW H) → Bool := fun _ ds => decide (uptoBulkAll ds ≤ 1048576)
def OpenSpec.upto (s : _root_.Go.ChangeSpec) : _root_.Go.OpenSpec := { _root_.Go.OpenSpec.ofChange s with cond := some uptoSmall }

/-- 'laws.FnCycle', WHERE WHAT IT READS IS OF BULK AT MOST 1048576: true; the input reads as it did. -/
def fnCycleUptoRow : OpenClaim := { program := "ytfjpogohdoojmaa", sum := "6f164a5f4cefd33457236f201fd8e18e90652f6a95666777ce32d04aa66b76e5", func := "loop.example/g00876/laws.FnCycle", spec := "fnCycle", unfollowed := true, recurses := true, apart := false, narrowed := true }
def FnCycleUptoSaid : Prop := fnCycleUptoRow.holds Try.pinned (OpenSpec.upto fnCycleSpec)

/-- 'laws.FnSuspects', WHERE WHAT IT READS IS OF BULK AT MOST 1048576: true; the input reads as it did. -/
def fnSuspectsUptoRow : OpenClaim := { program := "ytfjpogohdoojmaa", sum := "6f164a5f4cefd33457236f201fd8e18e90652f6a95666777ce32d04aa66b76e5", func := "loop.example/g00876/laws.FnSuspects", spec := "fnSuspects", unfollowed := true, recurses := true, apart := false, narrowed := true }
def FnSuspectsUptoSaid : Prop := fnSuspectsUptoRow.holds Try.pinned (OpenSpec.upto fnSuspectsSpec)

/-- 'laws.FnExactContradictionGroups', WHERE WHAT IT READS IS OF BULK AT MOST 1048576: true; the input reads as it did. -/
def fnExactContradictionGroupsUptoRow : OpenClaim := { program := "ytfjpogohdoojmaa", sum := "6f164a5f4cefd33457236f201fd8e18e90652f6a95666777ce32d04aa66b76e5", func := "loop.example/g00876/laws.FnExactContradictionGroups", spec := "fnExactContradictionGroups", unfollowed := true, recurses := true, apart := false, narrowed := true }
def FnExactContradictionGroupsUptoSaid : Prop := fnExactContradictionGroupsUptoRow.holds Try.pinned (OpenSpec.upto fnExactContradictionGroupsSpec)

/-- 'laws.FnOrder', WHERE WHAT IT READS IS OF BULK AT MOST 1048576: true; the input reads as it did. -/
def fnOrderUptoRow : OpenClaim := { program := "ytfjpogohdoojmaa", sum := "6f164a5f4cefd33457236f201fd8e18e90652f6a95666777ce32d04aa66b76e5", func := "loop.example/g00876/laws.FnOrder", spec := "fnOrder", unfollowed := true, recurses := true, apart := false, narrowed := true }
def FnOrderUptoSaid : Prop := fnOrderUptoRow.holds Try.pinned (OpenSpec.upto fnOrderSpec)

/-- 'laws.FnRecords', WHERE WHAT IT READS IS OF BULK AT MOST 1048576: true; the input reads as it did. -/
def fnRecordsUptoRow : OpenClaim := { program := "ytfjpogohdoojmaa", sum := "6f164a5f4cefd33457236f201fd8e18e90652f6a95666777ce32d04aa66b76e5", func := "loop.example/g00876/laws.FnRecords", spec := "fnRecords", inPlace := ["slices.overlaps[loop.example/g00876/impl.Context]", "slices.overlaps[loop.example/g00876/impl.Relation]"], unfollowed := true, recurses := true, apart := false, narrowed := true }
def FnRecordsUptoSaid : Prop := fnRecordsUptoRow.holds Try.pinned (OpenSpec.upto fnRecordsSpec)

/-- 'laws.FnRenumber', WHERE WHAT IT READS IS OF BULK AT MOST 1048576: true; the input reads as it did. -/
def fnRenumberUptoRow : OpenClaim := { program := "ytfjpogohdoojmaa", sum := "6f164a5f4cefd33457236f201fd8e18e90652f6a95666777ce32d04aa66b76e5", func := "loop.example/g00876/laws.FnRenumber", spec := "fnRenumber", unfollowed := true, recurses := true, apart := false, narrowed := true }
def FnRenumberUptoSaid : Prop := fnRenumberUptoRow.holds Try.pinned (OpenSpec.upto fnRenumberSpec)

/-- 'laws.FnExactLongestChain', WHERE WHAT IT READS IS OF BULK AT MOST 1048576: true; the input reads as it did. -/
def fnExactLongestChainUptoRow : OpenClaim := { program := "ytfjpogohdoojmaa", sum := "6f164a5f4cefd33457236f201fd8e18e90652f6a95666777ce32d04aa66b76e5", func := "loop.example/g00876/laws.FnExactLongestChain", spec := "fnExactLongestChain", unfollowed := true, recurses := true, apart := false, narrowed := true }
def FnExactLongestChainUptoSaid : Prop := fnExactLongestChainUptoRow.holds Try.pinned (OpenSpec.upto fnExactLongestChainSpec)

/-- 'laws.FnMatrix', WHERE WHAT IT READS IS OF BULK AT MOST 1048576: true; the input reads as it did. -/
def fnMatrixUptoRow : OpenClaim := { program := "ytfjpogohdoojmaa", sum := "6f164a5f4cefd33457236f201fd8e18e90652f6a95666777ce32d04aa66b76e5", func := "loop.example/g00876/laws.FnMatrix", spec := "fnMatrix", unfollowed := true, recurses := true, apart := false, narrowed := true }
def FnMatrixUptoSaid : Prop := fnMatrixUptoRow.holds Try.pinned (OpenSpec.upto fnMatrixSpec)

/-- 'laws.FnExactResolvesRecord', WHERE WHAT IT READS IS OF BULK AT MOST 1048576: true; the input reads as it did. -/
def fnExactResolvesRecordUptoRow : OpenClaim := { program := "ytfjpogohdoojmaa", sum := "6f164a5f4cefd33457236f201fd8e18e90652f6a95666777ce32d04aa66b76e5", func := "loop.example/g00876/laws.FnExactResolvesRecord", spec := "fnExactResolvesRecord", unfollowed := true, recurses := true, apart := false, narrowed := true }
def FnExactResolvesRecordUptoSaid : Prop := fnExactResolvesRecordUptoRow.holds Try.pinned (OpenSpec.upto fnExactResolvesRecordSpec)

/-- 'laws.FnExactSmallestDoubt', WHERE WHAT IT READS IS OF BULK AT MOST 1048576: true; the input reads as it did. -/
def fnExactSmallestDoubtUptoRow : OpenClaim := { program := "ytfjpogohdoojmaa", sum := "6f164a5f4cefd33457236f201fd8e18e90652f6a95666777ce32d04aa66b76e5", func := "loop.example/g00876/laws.FnExactSmallestDoubt", spec := "fnExactSmallestDoubt", unfollowed := true, recurses := true, apart := false, narrowed := true }
def FnExactSmallestDoubtUptoSaid : Prop := fnExactSmallestDoubtUptoRow.holds Try.pinned (OpenSpec.upto fnExactSmallestDoubtSpec)

end Rows
end Go.Proofs.Ytfjpogohdoojmaa
