/-
  No cell of these rows narrows 'for every input' (looked for: loops, veiled, ifaces, maps, wideKeys, modest, calm, conditions, laid).
  DERIVED. THE GIVEN ROWS OF THIS SEAT. 6 by the template 'for every input the law returns true; each argument reads behind the call as it read before'; 0 by the template 'total and deterministic' (their statements: YthcjembekadijaaTotals.lean).
  GIVEN WITH THE SEED: the statements are not yours to turn. If you find one false, say at which input.
  Laid BY PROGRAM, IN A SANDBOX (cutbox-rows.mjs): the forced cells as the released guide's own fill.sh prints them over the translation 97c5978cd69fc987… (all of the seat's roots in one cut). By AI agents, Wed Nov 11 2026. No macro, syntax, notation, axiom, sorry.
-/
import Derived.Test.YthcjembekadijaaChecked
import GoSem.Claim
import GoSem.ClaimJoined
import GoSem.ClaimMapViews
import Derived.JoinedTies
import Derived.KernelRfl
namespace Go.Proofs.Ythcjembekadijaa
/- THE CELL 'sum', in the pinned program and in every row, IS THE sha256 OF THE DUMP (.gsa) THAT YthcjembekadijaaProg.lean LOADS. Nothing in Lean hashes anything: it is a label: what it is worth is what the hold of that sum in a sandbox is worth. -/
noncomputable def Try.pinned : Pinned := { name := "ythcjembekadijaa", sum := "97c5978cd69fc9870231e1a621ac151b480a2c265ae67a7df43a0ea99c02498e", checked := Try.checked }
namespace Rows
def none {H : Type} : Left H := { results := [], args := [] }

/-- 'laws.FnCycle': WHATEVER THE INPUT: true; the input reads as it did. -/
def fnCycleSpec : ChangeSpec := { name := "fnCycle", fn := fun _ => fun
  | [d] => { results := [.lit (.bool true)], args := [d] }
  | _ => none }
def fnCycleRow : OpenClaim := { program := "ythcjembekadijaa", sum := "97c5978cd69fc9870231e1a621ac151b480a2c265ae67a7df43a0ea99c02498e", func := "loop.example/g00876/laws.FnCycle", spec := "fnCycle", unfollowed := true, recurses := true, apart := false }
def FnCycleSaid : Prop := fnCycleRow.holds Try.pinned (OpenSpec.ofChange fnCycleSpec)

/-- ITS FALSE NEIGHBOUR: 'it returns false'. Refute it at one input. -/
def fnCycleWrong : ChangeSpec := { name := "fnCycle", fn := fun _ => fun
  | [d] => { results := [.lit (.bool false)], args := [d] }
  | _ => none }
def FnCycleWrongFalsely : Prop := fnCycleRow.holds Try.pinned (OpenSpec.ofChange fnCycleWrong)

/-- 'laws.FnSuspects': WHATEVER THE INPUT: true; the input reads as it did. -/
def fnSuspectsSpec : ChangeSpec := { name := "fnSuspects", fn := fun _ => fun
  | [d] => { results := [.lit (.bool true)], args := [d] }
  | _ => none }
def fnSuspectsRow : OpenClaim := { program := "ythcjembekadijaa", sum := "97c5978cd69fc9870231e1a621ac151b480a2c265ae67a7df43a0ea99c02498e", func := "loop.example/g00876/laws.FnSuspects", spec := "fnSuspects", unfollowed := true, recurses := true, apart := false }
def FnSuspectsSaid : Prop := fnSuspectsRow.holds Try.pinned (OpenSpec.ofChange fnSuspectsSpec)

/-- ITS FALSE NEIGHBOUR: 'it returns false'. Refute it at one input. -/
def fnSuspectsWrong : ChangeSpec := { name := "fnSuspects", fn := fun _ => fun
  | [d] => { results := [.lit (.bool false)], args := [d] }
  | _ => none }
def FnSuspectsWrongFalsely : Prop := fnSuspectsRow.holds Try.pinned (OpenSpec.ofChange fnSuspectsWrong)

/-- 'laws.FnOrder': WHATEVER THE INPUT: true; the input reads as it did. -/
def fnOrderSpec : ChangeSpec := { name := "fnOrder", fn := fun _ => fun
  | [d] => { results := [.lit (.bool true)], args := [d] }
  | _ => none }
def fnOrderRow : OpenClaim := { program := "ythcjembekadijaa", sum := "97c5978cd69fc9870231e1a621ac151b480a2c265ae67a7df43a0ea99c02498e", func := "loop.example/g00876/laws.FnOrder", spec := "fnOrder", unfollowed := true, recurses := true, apart := false }
def FnOrderSaid : Prop := fnOrderRow.holds Try.pinned (OpenSpec.ofChange fnOrderSpec)

/-- ITS FALSE NEIGHBOUR: 'it returns false'. Refute it at one input. -/
def fnOrderWrong : ChangeSpec := { name := "fnOrder", fn := fun _ => fun
  | [d] => { results := [.lit (.bool false)], args := [d] }
  | _ => none }
def FnOrderWrongFalsely : Prop := fnOrderRow.holds Try.pinned (OpenSpec.ofChange fnOrderWrong)

/-- 'laws.FnRecords': WHATEVER THE INPUT: true; the input reads as it did. -/
def fnRecordsSpec : ChangeSpec := { name := "fnRecords", fn := fun _ => fun
  | [d] => { results := [.lit (.bool true)], args := [d] }
  | _ => none }
def fnRecordsRow : OpenClaim := { program := "ythcjembekadijaa", sum := "97c5978cd69fc9870231e1a621ac151b480a2c265ae67a7df43a0ea99c02498e", func := "loop.example/g00876/laws.FnRecords", spec := "fnRecords", inPlace := ["slices.overlaps[loop.example/g00876/impl.Context]", "slices.overlaps[loop.example/g00876/impl.Relation]"], unfollowed := true, recurses := true, apart := false }
def FnRecordsSaid : Prop := fnRecordsRow.holds Try.pinned (OpenSpec.ofChange fnRecordsSpec)

/-- ITS FALSE NEIGHBOUR: 'it returns false'. Refute it at one input. -/
def fnRecordsWrong : ChangeSpec := { name := "fnRecords", fn := fun _ => fun
  | [d] => { results := [.lit (.bool false)], args := [d] }
  | _ => none }
def FnRecordsWrongFalsely : Prop := fnRecordsRow.holds Try.pinned (OpenSpec.ofChange fnRecordsWrong)

/-- 'laws.FnRenumber': WHATEVER THE INPUT: true; the input reads as it did. -/
def fnRenumberSpec : ChangeSpec := { name := "fnRenumber", fn := fun _ => fun
  | [d] => { results := [.lit (.bool true)], args := [d] }
  | _ => none }
def fnRenumberRow : OpenClaim := { program := "ythcjembekadijaa", sum := "97c5978cd69fc9870231e1a621ac151b480a2c265ae67a7df43a0ea99c02498e", func := "loop.example/g00876/laws.FnRenumber", spec := "fnRenumber", unfollowed := true, recurses := true, apart := false }
def FnRenumberSaid : Prop := fnRenumberRow.holds Try.pinned (OpenSpec.ofChange fnRenumberSpec)

/-- ITS FALSE NEIGHBOUR: 'it returns false'. Refute it at one input. -/
def fnRenumberWrong : ChangeSpec := { name := "fnRenumber", fn := fun _ => fun
  | [d] => { results := [.lit (.bool false)], args := [d] }
  | _ => none }
def FnRenumberWrongFalsely : Prop := fnRenumberRow.holds Try.pinned (OpenSpec.ofChange fnRenumberWrong)

/-- 'laws.FnExactContradictionGroups': WHATEVER THE INPUT: true; the input reads as it did. -/
def fnExactContradictionGroupsSpec : ChangeSpec := { name := "fnExactContradictionGroups", fn := fun _ => fun
  | [d] => { results := [.lit (.bool true)], args := [d] }
  | _ => none }
def fnExactContradictionGroupsRow : OpenClaim := { program := "ythcjembekadijaa", sum := "97c5978cd69fc9870231e1a621ac151b480a2c265ae67a7df43a0ea99c02498e", func := "loop.example/g00876/laws.FnExactContradictionGroups", spec := "fnExactContradictionGroups", unfollowed := true, recurses := true, apart := false }
def FnExactContradictionGroupsSaid : Prop := fnExactContradictionGroupsRow.holds Try.pinned (OpenSpec.ofChange fnExactContradictionGroupsSpec)

/-- ITS FALSE NEIGHBOUR: 'it returns false'. Refute it at one input. -/
def fnExactContradictionGroupsWrong : ChangeSpec := { name := "fnExactContradictionGroups", fn := fun _ => fun
  | [d] => { results := [.lit (.bool false)], args := [d] }
  | _ => none }
def FnExactContradictionGroupsWrongFalsely : Prop := fnExactContradictionGroupsRow.holds Try.pinned (OpenSpec.ofChange fnExactContradictionGroupsWrong)

/- THE SECOND FORM. 'bulk': how many values and letters a reading holds, each counted each time it is reached (what is shared counts as often as it is met; a slice's spare places count too). A statement '..UptoSaid' is the law's where the arguments, and the package variables that the reading takes, are together of bulk at most 1048576: NARROWER than '..Said'. Prove '..Said' where nothing that the law and all that it calls make is longer than what came in: it says more and counts as full. Else prove '..UptoSaid'. A law counts once. -/
mutual
def uptoBulk {H : Type} : DataW H → Nat
  | .lit (.string bytes) => bytes.length + 1
  | .lit _ => 1
  | .nil => 1
  | .ptr d => uptoBulk d + 1
  | .slice elems spare => uptoBulkAll elems + uptoBulkAll spare + 1
  | .agg parts => uptoBulkAll parts + 1
  | .iface _ d => uptoBulk d + 1
  | .map entries => uptoBulkEntries entries + 1
  | .held _ => 1
def uptoBulkAll {H : Type} : List (DataW H) → Nat
  | [] => 0
  | d :: r => uptoBulk d + uptoBulkAll r
def uptoBulkEntries {H : Type} : List (Lit × DataW H) → Nat
  | [] => 0
  | x :: r => uptoBulkEntry x + uptoBulkEntries r
def uptoBulkEntry {H : Type} : Lit × DataW H → Nat
  | (.string bytes, d) => bytes.length + uptoBulk d + 1
  | (_, d) => uptoBulk d + 1
 end
def uptoSmall : (H : Type) → List (DataW H) → Bool := fun _ ds => decide (uptoBulkAll ds ≤ 1048576)
def OpenSpec.upto (s : _root_.Go.ChangeSpec) : _root_.Go.OpenSpec := { _root_.Go.OpenSpec.ofChange s with cond := some uptoSmall }

/-- 'laws.FnCycle', WHERE WHAT IT READS IS OF BULK AT MOST 1048576: true; the input reads as it did. -/
def fnCycleUptoRow : OpenClaim := { program := "ythcjembekadijaa", sum := "97c5978cd69fc9870231e1a621ac151b480a2c265ae67a7df43a0ea99c02498e", func := "loop.example/g00876/laws.FnCycle", spec := "fnCycle", unfollowed := true, recurses := true, apart := false, narrowed := true }
def FnCycleUptoSaid : Prop := fnCycleUptoRow.holds Try.pinned (OpenSpec.upto fnCycleSpec)

/-- 'laws.FnSuspects', WHERE WHAT IT READS IS OF BULK AT MOST 1048576: true; the input reads as it did. -/
def fnSuspectsUptoRow : OpenClaim := { program := "ythcjembekadijaa", sum := "97c5978cd69fc9870231e1a621ac151b480a2c265ae67a7df43a0ea99c02498e", func := "loop.example/g00876/laws.FnSuspects", spec := "fnSuspects", unfollowed := true, recurses := true, apart := false, narrowed := true }
def FnSuspectsUptoSaid : Prop := fnSuspectsUptoRow.holds Try.pinned (OpenSpec.upto fnSuspectsSpec)

/-- 'laws.FnOrder', WHERE WHAT IT READS IS OF BULK AT MOST 1048576: true; the input reads as it did. -/
def fnOrderUptoRow : OpenClaim := { program := "ythcjembekadijaa", sum := "97c5978cd69fc9870231e1a621ac151b480a2c265ae67a7df43a0ea99c02498e", func := "loop.example/g00876/laws.FnOrder", spec := "fnOrder", unfollowed := true, recurses := true, apart := false, narrowed := true }
def FnOrderUptoSaid : Prop := fnOrderUptoRow.holds Try.pinned (OpenSpec.upto fnOrderSpec)

/-- 'laws.FnRecords', WHERE WHAT IT READS IS OF BULK AT MOST 1048576: true; the input reads as it did. -/
def fnRecordsUptoRow : OpenClaim := { program := "ythcjembekadijaa", sum := "97c5978cd69fc9870231e1a621ac151b480a2c265ae67a7df43a0ea99c02498e", func := "loop.example/g00876/laws.FnRecords", spec := "fnRecords", inPlace := ["slices.overlaps[loop.example/g00876/impl.Context]", "slices.overlaps[loop.example/g00876/impl.Relation]"], unfollowed := true, recurses := true, apart := false, narrowed := true }
def FnRecordsUptoSaid : Prop := fnRecordsUptoRow.holds Try.pinned (OpenSpec.upto fnRecordsSpec)

/-- 'laws.FnRenumber', WHERE WHAT IT READS IS OF BULK AT MOST 1048576: true; the input reads as it did. -/
def fnRenumberUptoRow : OpenClaim := { program := "ythcjembekadijaa", sum := "97c5978cd69fc9870231e1a621ac151b480a2c265ae67a7df43a0ea99c02498e", func := "loop.example/g00876/laws.FnRenumber", spec := "fnRenumber", unfollowed := true, recurses := true, apart := false, narrowed := true }
def FnRenumberUptoSaid : Prop := fnRenumberUptoRow.holds Try.pinned (OpenSpec.upto fnRenumberSpec)

/-- 'laws.FnExactContradictionGroups', WHERE WHAT IT READS IS OF BULK AT MOST 1048576: true; the input reads as it did. -/
def fnExactContradictionGroupsUptoRow : OpenClaim := { program := "ythcjembekadijaa", sum := "97c5978cd69fc9870231e1a621ac151b480a2c265ae67a7df43a0ea99c02498e", func := "loop.example/g00876/laws.FnExactContradictionGroups", spec := "fnExactContradictionGroups", unfollowed := true, recurses := true, apart := false, narrowed := true }
def FnExactContradictionGroupsUptoSaid : Prop := fnExactContradictionGroupsUptoRow.holds Try.pinned (OpenSpec.upto fnExactContradictionGroupsSpec)

end Rows
end Go.Proofs.Ythcjembekadijaa
