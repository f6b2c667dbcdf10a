/-
  No cell of these rows narrows 'for every input' (looked for: loops, veiled, ifaces, maps, wideKeys, modest, calm, conditions, laid).
  DERIVED. THE GIVEN ROWS OF THIS SEAT. 12 by the template 'for every input the law returns true; each argument reads behind the call as it read before'; 0 by the template 'total and deterministic' (their statements: YtlgfaabobpnflaaTotals.lean).
  GIVEN WITH THE SEED: the statements are not yours to turn. If you find one false, say at which input.
  Laid BY PROGRAM, IN A SANDBOX (cutbox-rows.mjs): the forced cells as the released guide's own fill.sh prints them over the translation 8e743361b666f389… (all of the seat's roots in one cut). By AI agents, Wed Nov 11 2026. No macro, syntax, notation, axiom, sorry.
-/
import Derived.Test.YtlgfaabobpnflaaChecked
import GoSem.Claim
import GoSem.ClaimJoined
import GoSem.ClaimMapViews
import Derived.JoinedTies
import Derived.KernelRfl
namespace Go.Proofs.Ytlgfaabobpnflaa
/- THE CELL 'sum', in the pinned program and in every row, IS THE sha256 OF THE DUMP (.gsa) THAT YtlgfaabobpnflaaProg.lean LOADS. Nothing in Lean hashes anything: it is a label: what it is worth is what the hold of that sum in a sandbox is worth. -/
noncomputable def Try.pinned : Pinned := { name := "ytlgfaabobpnflaa", sum := "8e743361b666f3897daf968b5550f2c8f6745c996744b2c4be40e6f773d5c189", checked := Try.checked }
namespace Rows
def none {H : Type} : Left H := { results := [], args := [] }

/-- 'laws.FnExactContextOrder': WHATEVER THE INPUT: true; the input reads as it did. -/
def fnExactContextOrderSpec : ChangeSpec := { name := "fnExactContextOrder", fn := fun _ => fun
  | [d] => { results := [.lit (.bool true)], args := [d] }
  | _ => none }
def fnExactContextOrderRow : OpenClaim := { program := "ytlgfaabobpnflaa", sum := "8e743361b666f3897daf968b5550f2c8f6745c996744b2c4be40e6f773d5c189", func := "loop.example/g00876/laws.FnExactContextOrder", spec := "fnExactContextOrder", unfollowed := true, recurses := true, apart := false }
def FnExactContextOrderSaid : Prop := fnExactContextOrderRow.holds Try.pinned (OpenSpec.ofChange fnExactContextOrderSpec)

/-- ITS FALSE NEIGHBOUR: 'it returns false'. Refute it at one input. -/
def fnExactContextOrderWrong : ChangeSpec := { name := "fnExactContextOrder", fn := fun _ => fun
  | [d] => { results := [.lit (.bool false)], args := [d] }
  | _ => none }
def FnExactContextOrderWrongFalsely : Prop := fnExactContextOrderRow.holds Try.pinned (OpenSpec.ofChange fnExactContextOrderWrong)

/-- 'laws.FnExactRedundantRelations': WHATEVER THE INPUT: true; the input reads as it did. -/
def fnExactRedundantRelationsSpec : ChangeSpec := { name := "fnExactRedundantRelations", fn := fun _ => fun
  | [d] => { results := [.lit (.bool true)], args := [d] }
  | _ => none }
def fnExactRedundantRelationsRow : OpenClaim := { program := "ytlgfaabobpnflaa", sum := "8e743361b666f3897daf968b5550f2c8f6745c996744b2c4be40e6f773d5c189", func := "loop.example/g00876/laws.FnExactRedundantRelations", spec := "fnExactRedundantRelations", unfollowed := true, recurses := true, apart := false }
def FnExactRedundantRelationsSaid : Prop := fnExactRedundantRelationsRow.holds Try.pinned (OpenSpec.ofChange fnExactRedundantRelationsSpec)

/-- ITS FALSE NEIGHBOUR: 'it returns false'. Refute it at one input. -/
def fnExactRedundantRelationsWrong : ChangeSpec := { name := "fnExactRedundantRelations", fn := fun _ => fun
  | [d] => { results := [.lit (.bool false)], args := [d] }
  | _ => none }
def FnExactRedundantRelationsWrongFalsely : Prop := fnExactRedundantRelationsRow.holds Try.pinned (OpenSpec.ofChange fnExactRedundantRelationsWrong)

/-- 'laws.FnExactReduceRecord': WHATEVER THE INPUT: true; the input reads as it did. -/
def fnExactReduceRecordSpec : ChangeSpec := { name := "fnExactReduceRecord", fn := fun _ => fun
  | [d] => { results := [.lit (.bool true)], args := [d] }
  | _ => none }
def fnExactReduceRecordRow : OpenClaim := { program := "ytlgfaabobpnflaa", sum := "8e743361b666f3897daf968b5550f2c8f6745c996744b2c4be40e6f773d5c189", func := "loop.example/g00876/laws.FnExactReduceRecord", spec := "fnExactReduceRecord", unfollowed := true, recurses := true, apart := false }
def FnExactReduceRecordSaid : Prop := fnExactReduceRecordRow.holds Try.pinned (OpenSpec.ofChange fnExactReduceRecordSpec)

/-- ITS FALSE NEIGHBOUR: 'it returns false'. Refute it at one input. -/
def fnExactReduceRecordWrong : ChangeSpec := { name := "fnExactReduceRecord", fn := fun _ => fun
  | [d] => { results := [.lit (.bool false)], args := [d] }
  | _ => none }
def FnExactReduceRecordWrongFalsely : Prop := fnExactReduceRecordRow.holds Try.pinned (OpenSpec.ofChange fnExactReduceRecordWrong)

/-- 'laws.FnExactCloseRecord': WHATEVER THE INPUT: true; the input reads as it did. -/
def fnExactCloseRecordSpec : ChangeSpec := { name := "fnExactCloseRecord", fn := fun _ => fun
  | [d] => { results := [.lit (.bool true)], args := [d] }
  | _ => none }
def fnExactCloseRecordRow : OpenClaim := { program := "ytlgfaabobpnflaa", sum := "8e743361b666f3897daf968b5550f2c8f6745c996744b2c4be40e6f773d5c189", func := "loop.example/g00876/laws.FnExactCloseRecord", spec := "fnExactCloseRecord", unfollowed := true, recurses := true, apart := false }
def FnExactCloseRecordSaid : Prop := fnExactCloseRecordRow.holds Try.pinned (OpenSpec.ofChange fnExactCloseRecordSpec)

/-- ITS FALSE NEIGHBOUR: 'it returns false'. Refute it at one input. -/
def fnExactCloseRecordWrong : ChangeSpec := { name := "fnExactCloseRecord", fn := fun _ => fun
  | [d] => { results := [.lit (.bool false)], args := [d] }
  | _ => none }
def FnExactCloseRecordWrongFalsely : Prop := fnExactCloseRecordRow.holds Try.pinned (OpenSpec.ofChange fnExactCloseRecordWrong)

/-- 'laws.FnExactDepthOf': WHATEVER THE INPUT: true; the input reads as it did. -/
def fnExactDepthOfSpec : ChangeSpec := { name := "fnExactDepthOf", fn := fun _ => fun
  | [d1, d2] => { results := [.lit (.bool true)], args := [d1, d2] }
  | _ => none }
def fnExactDepthOfRow : OpenClaim := { program := "ytlgfaabobpnflaa", sum := "8e743361b666f3897daf968b5550f2c8f6745c996744b2c4be40e6f773d5c189", func := "loop.example/g00876/laws.FnExactDepthOf", spec := "fnExactDepthOf", unfollowed := true, recurses := true, apart := false }
def FnExactDepthOfSaid : Prop := fnExactDepthOfRow.holds Try.pinned (OpenSpec.ofChange fnExactDepthOfSpec)

/-- ITS FALSE NEIGHBOUR: 'it returns false'. Refute it at one input. -/
def fnExactDepthOfWrong : ChangeSpec := { name := "fnExactDepthOf", fn := fun _ => fun
  | [d1, d2] => { results := [.lit (.bool false)], args := [d1, d2] }
  | _ => none }
def FnExactDepthOfWrongFalsely : Prop := fnExactDepthOfRow.holds Try.pinned (OpenSpec.ofChange fnExactDepthOfWrong)

/-- 'laws.FnExactMatrixRows': WHATEVER THE INPUT: true; the input reads as it did. -/
def fnExactMatrixRowsSpec : ChangeSpec := { name := "fnExactMatrixRows", fn := fun _ => fun
  | [d] => { results := [.lit (.bool true)], args := [d] }
  | _ => none }
def fnExactMatrixRowsRow : OpenClaim := { program := "ytlgfaabobpnflaa", sum := "8e743361b666f3897daf968b5550f2c8f6745c996744b2c4be40e6f773d5c189", func := "loop.example/g00876/laws.FnExactMatrixRows", spec := "fnExactMatrixRows", unfollowed := true, recurses := true, apart := false }
def FnExactMatrixRowsSaid : Prop := fnExactMatrixRowsRow.holds Try.pinned (OpenSpec.ofChange fnExactMatrixRowsSpec)

/-- ITS FALSE NEIGHBOUR: 'it returns false'. Refute it at one input. -/
def fnExactMatrixRowsWrong : ChangeSpec := { name := "fnExactMatrixRows", fn := fun _ => fun
  | [d] => { results := [.lit (.bool false)], args := [d] }
  | _ => none }
def FnExactMatrixRowsWrongFalsely : Prop := fnExactMatrixRowsRow.holds Try.pinned (OpenSpec.ofChange fnExactMatrixRowsWrong)

/-- 'laws.FnExactMatrixLinks': WHATEVER THE INPUT: true; the input reads as it did. -/
def fnExactMatrixLinksSpec : ChangeSpec := { name := "fnExactMatrixLinks", fn := fun _ => fun
  | [d] => { results := [.lit (.bool true)], args := [d] }
  | _ => none }
def fnExactMatrixLinksRow : OpenClaim := { program := "ytlgfaabobpnflaa", sum := "8e743361b666f3897daf968b5550f2c8f6745c996744b2c4be40e6f773d5c189", func := "loop.example/g00876/laws.FnExactMatrixLinks", spec := "fnExactMatrixLinks", unfollowed := true, recurses := true, apart := false }
def FnExactMatrixLinksSaid : Prop := fnExactMatrixLinksRow.holds Try.pinned (OpenSpec.ofChange fnExactMatrixLinksSpec)

/-- ITS FALSE NEIGHBOUR: 'it returns false'. Refute it at one input. -/
def fnExactMatrixLinksWrong : ChangeSpec := { name := "fnExactMatrixLinks", fn := fun _ => fun
  | [d] => { results := [.lit (.bool false)], args := [d] }
  | _ => none }
def FnExactMatrixLinksWrongFalsely : Prop := fnExactMatrixLinksRow.holds Try.pinned (OpenSpec.ofChange fnExactMatrixLinksWrong)

/-- 'laws.FnExactLongestChain': WHATEVER THE INPUT: true; the input reads as it did. -/
def fnExactLongestChainSpec : ChangeSpec := { name := "fnExactLongestChain", fn := fun _ => fun
  | [d] => { results := [.lit (.bool true)], args := [d] }
  | _ => none }
def fnExactLongestChainRow : OpenClaim := { program := "ytlgfaabobpnflaa", sum := "8e743361b666f3897daf968b5550f2c8f6745c996744b2c4be40e6f773d5c189", func := "loop.example/g00876/laws.FnExactLongestChain", spec := "fnExactLongestChain", unfollowed := true, recurses := true, apart := false }
def FnExactLongestChainSaid : Prop := fnExactLongestChainRow.holds Try.pinned (OpenSpec.ofChange fnExactLongestChainSpec)

/-- ITS FALSE NEIGHBOUR: 'it returns false'. Refute it at one input. -/
def fnExactLongestChainWrong : ChangeSpec := { name := "fnExactLongestChain", fn := fun _ => fun
  | [d] => { results := [.lit (.bool false)], args := [d] }
  | _ => none }
def FnExactLongestChainWrongFalsely : Prop := fnExactLongestChainRow.holds Try.pinned (OpenSpec.ofChange fnExactLongestChainWrong)

/-- 'laws.FnExactShortestChain': WHATEVER THE INPUT: true; the input reads as it did. -/
def fnExactShortestChainSpec : ChangeSpec := { name := "fnExactShortestChain", fn := fun _ => fun
  | [d1, d2, d3] => { results := [.lit (.bool true)], args := [d1, d2, d3] }
  | _ => none }
def fnExactShortestChainRow : OpenClaim := { program := "ytlgfaabobpnflaa", sum := "8e743361b666f3897daf968b5550f2c8f6745c996744b2c4be40e6f773d5c189", func := "loop.example/g00876/laws.FnExactShortestChain", spec := "fnExactShortestChain", unfollowed := true, recurses := true, apart := false }
def FnExactShortestChainSaid : Prop := fnExactShortestChainRow.holds Try.pinned (OpenSpec.ofChange fnExactShortestChainSpec)

/-- ITS FALSE NEIGHBOUR: 'it returns false'. Refute it at one input. -/
def fnExactShortestChainWrong : ChangeSpec := { name := "fnExactShortestChain", fn := fun _ => fun
  | [d1, d2, d3] => { results := [.lit (.bool false)], args := [d1, d2, d3] }
  | _ => none }
def FnExactShortestChainWrongFalsely : Prop := fnExactShortestChainRow.holds Try.pinned (OpenSpec.ofChange fnExactShortestChainWrong)

/-- 'laws.FnExactShortestCycle': WHATEVER THE INPUT: true; the input reads as it did. -/
def fnExactShortestCycleSpec : ChangeSpec := { name := "fnExactShortestCycle", fn := fun _ => fun
  | [d] => { results := [.lit (.bool true)], args := [d] }
  | _ => none }
def fnExactShortestCycleRow : OpenClaim := { program := "ytlgfaabobpnflaa", sum := "8e743361b666f3897daf968b5550f2c8f6745c996744b2c4be40e6f773d5c189", func := "loop.example/g00876/laws.FnExactShortestCycle", spec := "fnExactShortestCycle", unfollowed := true, recurses := true, apart := false }
def FnExactShortestCycleSaid : Prop := fnExactShortestCycleRow.holds Try.pinned (OpenSpec.ofChange fnExactShortestCycleSpec)

/-- ITS FALSE NEIGHBOUR: 'it returns false'. Refute it at one input. -/
def fnExactShortestCycleWrong : ChangeSpec := { name := "fnExactShortestCycle", fn := fun _ => fun
  | [d] => { results := [.lit (.bool false)], args := [d] }
  | _ => none }
def FnExactShortestCycleWrongFalsely : Prop := fnExactShortestCycleRow.holds Try.pinned (OpenSpec.ofChange fnExactShortestCycleWrong)

/-- 'laws.FnOrder': WHATEVER THE INPUT: true; the input reads as it did. -/
def fnOrderSpec : ChangeSpec := { name := "fnOrder", fn := fun _ => fun
  | [d] => { results := [.lit (.bool true)], args := [d] }
  | _ => none }
def fnOrderRow : OpenClaim := { program := "ytlgfaabobpnflaa", sum := "8e743361b666f3897daf968b5550f2c8f6745c996744b2c4be40e6f773d5c189", func := "loop.example/g00876/laws.FnOrder", spec := "fnOrder", unfollowed := true, recurses := true, apart := false }
def FnOrderSaid : Prop := fnOrderRow.holds Try.pinned (OpenSpec.ofChange fnOrderSpec)

/-- ITS FALSE NEIGHBOUR: 'it returns false'. Refute it at one input. -/
def fnOrderWrong : ChangeSpec := { name := "fnOrder", fn := fun _ => fun
  | [d] => { results := [.lit (.bool false)], args := [d] }
  | _ => none }
def FnOrderWrongFalsely : Prop := fnOrderRow.holds Try.pinned (OpenSpec.ofChange fnOrderWrong)

/-- 'laws.FnMatrix': WHATEVER THE INPUT: true; the input reads as it did. -/
def fnMatrixSpec : ChangeSpec := { name := "fnMatrix", fn := fun _ => fun
  | [d] => { results := [.lit (.bool true)], args := [d] }
  | _ => none }
def fnMatrixRow : OpenClaim := { program := "ytlgfaabobpnflaa", sum := "8e743361b666f3897daf968b5550f2c8f6745c996744b2c4be40e6f773d5c189", func := "loop.example/g00876/laws.FnMatrix", spec := "fnMatrix", unfollowed := true, recurses := true, apart := false }
def FnMatrixSaid : Prop := fnMatrixRow.holds Try.pinned (OpenSpec.ofChange fnMatrixSpec)

/-- ITS FALSE NEIGHBOUR: 'it returns false'. Refute it at one input. -/
def fnMatrixWrong : ChangeSpec := { name := "fnMatrix", fn := fun _ => fun
  | [d] => { results := [.lit (.bool false)], args := [d] }
  | _ => none }
def FnMatrixWrongFalsely : Prop := fnMatrixRow.holds Try.pinned (OpenSpec.ofChange fnMatrixWrong)

/- THE SECOND FORM. 'bulk': how many values and letters a reading holds, each counted each time it is reached (what is shared counts as often as it is met; a slice's spare places count too). A statement '..UptoSaid' is the law's where the arguments, and the package variables that the reading takes, are together of bulk at most 1048576: NARROWER than '..Said'. Prove '..Said' where nothing that the law and all that it calls make is longer than what came in: it says more and counts as full. Else prove '..UptoSaid'. A law counts once. -/
mutual
def uptoBulk {H : Type} : DataW H → Nat
  | .lit (.string bytes) => bytes.length + 1
  | .lit _ => 1
  | .nil => 1
  | .ptr d => uptoBulk d + 1
  | .slice elems spare => uptoBulkAll elems + uptoBulkAll spare + 1
  | .agg parts => uptoBulkAll parts + 1
  | .iface _ d => uptoBulk d + 1
  | .map entries => uptoBulkEntries entries + 1
  | .held _ => 1
def uptoBulkAll {H : Type} : List (DataW H) → Nat
  | [] => 0
  | d :: r => uptoBulk d + uptoBulkAll r
def uptoBulkEntries {H : Type} : List (Lit × DataW H) → Nat
  | [] => 0
  | x :: r => uptoBulkEntry x + uptoBulkEntries r
def uptoBulkEntry {H : Type} : Lit × DataW H → Nat
  | (.string bytes, d) => bytes.length + uptoBulk d + 1
  | (_, d) => uptoBulk d + 1
 end
def uptoSmall : (H : Type) → List (DataW H) → Bool := fun _ ds => decide (uptoBulkAll ds ≤ 1048576)
def OpenSpec.upto (s : _root_.Go.ChangeSpec) : _root_.Go.OpenSpec := { _root_.Go.OpenSpec.ofChange s with cond := some uptoSmall }

/-- 'laws.FnExactContextOrder', WHERE WHAT IT READS IS OF BULK AT MOST 1048576: true; the input reads as it did. -/
def fnExactContextOrderUptoRow : OpenClaim := { program := "ytlgfaabobpnflaa", sum := "8e743361b666f3897daf968b5550f2c8f6745c996744b2c4be40e6f773d5c189", func := "loop.example/g00876/laws.FnExactContextOrder", spec := "fnExactContextOrder", unfollowed := true, recurses := true, apart := false, narrowed := true }
def FnExactContextOrderUptoSaid : Prop := fnExactContextOrderUptoRow.holds Try.pinned (OpenSpec.upto fnExactContextOrderSpec)

/-- 'laws.FnExactRedundantRelations', WHERE WHAT IT READS IS OF BULK AT MOST 1048576: true; the input reads as it did. -/
def fnExactRedundantRelationsUptoRow : OpenClaim := { program := "ytlgfaabobpnflaa", sum := "8e743361b666f3897daf968b5550f2c8f6745c996744b2c4be40e6f773d5c189", func := "loop.example/g00876/laws.FnExactRedundantRelations", spec := "fnExactRedundantRelations", unfollowed := true, recurses := true, apart := false, narrowed := true }
def FnExactRedundantRelationsUptoSaid : Prop := fnExactRedundantRelationsUptoRow.holds Try.pinned (OpenSpec.upto fnExactRedundantRelationsSpec)

/-- 'laws.FnExactReduceRecord', WHERE WHAT IT READS IS OF BULK AT MOST 1048576: true; the input reads as it did. -/
def fnExactReduceRecordUptoRow : OpenClaim := { program := "ytlgfaabobpnflaa", sum := "8e743361b666f3897daf968b5550f2c8f6745c996744b2c4be40e6f773d5c189", func := "loop.example/g00876/laws.FnExactReduceRecord", spec := "fnExactReduceRecord", unfollowed := true, recurses := true, apart := false, narrowed := true }
def FnExactReduceRecordUptoSaid : Prop := fnExactReduceRecordUptoRow.holds Try.pinned (OpenSpec.upto fnExactReduceRecordSpec)

/-- 'laws.FnExactCloseRecord', WHERE WHAT IT READS IS OF BULK AT MOST 1048576: true; the input reads as it did. -/
def fnExactCloseRecordUptoRow : OpenClaim := { program := "ytlgfaabobpnflaa", sum := "8e743361b666f3897daf968b5550f2c8f6745c996744b2c4be40e6f773d5c189", func := "loop.example/g00876/laws.FnExactCloseRecord", spec := "fnExactCloseRecord", unfollowed := true, recurses := true, apart := false, narrowed := true }
def FnExactCloseRecordUptoSaid : Prop := fnExactCloseRecordUptoRow.holds Try.pinned (OpenSpec.upto fnExactCloseRecordSpec)

/-- 'laws.FnExactDepthOf', WHERE WHAT IT READS IS OF BULK AT MOST 1048576: true; the input reads as it did. -/
def fnExactDepthOfUptoRow : OpenClaim := { program := "ytlgfaabobpnflaa", sum := "8e743361b666f3897daf968b5550f2c8f6745c996744b2c4be40e6f773d5c189", func := "loop.example/g00876/laws.FnExactDepthOf", spec := "fnExactDepthOf", unfollowed := true, recurses := true, apart := false, narrowed := true }
def FnExactDepthOfUptoSaid : Prop := fnExactDepthOfUptoRow.holds Try.pinned (OpenSpec.upto fnExactDepthOfSpec)

/-- 'laws.FnExactMatrixRows', WHERE WHAT IT READS IS OF BULK AT MOST 1048576: true; the input reads as it did. -/
def fnExactMatrixRowsUptoRow : OpenClaim := { program := "ytlgfaabobpnflaa", sum := "8e743361b666f3897daf968b5550f2c8f6745c996744b2c4be40e6f773d5c189", func := "loop.example/g00876/laws.FnExactMatrixRows", spec := "fnExactMatrixRows", unfollowed := true, recurses := true, apart := false, narrowed := true }
def FnExactMatrixRowsUptoSaid : Prop := fnExactMatrixRowsUptoRow.holds Try.pinned (OpenSpec.upto fnExactMatrixRowsSpec)

/-- 'laws.FnExactMatrixLinks', WHERE WHAT IT READS IS OF BULK AT MOST 1048576: true; the input reads as it did. -/
def fnExactMatrixLinksUptoRow : OpenClaim := { program := "ytlgfaabobpnflaa", sum := "8e743361b666f3897daf968b5550f2c8f6745c996744b2c4be40e6f773d5c189", func := "loop.example/g00876/laws.FnExactMatrixLinks", spec := "fnExactMatrixLinks", unfollowed := true, recurses := true, apart := false, narrowed := true }
def FnExactMatrixLinksUptoSaid : Prop := fnExactMatrixLinksUptoRow.holds Try.pinned (OpenSpec.upto fnExactMatrixLinksSpec)

/-- 'laws.FnExactLongestChain', WHERE WHAT IT READS IS OF BULK AT MOST 1048576: true; the input reads as it did. -/
def fnExactLongestChainUptoRow : OpenClaim := { program := "ytlgfaabobpnflaa", sum := "8e743361b666f3897daf968b5550f2c8f6745c996744b2c4be40e6f773d5c189", func := "loop.example/g00876/laws.FnExactLongestChain", spec := "fnExactLongestChain", unfollowed := true, recurses := true, apart := false, narrowed := true }
def FnExactLongestChainUptoSaid : Prop := fnExactLongestChainUptoRow.holds Try.pinned (OpenSpec.upto fnExactLongestChainSpec)

/-- 'laws.FnExactShortestChain', WHERE WHAT IT READS IS OF BULK AT MOST 1048576: true; the input reads as it did. -/
def fnExactShortestChainUptoRow : OpenClaim := { program := "ytlgfaabobpnflaa", sum := "8e743361b666f3897daf968b5550f2c8f6745c996744b2c4be40e6f773d5c189", func := "loop.example/g00876/laws.FnExactShortestChain", spec := "fnExactShortestChain", unfollowed := true, recurses := true, apart := false, narrowed := true }
def FnExactShortestChainUptoSaid : Prop := fnExactShortestChainUptoRow.holds Try.pinned (OpenSpec.upto fnExactShortestChainSpec)

/-- 'laws.FnExactShortestCycle', WHERE WHAT IT READS IS OF BULK AT MOST 1048576: true; the input reads as it did. -/
def fnExactShortestCycleUptoRow : OpenClaim := { program := "ytlgfaabobpnflaa", sum := "8e743361b666f3897daf968b5550f2c8f6745c996744b2c4be40e6f773d5c189", func := "loop.example/g00876/laws.FnExactShortestCycle", spec := "fnExactShortestCycle", unfollowed := true, recurses := true, apart := false, narrowed := true }
def FnExactShortestCycleUptoSaid : Prop := fnExactShortestCycleUptoRow.holds Try.pinned (OpenSpec.upto fnExactShortestCycleSpec)

/-- 'laws.FnOrder', WHERE WHAT IT READS IS OF BULK AT MOST 1048576: true; the input reads as it did. -/
def fnOrderUptoRow : OpenClaim := { program := "ytlgfaabobpnflaa", sum := "8e743361b666f3897daf968b5550f2c8f6745c996744b2c4be40e6f773d5c189", func := "loop.example/g00876/laws.FnOrder", spec := "fnOrder", unfollowed := true, recurses := true, apart := false, narrowed := true }
def FnOrderUptoSaid : Prop := fnOrderUptoRow.holds Try.pinned (OpenSpec.upto fnOrderSpec)

/-- 'laws.FnMatrix', WHERE WHAT IT READS IS OF BULK AT MOST 1048576: true; the input reads as it did. -/
def fnMatrixUptoRow : OpenClaim := { program := "ytlgfaabobpnflaa", sum := "8e743361b666f3897daf968b5550f2c8f6745c996744b2c4be40e6f773d5c189", func := "loop.example/g00876/laws.FnMatrix", spec := "fnMatrix", unfollowed := true, recurses := true, apart := false, narrowed := true }
def FnMatrixUptoSaid : Prop := fnMatrixUptoRow.holds Try.pinned (OpenSpec.upto fnMatrixSpec)

end Rows
end Go.Proofs.Ytlgfaabobpnflaa
