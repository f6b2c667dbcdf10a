/-
  No cell of these rows narrows 'for every input' (looked for: loops, veiled, ifaces, maps, wideKeys, modest, calm, conditions, laid).
  DERIVED. THE GIVEN ROWS OF THIS SEAT. 5 by the template 'for every input the law returns true; each argument reads behind the call as it read before'; 0 by the template 'total and deterministic' (their statements: YtaikphcemldikabTotals.lean).
  GIVEN WITH THE SEED: the statements are not yours to turn. If you find one false, say at which input.
  Laid BY PROGRAM, IN A SANDBOX (cutbox-rows.mjs): the forced cells as the released guide's own fill.sh prints them over the translation 3316a25ed1147a27… (all of the seat's roots in one cut). By AI agents, Wed Nov 11 2026. No macro, syntax, notation, axiom, sorry.
-/
import Derived.Test.YtaikphcemldikabChecked
import GoSem.Claim
import GoSem.ClaimJoined
import GoSem.ClaimMapViews
import Derived.JoinedTies
import Derived.KernelRfl
namespace Go.Proofs.Ytaikphcemldikab
/- THE CELL 'sum', in the pinned program and in every row, IS THE sha256 OF THE DUMP (.gsa) THAT YtaikphcemldikabProg.lean LOADS. Nothing in Lean hashes anything: it is a label: what it is worth is what the hold of that sum in a sandbox is worth. -/
noncomputable def Try.pinned : Pinned := { name := "ytaikphcemldikab", sum := "3316a25ed1147a278bdb9e5efa95aea6c0b667c4a735d865c3ea371dd9f44b2f", checked := Try.checked }
namespace Rows
def none {H : Type} : Left H := { results := [], args := [] }

/-- 'laws.FnExactShortestChain': WHATEVER THE INPUT: true; the input reads as it did. -/
def fnExactShortestChainSpec : ChangeSpec := { name := "fnExactShortestChain", fn := fun _ => fun
  | [d1, d2, d3] => { results := [.lit (.bool true)], args := [d1, d2, d3] }
  | _ => none }
def fnExactShortestChainRow : OpenClaim := { program := "ytaikphcemldikab", sum := "3316a25ed1147a278bdb9e5efa95aea6c0b667c4a735d865c3ea371dd9f44b2f", func := "loop.example/g00876/laws.FnExactShortestChain", spec := "fnExactShortestChain", unfollowed := true, recurses := true, apart := false }
def FnExactShortestChainSaid : Prop := fnExactShortestChainRow.holds Try.pinned (OpenSpec.ofChange fnExactShortestChainSpec)

/-- ITS FALSE NEIGHBOUR: 'it returns false'. Refute it at one input. -/
def fnExactShortestChainWrong : ChangeSpec := { name := "fnExactShortestChain", fn := fun _ => fun
  | [d1, d2, d3] => { results := [.lit (.bool false)], args := [d1, d2, d3] }
  | _ => none }
def FnExactShortestChainWrongFalsely : Prop := fnExactShortestChainRow.holds Try.pinned (OpenSpec.ofChange fnExactShortestChainWrong)

/-- 'laws.FnExactShortestCycle': WHATEVER THE INPUT: true; the input reads as it did. -/
def fnExactShortestCycleSpec : ChangeSpec := { name := "fnExactShortestCycle", fn := fun _ => fun
  | [d] => { results := [.lit (.bool true)], args := [d] }
  | _ => none }
def fnExactShortestCycleRow : OpenClaim := { program := "ytaikphcemldikab", sum := "3316a25ed1147a278bdb9e5efa95aea6c0b667c4a735d865c3ea371dd9f44b2f", func := "loop.example/g00876/laws.FnExactShortestCycle", spec := "fnExactShortestCycle", unfollowed := true, recurses := true, apart := false }
def FnExactShortestCycleSaid : Prop := fnExactShortestCycleRow.holds Try.pinned (OpenSpec.ofChange fnExactShortestCycleSpec)

/-- ITS FALSE NEIGHBOUR: 'it returns false'. Refute it at one input. -/
def fnExactShortestCycleWrong : ChangeSpec := { name := "fnExactShortestCycle", fn := fun _ => fun
  | [d] => { results := [.lit (.bool false)], args := [d] }
  | _ => none }
def FnExactShortestCycleWrongFalsely : Prop := fnExactShortestCycleRow.holds Try.pinned (OpenSpec.ofChange fnExactShortestCycleWrong)

/-- 'laws.FnExactUnrelatedPairs': WHATEVER THE INPUT: true; the input reads as it did. -/
def fnExactUnrelatedPairsSpec : ChangeSpec := { name := "fnExactUnrelatedPairs", fn := fun _ => fun
  | [d] => { results := [.lit (.bool true)], args := [d] }
  | _ => none }
def fnExactUnrelatedPairsRow : OpenClaim := { program := "ytaikphcemldikab", sum := "3316a25ed1147a278bdb9e5efa95aea6c0b667c4a735d865c3ea371dd9f44b2f", func := "loop.example/g00876/laws.FnExactUnrelatedPairs", spec := "fnExactUnrelatedPairs", unfollowed := true, recurses := true, apart := false }
def FnExactUnrelatedPairsSaid : Prop := fnExactUnrelatedPairsRow.holds Try.pinned (OpenSpec.ofChange fnExactUnrelatedPairsSpec)

/-- ITS FALSE NEIGHBOUR: 'it returns false'. Refute it at one input. -/
def fnExactUnrelatedPairsWrong : ChangeSpec := { name := "fnExactUnrelatedPairs", fn := fun _ => fun
  | [d] => { results := [.lit (.bool false)], args := [d] }
  | _ => none }
def FnExactUnrelatedPairsWrongFalsely : Prop := fnExactUnrelatedPairsRow.holds Try.pinned (OpenSpec.ofChange fnExactUnrelatedPairsWrong)

/-- 'laws.FnExactContextOrder': WHATEVER THE INPUT: true; the input reads as it did. -/
def fnExactContextOrderSpec : ChangeSpec := { name := "fnExactContextOrder", fn := fun _ => fun
  | [d] => { results := [.lit (.bool true)], args := [d] }
  | _ => none }
def fnExactContextOrderRow : OpenClaim := { program := "ytaikphcemldikab", sum := "3316a25ed1147a278bdb9e5efa95aea6c0b667c4a735d865c3ea371dd9f44b2f", func := "loop.example/g00876/laws.FnExactContextOrder", spec := "fnExactContextOrder", unfollowed := true, recurses := true, apart := false }
def FnExactContextOrderSaid : Prop := fnExactContextOrderRow.holds Try.pinned (OpenSpec.ofChange fnExactContextOrderSpec)

/-- ITS FALSE NEIGHBOUR: 'it returns false'. Refute it at one input. -/
def fnExactContextOrderWrong : ChangeSpec := { name := "fnExactContextOrder", fn := fun _ => fun
  | [d] => { results := [.lit (.bool false)], args := [d] }
  | _ => none }
def FnExactContextOrderWrongFalsely : Prop := fnExactContextOrderRow.holds Try.pinned (OpenSpec.ofChange fnExactContextOrderWrong)

/-- 'laws.FnOrder': WHATEVER THE INPUT: true; the input reads as it did. -/
def fnOrderSpec : ChangeSpec := { name := "fnOrder", fn := fun _ => fun
  | [d] => { results := [.lit (.bool true)], args := [d] }
  | _ => none }
def fnOrderRow : OpenClaim := { program := "ytaikphcemldikab", sum := "3316a25ed1147a278bdb9e5efa95aea6c0b667c4a735d865c3ea371dd9f44b2f", func := "loop.example/g00876/laws.FnOrder", spec := "fnOrder", unfollowed := true, recurses := true, apart := false }
def FnOrderSaid : Prop := fnOrderRow.holds Try.pinned (OpenSpec.ofChange fnOrderSpec)

/-- ITS FALSE NEIGHBOUR: 'it returns false'. Refute it at one input. -/
def fnOrderWrong : ChangeSpec := { name := "fnOrder", fn := fun _ => fun
  | [d] => { results := [.lit (.bool false)], args := [d] }
  | _ => none }
def FnOrderWrongFalsely : Prop := fnOrderRow.holds Try.pinned (OpenSpec.ofChange fnOrderWrong)

/- THE SECOND FORM. 'bulk': how many values and letters a reading holds, each counted each time it is reached (what is shared counts as often as it is met; a slice's spare places count too). A statement '..UptoSaid' is the law's where the arguments, and the package variables that the reading takes, are together of bulk at most 1048576: NARROWER than '..Said'. Prove '..Said' where nothing that the law and all that it calls make is longer than what came in: it says more and counts as full. Else prove '..UptoSaid'. A law counts once. -/
mutual
def uptoBulk {H : Type} : DataW H → Nat
  | .lit (.string bytes) => bytes.length + 1
  | .lit _ => 1
  | .nil => 1
  | .ptr d => uptoBulk d + 1
  | .slice elems spare => uptoBulkAll elems + uptoBulkAll spare + 1
  | .agg parts => uptoBulkAll parts + 1
  | .iface _ d => uptoBulk d + 1
  | .map entries => uptoBulkEntries entries + 1
  | .held _ => 1
def uptoBulkAll {H : Type} : List (DataW H) → Nat
  | [] => 0
  | d :: r => uptoBulk d + uptoBulkAll r
def uptoBulkEntries {H : Type} : List (Lit × DataW H) → Nat
  | [] => 0
  | x :: r => uptoBulkEntry x + uptoBulkEntries r
def uptoBulkEntry {H : Type} : Lit × DataW H → Nat
  | (.string bytes, d) => bytes.length + uptoBulk d + 1
  | (_, d) => uptoBulk d + 1
 end
def uptoSmall : (H : Type) → List (DataW H) → Bool := fun _ ds => decide (uptoBulkAll ds ≤ 1048576)
def OpenSpec.upto (s : _root_.Go.ChangeSpec) : _root_.Go.OpenSpec := { _root_.Go.OpenSpec.ofChange s with cond := some uptoSmall }

/-- 'laws.FnExactShortestChain', WHERE WHAT IT READS IS OF BULK AT MOST 1048576: true; the input reads as it did. -/
def fnExactShortestChainUptoRow : OpenClaim := { program := "ytaikphcemldikab", sum := "3316a25ed1147a278bdb9e5efa95aea6c0b667c4a735d865c3ea371dd9f44b2f", func := "loop.example/g00876/laws.FnExactShortestChain", spec := "fnExactShortestChain", unfollowed := true, recurses := true, apart := false, narrowed := true }
def FnExactShortestChainUptoSaid : Prop := fnExactShortestChainUptoRow.holds Try.pinned (OpenSpec.upto fnExactShortestChainSpec)

/-- 'laws.FnExactShortestCycle', WHERE WHAT IT READS IS OF BULK AT MOST 1048576: true; the input reads as it did. -/
def fnExactShortestCycleUptoRow : OpenClaim := { program := "ytaikphcemldikab", sum := "3316a25ed1147a278bdb9e5efa95aea6c0b667c4a735d865c3ea371dd9f44b2f", func := "loop.example/g00876/laws.FnExactShortestCycle", spec := "fnExactShortestCycle", unfollowed := true, recurses := true, apart := false, narrowed := true }
def FnExactShortestCycleUptoSaid : Prop := fnExactShortestCycleUptoRow.holds Try.pinned (OpenSpec.upto fnExactShortestCycleSpec)

/-- 'laws.FnExactUnrelatedPairs', WHERE WHAT IT READS IS OF BULK AT MOST 1048576: true; the input reads as it did. -/
def fnExactUnrelatedPairsUptoRow : OpenClaim := { program := "ytaikphcemldikab", sum := "3316a25ed1147a278bdb9e5efa95aea6c0b667c4a735d865c3ea371dd9f44b2f", func := "loop.example/g00876/laws.FnExactUnrelatedPairs", spec := "fnExactUnrelatedPairs", unfollowed := true, recurses := true, apart := false, narrowed := true }
def FnExactUnrelatedPairsUptoSaid : Prop := fnExactUnrelatedPairsUptoRow.holds Try.pinned (OpenSpec.upto fnExactUnrelatedPairsSpec)

/-- 'laws.FnExactContextOrder', WHERE WHAT IT READS IS OF BULK AT MOST 1048576: true; the input reads as it did. -/
def fnExactContextOrderUptoRow : OpenClaim := { program := "ytaikphcemldikab", sum := "3316a25ed1147a278bdb9e5efa95aea6c0b667c4a735d865c3ea371dd9f44b2f", func := "loop.example/g00876/laws.FnExactContextOrder", spec := "fnExactContextOrder", unfollowed := true, recurses := true, apart := false, narrowed := true }
def FnExactContextOrderUptoSaid : Prop := fnExactContextOrderUptoRow.holds Try.pinned (OpenSpec.upto fnExactContextOrderSpec)

/-- 'laws.FnOrder', WHERE WHAT IT READS IS OF BULK AT MOST 1048576: true; the input reads as it did. -/
def fnOrderUptoRow : OpenClaim := { program := "ytaikphcemldikab", sum := "3316a25ed1147a278bdb9e5efa95aea6c0b667c4a735d865c3ea371dd9f44b2f", func := "loop.example/g00876/laws.FnOrder", spec := "fnOrder", unfollowed := true, recurses := true, apart := false, narrowed := true }
def FnOrderUptoSaid : Prop := fnOrderUptoRow.holds Try.pinned (OpenSpec.upto fnOrderSpec)

end Rows
end Go.Proofs.Ytaikphcemldikab
