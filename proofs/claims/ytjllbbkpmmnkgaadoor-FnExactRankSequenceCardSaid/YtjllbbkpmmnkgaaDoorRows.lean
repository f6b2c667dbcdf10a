/-
  NARROWER THAN 'FOR EVERY INPUT', by the rows' own cells (each row's printed sentence says how): FnExactIsSequence: laid · FnExactSequenceDistance: laid · FnExactCountSequences: laid · FnExactRankSequence: laid · FnExactSequenceAt: laid · FnExactNextSequence: laid · FnExactCountBefore: laid · FnExactPlaceCounts: laid.
  DERIVED. THE GIVEN ROWS OF THIS SEAT. 8 by the template 'for every input the law returns true; each argument reads behind the call as it read before'; 0 by the template 'total and deterministic' (their statements: YtjllbbkpmmnkgaaDoorTotals.lean).
  GIVEN WITH THE SEED: the statements are not yours to turn. If you find one false, say at which input.
  Laid BY PROGRAM, IN A SANDBOX (cutbox-rows.mjs): the forced cells as the released guide's own fill.sh prints them over the translation d241fc3fd1db2ede… (all of the seat's roots in one cut). By AI agents, Wed Nov 11 2026. No macro, syntax, notation, axiom, sorry.
-/
import Derived.Test.YtjllbbkpmmnkgaaDoorChecked
import GoSem.Claim
import GoSem.ClaimJoined
import GoSem.ClaimMapViews
import Derived.JoinedTies
import Derived.KernelRfl
namespace Go.Proofs.YtjllbbkpmmnkgaaDoor
/- THE CELL 'sum', in the pinned program and in every row, IS THE sha256 OF THE DUMP (.gsa) THAT YtjllbbkpmmnkgaaDoorProg.lean LOADS. Nothing in Lean hashes anything: it is a label: what it is worth is what the hold of that sum in a sandbox is worth. -/
noncomputable def Tryd.pinned : Pinned := { name := "ytjllbbkpmmnkgaadoor", sum := "d241fc3fd1db2ede438b72772319a7d3aa2226dc21bebf53961552df9d4e9b4f", checked := Tryd.checked }
namespace Rows
def none {H : Type} : Left H := { results := [], args := [] }

/- WHAT THE LISTED PACKAGE-LEVEL VARIABLES READ AS WHEN THE CALL BEGINS. Each datum BY PROGRAM (the guide's laid-datum.mjs) off the statement by which the dump's own 'gosem.cut.vars' lays the variable. In a bare row this is a premise. The card (YtjllbbkpmmnkgaaDoorCards.lean) ties it to the program's text. -/
def laid_math_bits_deBruijn32tab {H : Type} : DataW H := .agg [.lit (.int .u8 0), .lit (.int .u8 1), .lit (.int .u8 28), .lit (.int .u8 2), .lit (.int .u8 29), .lit (.int .u8 14), .lit (.int .u8 24), .lit (.int .u8 3), .lit (.int .u8 30), .lit (.int .u8 22), .lit (.int .u8 20), .lit (.int .u8 15), .lit (.int .u8 25), .lit (.int .u8 17), .lit (.int .u8 4), .lit (.int .u8 8), .lit (.int .u8 31), .lit (.int .u8 27), .lit (.int .u8 13), .lit (.int .u8 23), .lit (.int .u8 21), .lit (.int .u8 19), .lit (.int .u8 16), .lit (.int .u8 7), .lit (.int .u8 26), .lit (.int .u8 12), .lit (.int .u8 18), .lit (.int .u8 6), .lit (.int .u8 11), .lit (.int .u8 5), .lit (.int .u8 10), .lit (.int .u8 9)]
def laid_math_bits_deBruijn64tab {H : Type} : DataW H := .agg [.lit (.int .u8 0), .lit (.int .u8 1), .lit (.int .u8 56), .lit (.int .u8 2), .lit (.int .u8 57), .lit (.int .u8 49), .lit (.int .u8 28), .lit (.int .u8 3), .lit (.int .u8 61), .lit (.int .u8 58), .lit (.int .u8 42), .lit (.int .u8 50), .lit (.int .u8 38), .lit (.int .u8 29), .lit (.int .u8 17), .lit (.int .u8 4), .lit (.int .u8 62), .lit (.int .u8 47), .lit (.int .u8 59), .lit (.int .u8 36), .lit (.int .u8 45), .lit (.int .u8 43), .lit (.int .u8 51), .lit (.int .u8 22), .lit (.int .u8 53), .lit (.int .u8 39), .lit (.int .u8 33), .lit (.int .u8 30), .lit (.int .u8 24), .lit (.int .u8 18), .lit (.int .u8 12), .lit (.int .u8 5), .lit (.int .u8 63), .lit (.int .u8 55), .lit (.int .u8 48), .lit (.int .u8 27), .lit (.int .u8 60), .lit (.int .u8 41), .lit (.int .u8 37), .lit (.int .u8 16), .lit (.int .u8 46), .lit (.int .u8 35), .lit (.int .u8 44), .lit (.int .u8 21), .lit (.int .u8 52), .lit (.int .u8 32), .lit (.int .u8 23), .lit (.int .u8 11), .lit (.int .u8 54), .lit (.int .u8 26), .lit (.int .u8 40), .lit (.int .u8 15), .lit (.int .u8 34), .lit (.int .u8 20), .lit (.int .u8 31), .lit (.int .u8 10), .lit (.int .u8 25), .lit (.int .u8 14), .lit (.int .u8 19), .lit (.int .u8 9), .lit (.int .u8 13), .lit (.int .u8 8), .lit (.int .u8 7), .lit (.int .u8 6)]

/-- 'laws.FnExactIsSequence': WHATEVER THE INPUT: true; the input reads as it did. -/
def fnExactIsSequenceSpec : ChangeSpec := { name := "fnExactIsSequence", fn := fun _ => fun
  | [d1, d2] => { results := [.lit (.bool true)], args := [d1, d2] }
  | _ => none }
def fnExactIsSequenceRow : OpenClaim := { program := "ytjllbbkpmmnkgaadoor", sum := "d241fc3fd1db2ede438b72772319a7d3aa2226dc21bebf53961552df9d4e9b4f", func := "loop.example/g00876/laws.FnExactIsSequence", spec := "fnExactIsSequence", unfollowed := true, recurses := true, named := ["math/bits.deBruijn32tab", "math/bits.deBruijn64tab"], apart := false, laid := [("math/bits.deBruijn32tab", laid_math_bits_deBruijn32tab), ("math/bits.deBruijn64tab", laid_math_bits_deBruijn64tab)] }
def FnExactIsSequenceSaid : Prop := fnExactIsSequenceRow.holds Tryd.pinned (OpenSpec.ofChange fnExactIsSequenceSpec)

/-- ITS FALSE NEIGHBOUR: 'it returns false'. Refute it at one input. -/
def fnExactIsSequenceWrong : ChangeSpec := { name := "fnExactIsSequence", fn := fun _ => fun
  | [d1, d2] => { results := [.lit (.bool false)], args := [d1, d2] }
  | _ => none }
def FnExactIsSequenceWrongFalsely : Prop := fnExactIsSequenceRow.holds Tryd.pinned (OpenSpec.ofChange fnExactIsSequenceWrong)

/-- 'laws.FnExactSequenceDistance': WHATEVER THE INPUT: true; the input reads as it did. -/
def fnExactSequenceDistanceSpec : ChangeSpec := { name := "fnExactSequenceDistance", fn := fun _ => fun
  | [d1, d2, d3] => { results := [.lit (.bool true)], args := [d1, d2, d3] }
  | _ => none }
def fnExactSequenceDistanceRow : OpenClaim := { program := "ytjllbbkpmmnkgaadoor", sum := "d241fc3fd1db2ede438b72772319a7d3aa2226dc21bebf53961552df9d4e9b4f", func := "loop.example/g00876/laws.FnExactSequenceDistance", spec := "fnExactSequenceDistance", unfollowed := true, recurses := true, named := ["math/bits.deBruijn32tab", "math/bits.deBruijn64tab"], apart := false, laid := [("math/bits.deBruijn32tab", laid_math_bits_deBruijn32tab), ("math/bits.deBruijn64tab", laid_math_bits_deBruijn64tab)] }
def FnExactSequenceDistanceSaid : Prop := fnExactSequenceDistanceRow.holds Tryd.pinned (OpenSpec.ofChange fnExactSequenceDistanceSpec)

/-- ITS FALSE NEIGHBOUR: 'it returns false'. Refute it at one input. -/
def fnExactSequenceDistanceWrong : ChangeSpec := { name := "fnExactSequenceDistance", fn := fun _ => fun
  | [d1, d2, d3] => { results := [.lit (.bool false)], args := [d1, d2, d3] }
  | _ => none }
def FnExactSequenceDistanceWrongFalsely : Prop := fnExactSequenceDistanceRow.holds Tryd.pinned (OpenSpec.ofChange fnExactSequenceDistanceWrong)

/-- 'laws.FnExactCountSequences': WHATEVER THE INPUT: true; the input reads as it did. -/
def fnExactCountSequencesSpec : ChangeSpec := { name := "fnExactCountSequences", fn := fun _ => fun
  | [d] => { results := [.lit (.bool true)], args := [d] }
  | _ => none }
def fnExactCountSequencesRow : OpenClaim := { program := "ytjllbbkpmmnkgaadoor", sum := "d241fc3fd1db2ede438b72772319a7d3aa2226dc21bebf53961552df9d4e9b4f", func := "loop.example/g00876/laws.FnExactCountSequences", spec := "fnExactCountSequences", unfollowed := true, recurses := true, named := ["math/bits.deBruijn32tab", "math/bits.deBruijn64tab"], apart := false, laid := [("math/bits.deBruijn32tab", laid_math_bits_deBruijn32tab), ("math/bits.deBruijn64tab", laid_math_bits_deBruijn64tab)] }
def FnExactCountSequencesSaid : Prop := fnExactCountSequencesRow.holds Tryd.pinned (OpenSpec.ofChange fnExactCountSequencesSpec)

/-- ITS FALSE NEIGHBOUR: 'it returns false'. Refute it at one input. -/
def fnExactCountSequencesWrong : ChangeSpec := { name := "fnExactCountSequences", fn := fun _ => fun
  | [d] => { results := [.lit (.bool false)], args := [d] }
  | _ => none }
def FnExactCountSequencesWrongFalsely : Prop := fnExactCountSequencesRow.holds Tryd.pinned (OpenSpec.ofChange fnExactCountSequencesWrong)

/-- 'laws.FnExactRankSequence': WHATEVER THE INPUT: true; the input reads as it did. -/
def fnExactRankSequenceSpec : ChangeSpec := { name := "fnExactRankSequence", fn := fun _ => fun
  | [d1, d2] => { results := [.lit (.bool true)], args := [d1, d2] }
  | _ => none }
def fnExactRankSequenceRow : OpenClaim := { program := "ytjllbbkpmmnkgaadoor", sum := "d241fc3fd1db2ede438b72772319a7d3aa2226dc21bebf53961552df9d4e9b4f", func := "loop.example/g00876/laws.FnExactRankSequence", spec := "fnExactRankSequence", unfollowed := true, recurses := true, named := ["math/bits.deBruijn32tab", "math/bits.deBruijn64tab"], apart := false, laid := [("math/bits.deBruijn32tab", laid_math_bits_deBruijn32tab), ("math/bits.deBruijn64tab", laid_math_bits_deBruijn64tab)] }
def FnExactRankSequenceSaid : Prop := fnExactRankSequenceRow.holds Tryd.pinned (OpenSpec.ofChange fnExactRankSequenceSpec)

/-- ITS FALSE NEIGHBOUR: 'it returns false'. Refute it at one input. -/
def fnExactRankSequenceWrong : ChangeSpec := { name := "fnExactRankSequence", fn := fun _ => fun
  | [d1, d2] => { results := [.lit (.bool false)], args := [d1, d2] }
  | _ => none }
def FnExactRankSequenceWrongFalsely : Prop := fnExactRankSequenceRow.holds Tryd.pinned (OpenSpec.ofChange fnExactRankSequenceWrong)

/-- 'laws.FnExactSequenceAt': WHATEVER THE INPUT: true; the input reads as it did. -/
def fnExactSequenceAtSpec : ChangeSpec := { name := "fnExactSequenceAt", fn := fun _ => fun
  | [d1, d2] => { results := [.lit (.bool true)], args := [d1, d2] }
  | _ => none }
def fnExactSequenceAtRow : OpenClaim := { program := "ytjllbbkpmmnkgaadoor", sum := "d241fc3fd1db2ede438b72772319a7d3aa2226dc21bebf53961552df9d4e9b4f", func := "loop.example/g00876/laws.FnExactSequenceAt", spec := "fnExactSequenceAt", unfollowed := true, recurses := true, named := ["math/bits.deBruijn32tab", "math/bits.deBruijn64tab"], apart := false, laid := [("math/bits.deBruijn32tab", laid_math_bits_deBruijn32tab), ("math/bits.deBruijn64tab", laid_math_bits_deBruijn64tab)] }
def FnExactSequenceAtSaid : Prop := fnExactSequenceAtRow.holds Tryd.pinned (OpenSpec.ofChange fnExactSequenceAtSpec)

/-- ITS FALSE NEIGHBOUR: 'it returns false'. Refute it at one input. -/
def fnExactSequenceAtWrong : ChangeSpec := { name := "fnExactSequenceAt", fn := fun _ => fun
  | [d1, d2] => { results := [.lit (.bool false)], args := [d1, d2] }
  | _ => none }
def FnExactSequenceAtWrongFalsely : Prop := fnExactSequenceAtRow.holds Tryd.pinned (OpenSpec.ofChange fnExactSequenceAtWrong)

/-- 'laws.FnExactNextSequence': WHATEVER THE INPUT: true; the input reads as it did. -/
def fnExactNextSequenceSpec : ChangeSpec := { name := "fnExactNextSequence", fn := fun _ => fun
  | [d1, d2] => { results := [.lit (.bool true)], args := [d1, d2] }
  | _ => none }
def fnExactNextSequenceRow : OpenClaim := { program := "ytjllbbkpmmnkgaadoor", sum := "d241fc3fd1db2ede438b72772319a7d3aa2226dc21bebf53961552df9d4e9b4f", func := "loop.example/g00876/laws.FnExactNextSequence", spec := "fnExactNextSequence", unfollowed := true, recurses := true, named := ["math/bits.deBruijn32tab", "math/bits.deBruijn64tab"], apart := false, laid := [("math/bits.deBruijn32tab", laid_math_bits_deBruijn32tab), ("math/bits.deBruijn64tab", laid_math_bits_deBruijn64tab)] }
def FnExactNextSequenceSaid : Prop := fnExactNextSequenceRow.holds Tryd.pinned (OpenSpec.ofChange fnExactNextSequenceSpec)

/-- ITS FALSE NEIGHBOUR: 'it returns false'. Refute it at one input. -/
def fnExactNextSequenceWrong : ChangeSpec := { name := "fnExactNextSequence", fn := fun _ => fun
  | [d1, d2] => { results := [.lit (.bool false)], args := [d1, d2] }
  | _ => none }
def FnExactNextSequenceWrongFalsely : Prop := fnExactNextSequenceRow.holds Tryd.pinned (OpenSpec.ofChange fnExactNextSequenceWrong)

/-- 'laws.FnExactCountBefore': WHATEVER THE INPUT: true; the input reads as it did. -/
def fnExactCountBeforeSpec : ChangeSpec := { name := "fnExactCountBefore", fn := fun _ => fun
  | [d1, d2, d3] => { results := [.lit (.bool true)], args := [d1, d2, d3] }
  | _ => none }
def fnExactCountBeforeRow : OpenClaim := { program := "ytjllbbkpmmnkgaadoor", sum := "d241fc3fd1db2ede438b72772319a7d3aa2226dc21bebf53961552df9d4e9b4f", func := "loop.example/g00876/laws.FnExactCountBefore", spec := "fnExactCountBefore", unfollowed := true, recurses := true, named := ["math/bits.deBruijn32tab", "math/bits.deBruijn64tab"], apart := false, laid := [("math/bits.deBruijn32tab", laid_math_bits_deBruijn32tab), ("math/bits.deBruijn64tab", laid_math_bits_deBruijn64tab)] }
def FnExactCountBeforeSaid : Prop := fnExactCountBeforeRow.holds Tryd.pinned (OpenSpec.ofChange fnExactCountBeforeSpec)

/-- ITS FALSE NEIGHBOUR: 'it returns false'. Refute it at one input. -/
def fnExactCountBeforeWrong : ChangeSpec := { name := "fnExactCountBefore", fn := fun _ => fun
  | [d1, d2, d3] => { results := [.lit (.bool false)], args := [d1, d2, d3] }
  | _ => none }
def FnExactCountBeforeWrongFalsely : Prop := fnExactCountBeforeRow.holds Tryd.pinned (OpenSpec.ofChange fnExactCountBeforeWrong)

/-- 'laws.FnExactPlaceCounts': WHATEVER THE INPUT: true; the input reads as it did. -/
def fnExactPlaceCountsSpec : ChangeSpec := { name := "fnExactPlaceCounts", fn := fun _ => fun
  | [d1, d2] => { results := [.lit (.bool true)], args := [d1, d2] }
  | _ => none }
def fnExactPlaceCountsRow : OpenClaim := { program := "ytjllbbkpmmnkgaadoor", sum := "d241fc3fd1db2ede438b72772319a7d3aa2226dc21bebf53961552df9d4e9b4f", func := "loop.example/g00876/laws.FnExactPlaceCounts", spec := "fnExactPlaceCounts", unfollowed := true, recurses := true, named := ["math/bits.deBruijn32tab", "math/bits.deBruijn64tab"], apart := false, laid := [("math/bits.deBruijn32tab", laid_math_bits_deBruijn32tab), ("math/bits.deBruijn64tab", laid_math_bits_deBruijn64tab)] }
def FnExactPlaceCountsSaid : Prop := fnExactPlaceCountsRow.holds Tryd.pinned (OpenSpec.ofChange fnExactPlaceCountsSpec)

/-- ITS FALSE NEIGHBOUR: 'it returns false'. Refute it at one input. -/
def fnExactPlaceCountsWrong : ChangeSpec := { name := "fnExactPlaceCounts", fn := fun _ => fun
  | [d1, d2] => { results := [.lit (.bool false)], args := [d1, d2] }
  | _ => none }
def FnExactPlaceCountsWrongFalsely : Prop := fnExactPlaceCountsRow.holds Tryd.pinned (OpenSpec.ofChange fnExactPlaceCountsWrong)

/- THE SECOND FORM. 'bulk': how many values and letters a reading holds, each counted each time it is reached (what is shared counts as often as it is met; a slice's spare places count too). A statement '..UptoSaid' is the law's where the arguments, and the package variables that the reading takes, are together of bulk at most 1048576: NARROWER than '..Said'. Prove '..Said' where nothing that the law and all that it calls make is longer than what came in: it says more and counts as full. Else prove '..UptoSaid'. A law counts once. -/
mutual
def uptoBulk {H : Type} : DataW H → Nat
  | .lit (.string bytes) => bytes.length + 1
  | .lit _ => 1
  | .nil => 1
  | .ptr d => uptoBulk d + 1
  | .slice elems spare => uptoBulkAll elems + uptoBulkAll spare + 1
  | .agg parts => uptoBulkAll parts + 1
  | .iface _ d => uptoBulk d + 1
  | .map entries => uptoBulkEntries entries + 1
  | .held _ => 1
def uptoBulkAll {H : Type} : List (DataW H) → Nat
  | [] => 0
  | d :: r => uptoBulk d + uptoBulkAll r
def uptoBulkEntries {H : Type} : List (Lit × DataW H) → Nat
  | [] => 0
  | x :: r => uptoBulkEntry x + uptoBulkEntries r
def uptoBulkEntry {H : Type} : Lit × DataW H → Nat
  | (.string bytes, d) => bytes.length + uptoBulk d + 1
  | (_, d) => uptoBulk d + 1
 end
def uptoSmall : (H : Type) → List (DataW H) → Bool := fun _ ds => decide (uptoBulkAll ds ≤ 1048576)
def OpenSpec.upto (s : _root_.Go.ChangeSpec) : _root_.Go.OpenSpec := { _root_.Go.OpenSpec.ofChange s with cond := some uptoSmall }

/-- 'laws.FnExactIsSequence', WHERE WHAT IT READS IS OF BULK AT MOST 1048576: true; the input reads as it did. -/
def fnExactIsSequenceUptoRow : OpenClaim := { program := "ytjllbbkpmmnkgaadoor", sum := "d241fc3fd1db2ede438b72772319a7d3aa2226dc21bebf53961552df9d4e9b4f", func := "loop.example/g00876/laws.FnExactIsSequence", spec := "fnExactIsSequence", unfollowed := true, recurses := true, named := ["math/bits.deBruijn32tab", "math/bits.deBruijn64tab"], apart := false, laid := [("math/bits.deBruijn32tab", laid_math_bits_deBruijn32tab), ("math/bits.deBruijn64tab", laid_math_bits_deBruijn64tab)], narrowed := true }
def FnExactIsSequenceUptoSaid : Prop := fnExactIsSequenceUptoRow.holds Tryd.pinned (OpenSpec.upto fnExactIsSequenceSpec)

/-- 'laws.FnExactSequenceDistance', WHERE WHAT IT READS IS OF BULK AT MOST 1048576: true; the input reads as it did. -/
def fnExactSequenceDistanceUptoRow : OpenClaim := { program := "ytjllbbkpmmnkgaadoor", sum := "d241fc3fd1db2ede438b72772319a7d3aa2226dc21bebf53961552df9d4e9b4f", func := "loop.example/g00876/laws.FnExactSequenceDistance", spec := "fnExactSequenceDistance", unfollowed := true, recurses := true, named := ["math/bits.deBruijn32tab", "math/bits.deBruijn64tab"], apart := false, laid := [("math/bits.deBruijn32tab", laid_math_bits_deBruijn32tab), ("math/bits.deBruijn64tab", laid_math_bits_deBruijn64tab)], narrowed := true }
def FnExactSequenceDistanceUptoSaid : Prop := fnExactSequenceDistanceUptoRow.holds Tryd.pinned (OpenSpec.upto fnExactSequenceDistanceSpec)

/-- 'laws.FnExactCountSequences', WHERE WHAT IT READS IS OF BULK AT MOST 1048576: true; the input reads as it did. -/
def fnExactCountSequencesUptoRow : OpenClaim := { program := "ytjllbbkpmmnkgaadoor", sum := "d241fc3fd1db2ede438b72772319a7d3aa2226dc21bebf53961552df9d4e9b4f", func := "loop.example/g00876/laws.FnExactCountSequences", spec := "fnExactCountSequences", unfollowed := true, recurses := true, named := ["math/bits.deBruijn32tab", "math/bits.deBruijn64tab"], apart := false, laid := [("math/bits.deBruijn32tab", laid_math_bits_deBruijn32tab), ("math/bits.deBruijn64tab", laid_math_bits_deBruijn64tab)], narrowed := true }
def FnExactCountSequencesUptoSaid : Prop := fnExactCountSequencesUptoRow.holds Tryd.pinned (OpenSpec.upto fnExactCountSequencesSpec)

/-- 'laws.FnExactRankSequence', WHERE WHAT IT READS IS OF BULK AT MOST 1048576: true; the input reads as it did. -/
def fnExactRankSequenceUptoRow : OpenClaim := { program := "ytjllbbkpmmnkgaadoor", sum := "d241fc3fd1db2ede438b72772319a7d3aa2226dc21bebf53961552df9d4e9b4f", func := "loop.example/g00876/laws.FnExactRankSequence", spec := "fnExactRankSequence", unfollowed := true, recurses := true, named := ["math/bits.deBruijn32tab", "math/bits.deBruijn64tab"], apart := false, laid := [("math/bits.deBruijn32tab", laid_math_bits_deBruijn32tab), ("math/bits.deBruijn64tab", laid_math_bits_deBruijn64tab)], narrowed := true }
def FnExactRankSequenceUptoSaid : Prop := fnExactRankSequenceUptoRow.holds Tryd.pinned (OpenSpec.upto fnExactRankSequenceSpec)

/-- 'laws.FnExactSequenceAt', WHERE WHAT IT READS IS OF BULK AT MOST 1048576: true; the input reads as it did. -/
def fnExactSequenceAtUptoRow : OpenClaim := { program := "ytjllbbkpmmnkgaadoor", sum := "d241fc3fd1db2ede438b72772319a7d3aa2226dc21bebf53961552df9d4e9b4f", func := "loop.example/g00876/laws.FnExactSequenceAt", spec := "fnExactSequenceAt", unfollowed := true, recurses := true, named := ["math/bits.deBruijn32tab", "math/bits.deBruijn64tab"], apart := false, laid := [("math/bits.deBruijn32tab", laid_math_bits_deBruijn32tab), ("math/bits.deBruijn64tab", laid_math_bits_deBruijn64tab)], narrowed := true }
def FnExactSequenceAtUptoSaid : Prop := fnExactSequenceAtUptoRow.holds Tryd.pinned (OpenSpec.upto fnExactSequenceAtSpec)

/-- 'laws.FnExactNextSequence', WHERE WHAT IT READS IS OF BULK AT MOST 1048576: true; the input reads as it did. -/
def fnExactNextSequenceUptoRow : OpenClaim := { program := "ytjllbbkpmmnkgaadoor", sum := "d241fc3fd1db2ede438b72772319a7d3aa2226dc21bebf53961552df9d4e9b4f", func := "loop.example/g00876/laws.FnExactNextSequence", spec := "fnExactNextSequence", unfollowed := true, recurses := true, named := ["math/bits.deBruijn32tab", "math/bits.deBruijn64tab"], apart := false, laid := [("math/bits.deBruijn32tab", laid_math_bits_deBruijn32tab), ("math/bits.deBruijn64tab", laid_math_bits_deBruijn64tab)], narrowed := true }
def FnExactNextSequenceUptoSaid : Prop := fnExactNextSequenceUptoRow.holds Tryd.pinned (OpenSpec.upto fnExactNextSequenceSpec)

/-- 'laws.FnExactCountBefore', WHERE WHAT IT READS IS OF BULK AT MOST 1048576: true; the input reads as it did. -/
def fnExactCountBeforeUptoRow : OpenClaim := { program := "ytjllbbkpmmnkgaadoor", sum := "d241fc3fd1db2ede438b72772319a7d3aa2226dc21bebf53961552df9d4e9b4f", func := "loop.example/g00876/laws.FnExactCountBefore", spec := "fnExactCountBefore", unfollowed := true, recurses := true, named := ["math/bits.deBruijn32tab", "math/bits.deBruijn64tab"], apart := false, laid := [("math/bits.deBruijn32tab", laid_math_bits_deBruijn32tab), ("math/bits.deBruijn64tab", laid_math_bits_deBruijn64tab)], narrowed := true }
def FnExactCountBeforeUptoSaid : Prop := fnExactCountBeforeUptoRow.holds Tryd.pinned (OpenSpec.upto fnExactCountBeforeSpec)

/-- 'laws.FnExactPlaceCounts', WHERE WHAT IT READS IS OF BULK AT MOST 1048576: true; the input reads as it did. -/
def fnExactPlaceCountsUptoRow : OpenClaim := { program := "ytjllbbkpmmnkgaadoor", sum := "d241fc3fd1db2ede438b72772319a7d3aa2226dc21bebf53961552df9d4e9b4f", func := "loop.example/g00876/laws.FnExactPlaceCounts", spec := "fnExactPlaceCounts", unfollowed := true, recurses := true, named := ["math/bits.deBruijn32tab", "math/bits.deBruijn64tab"], apart := false, laid := [("math/bits.deBruijn32tab", laid_math_bits_deBruijn32tab), ("math/bits.deBruijn64tab", laid_math_bits_deBruijn64tab)], narrowed := true }
def FnExactPlaceCountsUptoSaid : Prop := fnExactPlaceCountsUptoRow.holds Tryd.pinned (OpenSpec.upto fnExactPlaceCountsSpec)

end Rows
end Go.Proofs.YtjllbbkpmmnkgaaDoor
