/-
  NARROWER THAN 'FOR EVERY INPUT', by the rows' own cells (each row's printed sentence says how): FnExactParseNumbers: laid · FnExactRecordLines: laid · FnExactFormatRecord: laid · FnExactParseRecord: laid.
  DERIVED. THE GIVEN ROWS OF THIS SEAT. 4 by the template 'for every input the law returns true; each argument reads behind the call as it read before'; 0 by the template 'total and deterministic' (their statements: YtaikphcemldikaaDoorTotals.lean).
  GIVEN WITH THE SEED: the statements are not yours to turn. If you find one false, say at which input.
  Laid BY PROGRAM, IN A SANDBOX (cutbox-rows.mjs): the forced cells as the released guide's own fill.sh prints them over the translation 36103ce3e68debc2… (all of the seat's roots in one cut). By AI agents, Wed Nov 11 2026. No macro, syntax, notation, axiom, sorry.
-/
import Derived.Test.YtaikphcemldikaaDoorChecked
import GoSem.Claim
import GoSem.ClaimJoined
import GoSem.ClaimMapViews
import Derived.JoinedTies
import Derived.KernelRfl
namespace Go.Proofs.YtaikphcemldikaaDoor
/- THE CELL 'sum', in the pinned program and in every row, IS THE sha256 OF THE DUMP (.gsa) THAT YtaikphcemldikaaDoorProg.lean LOADS. Nothing in Lean hashes anything: it is a label: what it is worth is what the hold of that sum in a sandbox is worth. -/
noncomputable def Tryd.pinned : Pinned := { name := "ytaikphcemldikaadoor", sum := "36103ce3e68debc20b668db71b0b1e5c6bbb486e86b24dc4803f730998b2aea8", checked := Tryd.checked }
namespace Rows
def none {H : Type} : Left H := { results := [], args := [] }

/- WHAT THE LISTED PACKAGE-LEVEL VARIABLES READ AS WHEN THE CALL BEGINS. Each datum BY PROGRAM (the guide's laid-datum.mjs) off the statement by which the dump's own 'gosem.cut.vars' lays the variable. In a bare row this is a premise. The card (YtaikphcemldikaaDoorCards.lean) ties it to the program's text. -/
def laid_math_bits_deBruijn32tab {H : Type} : DataW H := .agg [.lit (.int .u8 0), .lit (.int .u8 1), .lit (.int .u8 28), .lit (.int .u8 2), .lit (.int .u8 29), .lit (.int .u8 14), .lit (.int .u8 24), .lit (.int .u8 3), .lit (.int .u8 30), .lit (.int .u8 22), .lit (.int .u8 20), .lit (.int .u8 15), .lit (.int .u8 25), .lit (.int .u8 17), .lit (.int .u8 4), .lit (.int .u8 8), .lit (.int .u8 31), .lit (.int .u8 27), .lit (.int .u8 13), .lit (.int .u8 23), .lit (.int .u8 21), .lit (.int .u8 19), .lit (.int .u8 16), .lit (.int .u8 7), .lit (.int .u8 26), .lit (.int .u8 12), .lit (.int .u8 18), .lit (.int .u8 6), .lit (.int .u8 11), .lit (.int .u8 5), .lit (.int .u8 10), .lit (.int .u8 9)]
def laid_math_bits_deBruijn64tab {H : Type} : DataW H := .agg [.lit (.int .u8 0), .lit (.int .u8 1), .lit (.int .u8 56), .lit (.int .u8 2), .lit (.int .u8 57), .lit (.int .u8 49), .lit (.int .u8 28), .lit (.int .u8 3), .lit (.int .u8 61), .lit (.int .u8 58), .lit (.int .u8 42), .lit (.int .u8 50), .lit (.int .u8 38), .lit (.int .u8 29), .lit (.int .u8 17), .lit (.int .u8 4), .lit (.int .u8 62), .lit (.int .u8 47), .lit (.int .u8 59), .lit (.int .u8 36), .lit (.int .u8 45), .lit (.int .u8 43), .lit (.int .u8 51), .lit (.int .u8 22), .lit (.int .u8 53), .lit (.int .u8 39), .lit (.int .u8 33), .lit (.int .u8 30), .lit (.int .u8 24), .lit (.int .u8 18), .lit (.int .u8 12), .lit (.int .u8 5), .lit (.int .u8 63), .lit (.int .u8 55), .lit (.int .u8 48), .lit (.int .u8 27), .lit (.int .u8 60), .lit (.int .u8 41), .lit (.int .u8 37), .lit (.int .u8 16), .lit (.int .u8 46), .lit (.int .u8 35), .lit (.int .u8 44), .lit (.int .u8 21), .lit (.int .u8 52), .lit (.int .u8 32), .lit (.int .u8 23), .lit (.int .u8 11), .lit (.int .u8 54), .lit (.int .u8 26), .lit (.int .u8 40), .lit (.int .u8 15), .lit (.int .u8 34), .lit (.int .u8 20), .lit (.int .u8 31), .lit (.int .u8 10), .lit (.int .u8 25), .lit (.int .u8 14), .lit (.int .u8 19), .lit (.int .u8 9), .lit (.int .u8 13), .lit (.int .u8 8), .lit (.int .u8 7), .lit (.int .u8 6)]
def laid_internal_strconv_uint64pow10 {H : Type} : DataW H := .agg [.lit (.int .u64 1), .lit (.int .u64 10), .lit (.int .u64 100), .lit (.int .u64 1000), .lit (.int .u64 10000), .lit (.int .u64 100000), .lit (.int .u64 1000000), .lit (.int .u64 10000000), .lit (.int .u64 100000000), .lit (.int .u64 1000000000), .lit (.int .u64 10000000000), .lit (.int .u64 100000000000), .lit (.int .u64 1000000000000), .lit (.int .u64 10000000000000), .lit (.int .u64 100000000000000), .lit (.int .u64 1000000000000000), .lit (.int .u64 10000000000000000), .lit (.int .u64 100000000000000000), .lit (.int .u64 1000000000000000000), .lit (.int .u64 10000000000000000000)]
def laid_strconv_ErrRange {H : Type} : DataW H := .iface "*errors.errorString" (.ptr (.agg [.lit (.string [118, 97, 108, 117, 101, 32, 111, 117, 116, 32, 111, 102, 32, 114, 97, 110, 103, 101])]))
def laid_strconv_ErrSyntax {H : Type} : DataW H := .iface "*errors.errorString" (.ptr (.agg [.lit (.string [105, 110, 118, 97, 108, 105, 100, 32, 115, 121, 110, 116, 97, 120])]))
def laid_loop_example_g00876_impl_kindWords {H : Type} : DataW H := .agg [.lit (.string []), .lit (.string [100, 101, 112, 111, 115, 105, 116]), .lit (.string [99, 117, 116]), .lit (.string [115, 116, 114, 117, 99, 116, 117, 114, 101]), .lit (.string [110, 97, 116, 117, 114, 97, 108])]

/-- 'laws.FnExactParseNumbers': WHATEVER THE INPUT: true; the input reads as it did. -/
def fnExactParseNumbersSpec : ChangeSpec := { name := "fnExactParseNumbers", fn := fun _ => fun
  | [d] => { results := [.lit (.bool true)], args := [d] }
  | _ => none }
def fnExactParseNumbersRow : OpenClaim := { program := "ytaikphcemldikaadoor", sum := "36103ce3e68debc20b668db71b0b1e5c6bbb486e86b24dc4803f730998b2aea8", func := "loop.example/g00876/laws.FnExactParseNumbers", spec := "fnExactParseNumbers", inPlace := ["internal/bytealg.IndexByteString", "internal/bytealg.IndexString"], recurses := true, named := ["internal/bytealg.MaxLen", "strconv.ErrSyntax", "strconv.ErrRange", "internal/strconv.uint64pow10", "math/bits.deBruijn32tab", "math/bits.deBruijn64tab"], apart := false, laid := [("math/bits.deBruijn32tab", laid_math_bits_deBruijn32tab), ("math/bits.deBruijn64tab", laid_math_bits_deBruijn64tab), ("internal/strconv.uint64pow10", laid_internal_strconv_uint64pow10), ("strconv.ErrRange", laid_strconv_ErrRange), ("strconv.ErrSyntax", laid_strconv_ErrSyntax)] }
def FnExactParseNumbersSaid : Prop := fnExactParseNumbersRow.holds Tryd.pinned (OpenSpec.ofChange fnExactParseNumbersSpec)

/-- ITS FALSE NEIGHBOUR: 'it returns false'. Refute it at one input. -/
def fnExactParseNumbersWrong : ChangeSpec := { name := "fnExactParseNumbers", fn := fun _ => fun
  | [d] => { results := [.lit (.bool false)], args := [d] }
  | _ => none }
def FnExactParseNumbersWrongFalsely : Prop := fnExactParseNumbersRow.holds Tryd.pinned (OpenSpec.ofChange fnExactParseNumbersWrong)

/-- 'laws.FnExactRecordLines': WHATEVER THE INPUT: true; the input reads as it did. -/
def fnExactRecordLinesSpec : ChangeSpec := { name := "fnExactRecordLines", vars := ["loop.example/g00876/impl.kindWords"], fn := fun _ => fun
  | [d1, d2, g1] => { results := [.lit (.bool true)], args := [d1, d2], vars := [g1] }
  | _ => none }
def fnExactRecordLinesRow : OpenClaim := { program := "ytaikphcemldikaadoor", sum := "36103ce3e68debc20b668db71b0b1e5c6bbb486e86b24dc4803f730998b2aea8", func := "loop.example/g00876/laws.FnExactRecordLines", spec := "fnExactRecordLines", unfollowed := true, recurses := true, named := ["loop.example/g00876/impl.kindWords", "internal/strconv.uint64pow10", "math/bits.deBruijn32tab", "math/bits.deBruijn64tab"], apart := false, laid := [("math/bits.deBruijn32tab", laid_math_bits_deBruijn32tab), ("math/bits.deBruijn64tab", laid_math_bits_deBruijn64tab), ("internal/strconv.uint64pow10", laid_internal_strconv_uint64pow10), ("loop.example/g00876/impl.kindWords", laid_loop_example_g00876_impl_kindWords)] }
def FnExactRecordLinesSaid : Prop := fnExactRecordLinesRow.holds Tryd.pinned (OpenSpec.ofChange fnExactRecordLinesSpec)

/-- ITS FALSE NEIGHBOUR: 'it returns false'. Refute it at one input. -/
def fnExactRecordLinesWrong : ChangeSpec := { name := "fnExactRecordLines", vars := ["loop.example/g00876/impl.kindWords"], fn := fun _ => fun
  | [d1, d2, g1] => { results := [.lit (.bool false)], args := [d1, d2], vars := [g1] }
  | _ => none }
def FnExactRecordLinesWrongFalsely : Prop := fnExactRecordLinesRow.holds Tryd.pinned (OpenSpec.ofChange fnExactRecordLinesWrong)

/-- 'laws.FnExactFormatRecord': WHATEVER THE INPUT: true; the input reads as it did. -/
def fnExactFormatRecordSpec : ChangeSpec := { name := "fnExactFormatRecord", vars := ["loop.example/g00876/impl.kindWords"], fn := fun _ => fun
  | [d, g1] => { results := [.lit (.bool true)], args := [d], vars := [g1] }
  | _ => none }
def fnExactFormatRecordRow : OpenClaim := { program := "ytaikphcemldikaadoor", sum := "36103ce3e68debc20b668db71b0b1e5c6bbb486e86b24dc4803f730998b2aea8", func := "loop.example/g00876/laws.FnExactFormatRecord", spec := "fnExactFormatRecord", inPlace := ["internal/abi.NoEscape"], unfollowed := true, recurses := true, named := ["loop.example/g00876/impl.kindWords", "internal/strconv.uint64pow10", "math/bits.deBruijn32tab", "math/bits.deBruijn64tab"], apart := false, laid := [("math/bits.deBruijn32tab", laid_math_bits_deBruijn32tab), ("math/bits.deBruijn64tab", laid_math_bits_deBruijn64tab), ("internal/strconv.uint64pow10", laid_internal_strconv_uint64pow10), ("loop.example/g00876/impl.kindWords", laid_loop_example_g00876_impl_kindWords)] }
def FnExactFormatRecordSaid : Prop := fnExactFormatRecordRow.holds Tryd.pinned (OpenSpec.ofChange fnExactFormatRecordSpec)

/-- ITS FALSE NEIGHBOUR: 'it returns false'. Refute it at one input. -/
def fnExactFormatRecordWrong : ChangeSpec := { name := "fnExactFormatRecord", vars := ["loop.example/g00876/impl.kindWords"], fn := fun _ => fun
  | [d, g1] => { results := [.lit (.bool false)], args := [d], vars := [g1] }
  | _ => none }
def FnExactFormatRecordWrongFalsely : Prop := fnExactFormatRecordRow.holds Tryd.pinned (OpenSpec.ofChange fnExactFormatRecordWrong)

/-- 'laws.FnExactParseRecord': WHATEVER THE INPUT: true; the input reads as it did. -/
def fnExactParseRecordSpec : ChangeSpec := { name := "fnExactParseRecord", vars := ["loop.example/g00876/impl.kindWords"], fn := fun _ => fun
  | [d, g1] => { results := [.lit (.bool true)], args := [d], vars := [g1] }
  | _ => none }
def fnExactParseRecordRow : OpenClaim := { program := "ytaikphcemldikaadoor", sum := "36103ce3e68debc20b668db71b0b1e5c6bbb486e86b24dc4803f730998b2aea8", func := "loop.example/g00876/laws.FnExactParseRecord", spec := "fnExactParseRecord", inPlace := ["internal/bytealg.IndexByteString", "internal/bytealg.IndexString"], unfollowed := true, recurses := true, named := ["internal/bytealg.MaxLen", "strconv.ErrSyntax", "strconv.ErrRange", "internal/strconv.uint64pow10", "math/bits.deBruijn32tab", "math/bits.deBruijn64tab", "loop.example/g00876/impl.kindWords"], apart := false, laid := [("math/bits.deBruijn32tab", laid_math_bits_deBruijn32tab), ("math/bits.deBruijn64tab", laid_math_bits_deBruijn64tab), ("internal/strconv.uint64pow10", laid_internal_strconv_uint64pow10), ("strconv.ErrRange", laid_strconv_ErrRange), ("strconv.ErrSyntax", laid_strconv_ErrSyntax), ("loop.example/g00876/impl.kindWords", laid_loop_example_g00876_impl_kindWords)] }
def FnExactParseRecordSaid : Prop := fnExactParseRecordRow.holds Tryd.pinned (OpenSpec.ofChange fnExactParseRecordSpec)

/-- ITS FALSE NEIGHBOUR: 'it returns false'. Refute it at one input. -/
def fnExactParseRecordWrong : ChangeSpec := { name := "fnExactParseRecord", vars := ["loop.example/g00876/impl.kindWords"], fn := fun _ => fun
  | [d, g1] => { results := [.lit (.bool false)], args := [d], vars := [g1] }
  | _ => none }
def FnExactParseRecordWrongFalsely : Prop := fnExactParseRecordRow.holds Tryd.pinned (OpenSpec.ofChange fnExactParseRecordWrong)

/- THE SECOND FORM. 'bulk': how many values and letters a reading holds, each counted each time it is reached (what is shared counts as often as it is met; a slice's spare places count too). A statement '..UptoSaid' is the law's where the arguments, and the package variables that the reading takes, are together of bulk at most 1048576: NARROWER than '..Said'. Prove '..Said' where nothing that the law and all that it calls make is longer than what came in: it says more and counts as full. Else prove '..UptoSaid'. A law counts once. -/
mutual
def uptoBulk {H : Type} : DataW H → Nat
  | .lit (.string bytes) => bytes.length + 1
  | .lit _ => 1
  | .nil => 1
  | .ptr d => uptoBulk d + 1
  | .slice elems spare => uptoBulkAll elems + uptoBulkAll spare + 1
  | .agg parts => uptoBulkAll parts + 1
  | .iface _ d => uptoBulk d + 1
  | .map entries => uptoBulkEntries entries + 1
  | .held _ => 1
def uptoBulkAll {H : Type} : List (DataW H) → Nat
  | [] => 0
  | d :: r => uptoBulk d + uptoBulkAll r
def uptoBulkEntries {H : Type} : List (Lit × DataW H) → Nat
  | [] => 0
  | x :: r => uptoBulkEntry x + uptoBulkEntries r
def uptoBulkEntry {H : Type} : Lit × DataW H → Nat
  | (.string bytes, d) => bytes.length + uptoBulk d + 1
  | (_, d) => uptoBulk d + 1
 end
def uptoSmall : (H : Type) → List (DataW H) → Bool := fun _ ds => decide (uptoBulkAll ds ≤ 1048576)
def OpenSpec.upto (s : _root_.Go.ChangeSpec) : _root_.Go.OpenSpec := { _root_.Go.OpenSpec.ofChange s with cond := some uptoSmall }

/-- 'laws.FnExactParseNumbers', WHERE WHAT IT READS IS OF BULK AT MOST 1048576: true; the input reads as it did. -/
def fnExactParseNumbersUptoRow : OpenClaim := { program := "ytaikphcemldikaadoor", sum := "36103ce3e68debc20b668db71b0b1e5c6bbb486e86b24dc4803f730998b2aea8", func := "loop.example/g00876/laws.FnExactParseNumbers", spec := "fnExactParseNumbers", inPlace := ["internal/bytealg.IndexByteString", "internal/bytealg.IndexString"], recurses := true, named := ["internal/bytealg.MaxLen", "strconv.ErrSyntax", "strconv.ErrRange", "internal/strconv.uint64pow10", "math/bits.deBruijn32tab", "math/bits.deBruijn64tab"], apart := false, laid := [("math/bits.deBruijn32tab", laid_math_bits_deBruijn32tab), ("math/bits.deBruijn64tab", laid_math_bits_deBruijn64tab), ("internal/strconv.uint64pow10", laid_internal_strconv_uint64pow10), ("strconv.ErrRange", laid_strconv_ErrRange), ("strconv.ErrSyntax", laid_strconv_ErrSyntax)], narrowed := true }
def FnExactParseNumbersUptoSaid : Prop := fnExactParseNumbersUptoRow.holds Tryd.pinned (OpenSpec.upto fnExactParseNumbersSpec)

/-- 'laws.FnExactRecordLines', WHERE WHAT IT READS IS OF BULK AT MOST 1048576: true; the input reads as it did. -/
def fnExactRecordLinesUptoRow : OpenClaim := { program := "ytaikphcemldikaadoor", sum := "36103ce3e68debc20b668db71b0b1e5c6bbb486e86b24dc4803f730998b2aea8", func := "loop.example/g00876/laws.FnExactRecordLines", spec := "fnExactRecordLines", unfollowed := true, recurses := true, named := ["loop.example/g00876/impl.kindWords", "internal/strconv.uint64pow10", "math/bits.deBruijn32tab", "math/bits.deBruijn64tab"], apart := false, laid := [("math/bits.deBruijn32tab", laid_math_bits_deBruijn32tab), ("math/bits.deBruijn64tab", laid_math_bits_deBruijn64tab), ("internal/strconv.uint64pow10", laid_internal_strconv_uint64pow10), ("loop.example/g00876/impl.kindWords", laid_loop_example_g00876_impl_kindWords)], narrowed := true }
def FnExactRecordLinesUptoSaid : Prop := fnExactRecordLinesUptoRow.holds Tryd.pinned (OpenSpec.upto fnExactRecordLinesSpec)

/-- 'laws.FnExactFormatRecord', WHERE WHAT IT READS IS OF BULK AT MOST 1048576: true; the input reads as it did. -/
def fnExactFormatRecordUptoRow : OpenClaim := { program := "ytaikphcemldikaadoor", sum := "36103ce3e68debc20b668db71b0b1e5c6bbb486e86b24dc4803f730998b2aea8", func := "loop.example/g00876/laws.FnExactFormatRecord", spec := "fnExactFormatRecord", inPlace := ["internal/abi.NoEscape"], unfollowed := true, recurses := true, named := ["loop.example/g00876/impl.kindWords", "internal/strconv.uint64pow10", "math/bits.deBruijn32tab", "math/bits.deBruijn64tab"], apart := false, laid := [("math/bits.deBruijn32tab", laid_math_bits_deBruijn32tab), ("math/bits.deBruijn64tab", laid_math_bits_deBruijn64tab), ("internal/strconv.uint64pow10", laid_internal_strconv_uint64pow10), ("loop.example/g00876/impl.kindWords", laid_loop_example_g00876_impl_kindWords)], narrowed := true }
def FnExactFormatRecordUptoSaid : Prop := fnExactFormatRecordUptoRow.holds Tryd.pinned (OpenSpec.upto fnExactFormatRecordSpec)

/-- 'laws.FnExactParseRecord', WHERE WHAT IT READS IS OF BULK AT MOST 1048576: true; the input reads as it did. -/
def fnExactParseRecordUptoRow : OpenClaim := { program := "ytaikphcemldikaadoor", sum := "36103ce3e68debc20b668db71b0b1e5c6bbb486e86b24dc4803f730998b2aea8", func := "loop.example/g00876/laws.FnExactParseRecord", spec := "fnExactParseRecord", inPlace := ["internal/bytealg.IndexByteString", "internal/bytealg.IndexString"], unfollowed := true, recurses := true, named := ["internal/bytealg.MaxLen", "strconv.ErrSyntax", "strconv.ErrRange", "internal/strconv.uint64pow10", "math/bits.deBruijn32tab", "math/bits.deBruijn64tab", "loop.example/g00876/impl.kindWords"], apart := false, laid := [("math/bits.deBruijn32tab", laid_math_bits_deBruijn32tab), ("math/bits.deBruijn64tab", laid_math_bits_deBruijn64tab), ("internal/strconv.uint64pow10", laid_internal_strconv_uint64pow10), ("strconv.ErrRange", laid_strconv_ErrRange), ("strconv.ErrSyntax", laid_strconv_ErrSyntax), ("loop.example/g00876/impl.kindWords", laid_loop_example_g00876_impl_kindWords)], narrowed := true }
def FnExactParseRecordUptoSaid : Prop := fnExactParseRecordUptoRow.holds Tryd.pinned (OpenSpec.upto fnExactParseRecordSpec)

end Rows
end Go.Proofs.YtaikphcemldikaaDoor
