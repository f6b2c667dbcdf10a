/- What a function that answers a number and a bool of a record and a number is said to do, where the rows have no room to spare. -/
import Derived.Test.YtlgfaabobpnflaaLawKit
namespace Go.Proofs.Ytlgfaabobpnflaa.GivesD
open Go.RowKit Pairs Rec
def AnswersI0 (f : FuncId) (F : List (Int × Int) → List (Int × Int) → Int → Int × Bool) : Prop :=
  ∀ (a1 a2 : Option Addr) (n1 n2 : Nat) (l m : List (Int × Int)) (z : Int) (w : World), n1 ≤ 1048576 → n2 ≤ 1048576 → Holds w a1 n1 l → Holds w a2 n2 m →
    Calls Try.prog f #[.agg #[.slice a1 n1 n1, .slice a2 n2 n2], .int .i64 z] w fun e w' => e = .returned (.tuple #[.int .i64 (F l m z).1, .bool (F l m z).2]) ∧ Below w.heap.size w w'
end Go.Proofs.Ytlgfaabobpnflaa.GivesD
