/- What a function that makes a record of a record alone is said to do, where the rows have no room to spare. -/
import Derived.Test.YtlgfaabobpnflaaGivesN
namespace Go.Proofs.Ytlgfaabobpnflaa.Gives
open Go.RowKit Pairs Rec Keep
def GivesN0 (f : FuncId) (F : RR) : Prop :=
  ∀ (a1 a2 : Option Addr) (n1 n2 : Nat) (l m : List (Int × Int)) (w : World), n1 ≤ 1048576 → n2 ≤ 1048576 → Holds w a1 n1 l → Holds w a2 n2 m →
    Calls Try.prog f #[.agg #[.slice a1 n1 n1, .slice a2 n2 n2]] w (Res (F l m).isSome ((F l m).getD ([], [])).1 ((F l m).getD ([], [])).2 w)
end Go.Proofs.Ytlgfaabobpnflaa.Gives
