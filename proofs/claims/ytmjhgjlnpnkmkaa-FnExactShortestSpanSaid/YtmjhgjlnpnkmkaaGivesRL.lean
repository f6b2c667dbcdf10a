/- What a function that makes a list of relations of a record alone is said to do. -/
import Derived.Test.YtmjhgjlnpnkmkaaGivesS
namespace Go.Proofs.Ytmjhgjlnpnkmkaa.GivesRL
open Go.RowKit Pairs Rec Keep
def Gives (f : FuncId) (F : List (Int × Int) → List (Int × Int) → Option (List (Int × Int))) : Prop :=
  ∀ (a1 a2 : Option Addr) (n1 n2 : Nat) (l m : List (Int × Int)) (w : World), n1 ≤ 1048576 → n2 ≤ 1048576 → Holds w a1 n1 l → Holds w a2 n2 m →
    Calls Try.prog f #[.agg #[.slice a1 n1 n1, .slice a2 n2 n2]] w (GivesS.Res (F l m).isSome ((F l m).getD []) w)
end Go.Proofs.Ytmjhgjlnpnkmkaa.GivesRL
