/- What a function that makes a list of relations of a record is said to do. -/
import Derived.Test.YtmjhgjlnpnkmkaaMark2
import Derived.Test.YtmjhgjlnpnkmkaaLawKit
namespace Go.Proofs.Ytmjhgjlnpnkmkaa.GivesS
open Go.RowKit Pairs Rec Keep
def Res (ok : Bool) (L : List (Int × Int)) (w : World) (e : Ending) (w' : World) : Prop :=
  ∃ (p : Option Addr) (k d : Nat), e = .returned (.tuple #[.slice p k d, .bool ok]) ∧ w'.ownsRow w.heap.size 110 2 (.slice p k d) k (flat L) ∧ k ≤ 1048576 ∧ Below w.heap.size w w'
def Gives (f : FuncId) (x : Value) (F : List (Int × Int) → List (Int × Int) → Option (List (Int × Int))) : Prop :=
  ∀ (a1 a2 : Option Addr) (n1 c1 n2 c2 : Nat) (l m : List (Int × Int)) (w : World), n1 ≤ 1048576 → n2 ≤ 1048576 → Holds w a1 n1 l → Holds w a2 n2 m →
    Calls Try.prog f #[.agg #[.slice a1 n1 c1, .slice a2 n2 c2], x] w (Res (F l m).isSome ((F l m).getD []) w)
end Go.Proofs.Ytmjhgjlnpnkmkaa.GivesS
