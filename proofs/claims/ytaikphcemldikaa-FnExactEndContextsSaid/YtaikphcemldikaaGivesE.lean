/- What a function that makes two lists of ints and a bool of a record is said to do. -/
import Derived.Test.YtaikphcemldikaaGivesI
namespace Go.Proofs.Ytaikphcemldikaa.GivesE
open Go.RowKit Pairs Rec Keep GivesI
def Res (R : Bool × List Int × List Int) (w : World) (e : Ending) (w' : World) : Prop :=
  ∃ (p1 : Option Addr) (k1 d1 : Nat) (p2 : Option Addr) (k2 d2 : Nat), e = .returned (.tuple #[.slice p1 k1 d1, .slice p2 k2 d2, .bool R.1]) ∧ w'.ownsRow w.heap.size 3 1 (.slice p1 k1 d1) k1 (ints R.2.1) ∧ w'.ownsRow w.heap.size 3 1 (.slice p2 k2 d2) k2 (ints R.2.2)
    ∧ (∀ b, (Value.slice p1 k1 d1).ownBlock = some b → ¬ (Value.slice p2 k2 d2).ownBlock = some b) ∧ k1 ≤ 1048576 ∧ k2 ≤ 1048576 ∧ Below w.heap.size w w'
def Gives (f : FuncId) (F : List (Int × Int) → List (Int × Int) → Bool × List Int × List Int) : Prop :=
  ∀ (a1 a2 : Option Addr) (n1 c1 n2 c2 : Nat) (l m : List (Int × Int)) (w : World), n1 ≤ 1048576 → n2 ≤ 1048576 → Holds w a1 n1 l → Holds w a2 n2 m →
    Calls Try.prog f #[.agg #[.slice a1 n1 c1, .slice a2 n2 c2]] w (Res (F l m) w)
end Go.Proofs.Ytaikphcemldikaa.GivesE
