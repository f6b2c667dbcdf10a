/- What a function that makes a list of ints and two bools of a record (and of two numbers) is said to do. -/
import Derived.Test.YtfjpogohdoojmaaGivesI
namespace Go.Proofs.Ytfjpogohdoojmaa.GivesC
open Go.RowKit Pairs Rec Keep GivesI
def Res (R : Bool × Bool × List Int) (w : World) (e : Ending) (w' : World) : Prop :=
  ∃ (p : Option Addr) (k d : Nat), e = .returned (.tuple #[.slice p k d, .bool R.1, .bool R.2.1]) ∧ w'.ownsRow w.heap.size 3 1 (.slice p k d) k (ints R.2.2) ∧ k ≤ 1048576 ∧ Below w.heap.size w w'
def Gives (f : FuncId) (F : List (Int × Int) → List (Int × Int) → Bool × Bool × List Int) : Prop :=
  ∀ (a1 a2 : Option Addr) (n1 n2 : Nat) (l m : List (Int × Int)) (w : World), n1 ≤ 1048576 → n2 ≤ 1048576 → Holds w a1 n1 l → Holds w a2 n2 m →
    Calls Try.prog f #[.agg #[.slice a1 n1 n1, .slice a2 n2 n2]] w (Res (F l m) w)
def Gives2 (f : FuncId) (x y : Value) (F : List (Int × Int) → List (Int × Int) → Bool × Bool × List Int) : Prop :=
  ∀ (a1 a2 : Option Addr) (n1 n2 : Nat) (l m : List (Int × Int)) (w : World), n1 ≤ 1048576 → n2 ≤ 1048576 → Holds w a1 n1 l → Holds w a2 n2 m →
    Calls Try.prog f #[.agg #[.slice a1 n1 n1, .slice a2 n2 n2], x, y] w (Res (F l m) w)
end Go.Proofs.Ytfjpogohdoojmaa.GivesC
