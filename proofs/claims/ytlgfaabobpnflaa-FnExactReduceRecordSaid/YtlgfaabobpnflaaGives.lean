/- What a function that makes a record of a record is said to do. -/
import Derived.Test.YtlgfaabobpnflaaMark2
import Derived.Test.YtlgfaabobpnflaaLawKit
namespace Go.Proofs.Ytlgfaabobpnflaa.Gives
open Go.RowKit Pairs Rec Keep
/-- An answer: a record of its own and a bool. -/
def Res (ok : Bool) (L M : List (Int × Int)) (w : World) (e : Ending) (w' : World) : Prop :=
  ∃ (p1 : Option Addr) (k1 d1 : Nat) (p2 : Option Addr) (k2 d2 : Nat), e = .returned (.tuple #[.agg #[.slice p1 k1 d1, .slice p2 k2 d2], .bool ok]) ∧ Got w' w.heap.size p1 k1 d1 p2 k2 d2 L M ∧ k1 ≤ 1048576 ∧ k2 ≤ 1048576 ∧ Below w.heap.size w w'
abbrev RR := List (Int × Int) → List (Int × Int) → Option (List (Int × Int) × List (Int × Int))
def Gives1 (f : FuncId) (x : Value) (F : RR) : Prop :=
  ∀ (a1 a2 : Option Addr) (n1 c1 n2 c2 : Nat) (l m : List (Int × Int)) (w : World), n1 ≤ 1048576 → n2 ≤ 1048576 → Holds w a1 n1 l → Holds w a2 n2 m →
    Calls Try.prog f #[.agg #[.slice a1 n1 c1, .slice a2 n2 c2], x] w (Res (F l m).isSome ((F l m).getD ([], [])).1 ((F l m).getD ([], [])).2 w)
def Gives2 (f : FuncId) (x y : Value) (F : RR) : Prop :=
  ∀ (a1 a2 : Option Addr) (n1 c1 n2 c2 : Nat) (l m : List (Int × Int)) (w : World), n1 ≤ 1048576 → n2 ≤ 1048576 → Holds w a1 n1 l → Holds w a2 n2 m →
    Calls Try.prog f #[.agg #[.slice a1 n1 c1, .slice a2 n2 c2], x, y] w (Res (F l m).isSome ((F l m).getD ([], [])).1 ((F l m).getD ([], [])).2 w)
theorem eqR (a1 a2 b1 b2 : Option Addr) (n1 n2 c1 c2 d1 d2 : Nat) (l1 l2 : List (Int × Int)) (h1 : n1 ≤ 1048576) (h2 : n2 ≤ 1048576) (w : World) (A1 : Holds w a1 n1 l1) (A2 : Holds w a2 n2 l2) (B1 : Holds w b1 n1 l1) (B2 : Holds w b2 n2 l2) :
    Calls Try.prog 20 #[.agg #[.slice a1 n1 c1, .slice a2 n2 c2], .agg #[.slice b1 n1 d1, .slice b2 n2 d2]] w fun e w' => e = .returned (.bool true) ∧ Below w.heap.size w w' :=
  RecEq.eqRecord_same a1 a2 b1 b2 n1 n2 c1 c2 d1 d2 l1 l2 h1 h2 w A1 A2 B1 B2
end Go.Proofs.Ytlgfaabobpnflaa.Gives
