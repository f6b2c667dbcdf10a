/- What a function that makes a record of a record is said to do, where the rows have no room to spare. -/
import Derived.Test.YtlgfaabobpnflaaGives
namespace Go.Proofs.Ytlgfaabobpnflaa.Gives
open Go.RowKit Pairs Rec Keep
def GivesN (f : FuncId) (x : Value) (F : RR) : Prop :=
  ∀ (a1 a2 : Option Addr) (n1 n2 : Nat) (l m : List (Int × Int)) (w : World), n1 ≤ 1048576 → n2 ≤ 1048576 → Holds w a1 n1 l → Holds w a2 n2 m →
    Calls Try.prog f #[.agg #[.slice a1 n1 n1, .slice a2 n2 n2], x] w (Res (F l m).isSome ((F l m).getD ([], [])).1 ((F l m).getD ([], [])).2 w)
def GivesN2 (f : FuncId) (x y : Value) (F : RR) : Prop :=
  ∀ (a1 a2 : Option Addr) (n1 n2 : Nat) (l m : List (Int × Int)) (w : World), n1 ≤ 1048576 → n2 ≤ 1048576 → Holds w a1 n1 l → Holds w a2 n2 m →
    Calls Try.prog f #[.agg #[.slice a1 n1 n1, .slice a2 n2 n2], x, y] w (Res (F l m).isSome ((F l m).getD ([], [])).1 ((F l m).getD ([], [])).2 w)
theorem Gives1.n {f : FuncId} {x : Value} {F : RR} (h : Gives1 f x F) : GivesN f x F := fun a1 a2 n1 n2 l m w h1 h2 h3 h4 => h a1 a2 n1 n1 n2 n2 l m w h1 h2 h3 h4
theorem Gives2.n {f : FuncId} {x y : Value} {F : RR} (h : Gives2 f x y F) : GivesN2 f x y F := fun a1 a2 n1 n2 l m w h1 h2 h3 h4 => h a1 a2 n1 n1 n2 n2 l m w h1 h2 h3 h4
end Go.Proofs.Ytlgfaabobpnflaa.Gives
