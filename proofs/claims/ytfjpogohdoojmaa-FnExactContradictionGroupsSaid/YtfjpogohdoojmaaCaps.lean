/- Contracts of functions of a record whose rows may have room to spare. -/
import Derived.Test.YtfjpogohdoojmaaGivesRL
import Derived.Test.YtfjpogohdoojmaaGivesO
import Derived.Test.YtfjpogohdoojmaaSS
import Derived.Test.YtfjpogohdoojmaaGivesC
namespace Go.Proofs.Ytfjpogohdoojmaa.Caps
open Go.RowKit Pairs Rec Keep
/-- At a record whose rows have room to spare, a function answers so. -/
def Cap (f : FuncId) (R : List (Int × Int) → List (Int × Int) → World → Ending → World → Prop) : Prop :=
  ∀ (a1 a2 : Option Addr) (n1 c1 n2 c2 : Nat) (l m : List (Int × Int)) (w : World), n1 ≤ c1 → n2 ≤ c2 → n1 ≤ 1048576 → n2 ≤ 1048576 → Holds w a1 n1 l → Holds w a2 n2 m →
    Calls Try.prog f #[.agg #[.slice a1 n1 c1, .slice a2 n2 c2]] w (R l m w)
theorem rl {f : FuncId} {F : List (Int × Int) → List (Int × Int) → Option (List (Int × Int))} (h : Cap f fun l m w => GivesS.Res (F l m).isSome ((F l m).getD []) w) : GivesRL.Gives f F :=
  fun a1 a2 n1 n2 l m w z1 z2 h1 h2 => h a1 a2 n1 n1 n2 n2 l m w (Nat.le_refl _) (Nat.le_refl _) z1 z2 h1 h2
theorem o {f : FuncId} {F : List (Int × Int) → List (Int × Int) → Option (List Int)} (h : Cap f fun l m w => GivesI.Res (F l m).isSome ((F l m).getD []) w) : GivesO.Gives f F :=
  fun a1 a2 n1 n2 l m w z1 z2 h1 h2 => h a1 a2 n1 n1 n2 n2 l m w (Nat.le_refl _) (Nat.le_refl _) z1 z2 h1 h2
theorem ss {f : FuncId} {F : List (Int × Int) → List (Int × Int) → Option (List (List Int))} (h : Cap f fun l m w => SS.Res (F l m).isSome ((F l m).getD []) w) : SS.Gives f F :=
  fun a1 a2 n1 n2 l m w z1 z2 h1 h2 => h a1 a2 n1 n1 n2 n2 l m w (Nat.le_refl _) (Nat.le_refl _) z1 z2 h1 h2
theorem c {f : FuncId} {F : List (Int × Int) → List (Int × Int) → Bool × Bool × List Int} (h : Cap f fun l m w => GivesC.Res (F l m) w) : GivesC.Gives f F :=
  fun a1 a2 n1 n2 l m w z1 z2 h1 h2 => h a1 a2 n1 n1 n2 n2 l m w (Nat.le_refl _) (Nat.le_refl _) z1 z2 h1 h2
end Go.Proofs.Ytfjpogohdoojmaa.Caps
