/- What the walks of the laws over a record share. -/
import Derived.Test.YtfbgekhkbbhggaaRecEq
import Derived.Test.YtfbgekhkbbhggaaRecOpen
import Derived.OpenShut
import Derived.Deep.RegionHeld3
import Derived.Deep.RegionWith
import Derived.ChangeOld
namespace Go.Proofs.Ytfbgekhkbbhggaa.LawKit
open Go.ChangeShapes Go.WideShapes Go.ChangeAt Go.RowKit
open Pairs Rec RecEq RecOpen
set_option linter.unusedVariables false
/-- Two boxes of two cells each. -/
def S (w' : World) (g : Nat) (u v : Value) (h : Nat) (x y : Value) : Prop := w'.cell? ⟨g, 0, none⟩ = some u ∧ w'.cell? ⟨g, 1, none⟩ = some v ∧ g < w'.heap.size ∧ w'.cell? ⟨h, 0, none⟩ = some x ∧ w'.cell? ⟨h, 1, none⟩ = some y ∧ h < w'.heap.size
theorem S.below {w w' : World} {g h : Nat} {u v x y : Value} (k : S w g u v h x y) (hb : Below w.heap.size w w') : S w' g u v h x y :=
  ⟨(hb.cell (p := ⟨g, 0, none⟩) k.2.2.1).trans k.1, (hb.cell (p := ⟨g, 1, none⟩) k.2.2.1).trans k.2.1, Nat.lt_of_lt_of_le k.2.2.1 hb.size, (hb.cell (p := ⟨h, 0, none⟩) k.2.2.2.2.2).trans k.2.2.2.1, (hb.cell (p := ⟨h, 1, none⟩) k.2.2.2.2.2).trans k.2.2.2.2.1, Nat.lt_of_lt_of_le k.2.2.2.2.2 hb.size⟩
theorem toRecord_keeps (a1 a2 : Option Addr) (n1 c1 n2 c2 : Nat) (l1 l2 : List (Int × Int)) (h1 : n1 ≤ 1048576) (h2 : n2 ≤ 1048576) (g h : Nat) (u v x y : Value) (w : World) (H1 : Holds w a1 n1 l1) (H2 : Holds w a2 n2 l2) (hs : S w g u v h x y) :
    Calls Try.prog 53 #[.agg #[.slice a1 n1 c1, .slice a2 n2 c2]] w fun e w' => ∃ g1 g2 : Nat, e = .returned (.agg #[.slice (some ⟨g1, 0, none⟩) n1 n1, .slice (some ⟨g2, 0, none⟩) n2 n2]) ∧ Own w' w.heap.size g1 n1 n1 g2 n2 n2 l1 l2 ∧ Below w.heap.size w w' ∧ w'.cell? ⟨g, 0, none⟩ = some u ∧ w'.cell? ⟨g, 1, none⟩ = some v ∧ g < w'.heap.size ∧ w'.cell? ⟨h, 0, none⟩ = some x ∧ w'.cell? ⟨h, 1, none⟩ = some y ∧ h < w'.heap.size :=
  (toRecord_any a1 a2 n1 c1 n2 c2 l1 l2 h1 h2 w H1 H2).mono fun _ _ ⟨g1, g2, he, ho, hb⟩ => ⟨g1, g2, he, ho, hb, hs.below hb⟩
theorem eqRecord_keeps (a1 a2 b1 b2 : Option Addr) (n1 n2 c1 c2 d1 d2 : Nat) (l1 l2 : List (Int × Int)) (h1 : n1 ≤ 1048576) (h2 : n2 ≤ 1048576) (g h : Nat) (u v x y : Value) (w : World) (A1 : Holds w a1 n1 l1) (A2 : Holds w a2 n2 l2) (B1 : Holds w b1 n1 l1) (B2 : Holds w b2 n2 l2) (hs : S w g u v h x y) :
    Calls Try.prog 58 #[.agg #[.slice a1 n1 c1, .slice a2 n2 c2], .agg #[.slice b1 n1 d1, .slice b2 n2 d2]] w fun e w' => e = .returned (.bool true) ∧ Below w.heap.size w w' ∧ w'.cell? ⟨g, 0, none⟩ = some u ∧ w'.cell? ⟨g, 1, none⟩ = some v ∧ g < w'.heap.size ∧ w'.cell? ⟨h, 0, none⟩ = some x ∧ w'.cell? ⟨h, 1, none⟩ = some y ∧ h < w'.heap.size :=
  (eqRecord_same a1 a2 b1 b2 n1 n2 c1 c2 d1 d2 l1 l2 h1 h2 w A1 A2 B1 B2).mono fun _ _ ⟨he, hb⟩ => ⟨he, hb, hs.below hb⟩

theorem own : ownKnob Try.prog.godebug = none := by kernel_rfl
theorem laidOut : laidOutB Try.prog = true := by kernel_rfl

theorem ownHolds {w : World} {B g1 n1 c1 g2 n2 c2 : Nat} {l1 l2 : List (Int × Int)} (h : Own w B g1 n1 c1 g2 n2 c2 l1 l2) : Holds w (some ⟨g1, 0, none⟩) n1 l1 ∧ Holds w (some ⟨g2, 0, none⟩) n2 l2 := ⟨holds_of h.ctx, holds_of h.rel⟩
def Answers (f : FuncId) (F : List (Int × Int) → List (Int × Int) → Bool) : Prop :=
  ∀ (a1 a2 : Option Addr) (n1 c1 n2 c2 : Nat) (l m : List (Int × Int)) (w : World), n1 ≤ 1048576 → n2 ≤ 1048576 → Holds w a1 n1 l → Holds w a2 n2 m →
    Calls Try.prog f #[.agg #[.slice a1 n1 c1, .slice a2 n2 c2]] w fun e w' => e = .returned (.bool (F l m)) ∧ Below w.heap.size w w'
def AnswersI (f : FuncId) (F : List (Int × Int) → List (Int × Int) → Int → Int × Bool) : Prop :=
  ∀ (a1 a2 : Option Addr) (n1 c1 n2 c2 : Nat) (l m : List (Int × Int)) (z : Int) (w : World), n1 ≤ 1048576 → n2 ≤ 1048576 → Holds w a1 n1 l → Holds w a2 n2 m →
    Calls Try.prog f #[.agg #[.slice a1 n1 c1, .slice a2 n2 c2], .int .i64 z] w fun e w' => e = .returned (.tuple #[.int .i64 (F l m z).1, .bool (F l m z).2]) ∧ Below w.heap.size w w'
end Go.Proofs.Ytfbgekhkbbhggaa.LawKit
