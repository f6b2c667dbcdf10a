/- What a function that makes a record of a record is said to do. -/
import Derived.Test.YthcjembekadijaaOrderSaidPartag
import Derived.Test.YthcjembekadijaaOrderSaidPartah
import Derived.Test.YthcjembekadijaaOrderSaidPartal
import Derived.Test.YthcjembekadijaaOrderSaidPartad
import Derived.Deep.DeepCutAuto
import Derived.Deep.RegionLaw
namespace Go.Proofs.Ythcjembekadijaa.Gives
open Go.RowKit Pairs Rec Keep
/-- An answer: a record of its own and a bool. -/
def Res (ok : Bool) (L M : List (Int × Int)) (w : World) (e : Ending) (w' : World) : Prop :=
  ∃ (p1 : Option Addr) (k1 d1 : Nat) (p2 : Option Addr) (k2 d2 : Nat), e = .returned (.tuple #[.agg #[.slice p1 k1 d1, .slice p2 k2 d2], .bool ok]) ∧ Got w' w.heap.size p1 k1 d1 p2 k2 d2 L M ∧ k1 ≤ 1048576 ∧ k2 ≤ 1048576 ∧ Below w.heap.size w w'
abbrev RR := List (Int × Int) → List (Int × Int) → Option (List (Int × Int) × List (Int × Int))
def Gives1 (f : FuncId) (x : Value) (F : RR) : Prop :=
  ∀ (a1 a2 : Option Addr) (n1 c1 n2 c2 : Nat) (l m : List (Int × Int)) (w : World), n1 ≤ 1048576 → n2 ≤ 1048576 → Holds w a1 n1 l → Holds w a2 n2 m →
    Calls Try.prog f #[.agg #[.slice a1 n1 c1, .slice a2 n2 c2], x] w (Res (F l m).isSome ((F l m).getD ([], [])).1 ((F l m).getD ([], [])).2 w)
def Gives2 (f : FuncId) (x y : Value) (F : RR) : Prop :=
  ∀ (a1 a2 : Option Addr) (n1 c1 n2 c2 : Nat) (l m : List (Int × Int)) (w : World), n1 ≤ 1048576 → n2 ≤ 1048576 → Holds w a1 n1 l → Holds w a2 n2 m →
    Calls Try.prog f #[.agg #[.slice a1 n1 c1, .slice a2 n2 c2], x, y] w (Res (F l m).isSome ((F l m).getD ([], [])).1 ((F l m).getD ([], [])).2 w)
theorem eqR (a1 a2 b1 b2 : Option Addr) (n1 n2 c1 c2 d1 d2 : Nat) (l1 l2 : List (Int × Int)) (h1 : n1 ≤ 1048576) (h2 : n2 ≤ 1048576) (w : World) (A1 : Holds w a1 n1 l1) (A2 : Holds w a2 n2 l2) (B1 : Holds w b1 n1 l1) (B2 : Holds w b2 n2 l2) :
    Calls Try.prog 49 #[.agg #[.slice a1 n1 c1, .slice a2 n2 c2], .agg #[.slice b1 n1 d1, .slice b2 n2 d2]] w fun e w' => e = .returned (.bool true) ∧ Below w.heap.size w w' :=
  RecEq.eqRecord_same a1 a2 b1 b2 n1 n2 c1 c2 d1 d2 l1 l2 h1 h2 w A1 A2 B1 B2
end Go.Proofs.Ythcjembekadijaa.Gives
/- The model's RemoveContext: a record without a context and its relations. -/
namespace Go.Proofs.Ythcjembekadijaa.RemCS
open Go.RowKit Pairs Rec RecEq Find2 GoodM Keep Row2 Copy Two Gives

def notC (z : Int) (p : Int × Int) : Bool := decide (p.1 ≠ z)
def notR (z : Int) (p : Int × Int) : Bool := decide (p.1 ≠ z ∧ p.2 ≠ z)
def remC (z : Int) : RR := fun l m => if good l m = true ∧ (isAt l z).isSome = true then some (l.filter (notC z), m.filter (notR z)) else none
theorem remC_none {z : Int} {l m : List (Int × Int)} (h : ¬ (good l m = true ∧ (isAt l z).isSome = true)) : remC z l m = none := by unfold remC; rw [if_neg h]
theorem remC_some {z : Int} {l m : List (Int × Int)} (h1 : good l m = true) (h2 : (isAt l z).isSome = true) : remC z l m = some (l.filter (notC z), m.filter (notR z)) := by unfold remC; rw [if_pos ⟨h1, h2⟩]
theorem good_few {l m : List (Int × Int)} (h : good l m = true) : l.length ≤ 10 ∧ m.length ≤ 24 := by
  unfold good at h
  simp only [Bool.and_eq_true, decide_eq_true_eq] at h
  exact ⟨h.1.1.1, h.1.1.2⟩
theorem filt_next (q : Int × Int → Bool) {m : List (Int × Int)} {k : Nat} {x y : Int} (hx : m[k]? = some (x, y)) : (m.take (k + 1)).filter q = (m.take k).filter q ++ (if q (x, y) then [(x, y)] else []) := by
  rw [List.take_add_one, hx, List.filter_append]
  cases h : q (x, y) <;> simp [h]
theorem filt_len (q : Int × Int → Bool) (m : List (Int × Int)) (k : Nat) : ((m.take k).filter q).length ≤ k :=
  Nat.le_trans (List.length_filter_le _ _) (by rw [List.length_take]; omega)
theorem new_pair (w : World) (x y : Value) (t : TypeId) : ∀ j u, [x, y][j]? = some u → (w.alloc (.cells #[x, y] t)).drew.cell? ((⟨w.heap.size, 0, none⟩ : Addr).add j) = some u := by
  intro j u hj
  match j, hj with
  | 0, hj =>
    simp at hj
    subst hj
    exact box_first w x y t
  | 1, hj =>
    simp at hj
    subst hj
    exact box_second w x y t
theorem own_drew {w : World} {B e s : Nat} {v : Value} {n : Nat} {xs : List Value} (h : w.ownsRow B e s v n xs) : w.drew.ownsRow B e s v n xs := h
end Go.Proofs.Ythcjembekadijaa.RemCS
