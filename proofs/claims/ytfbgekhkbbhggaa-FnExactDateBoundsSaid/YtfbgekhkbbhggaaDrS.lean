/- The laws' copy of a dated record and its comparison, beside two boxes that stay. -/
import Derived.Test.YtfbgekhkbbhggaaDr
namespace Go.Proofs.Ytfbgekhkbbhggaa.DrS
open Go.RowKit Pairs Rec Keep GivesI Zh Dr
set_option linter.unusedVariables false
structure S (w : World) (g : Nat) (u1 u2 u3 : Value) (h : Nat) (x1 x2 x3 : Value) : Prop where
  g1 : w.cell? ⟨g, 0, none⟩ = some u1
  g2 : w.cell? ⟨g, 1, none⟩ = some u2
  g3 : w.cell? ⟨g, 2, none⟩ = some u3
  gl : g < w.heap.size
  h1 : w.cell? ⟨h, 0, none⟩ = some x1
  h2 : w.cell? ⟨h, 1, none⟩ = some x2
  h3 : w.cell? ⟨h, 2, none⟩ = some x3
  hl : h < w.heap.size
theorem S.below {w w' : World} {g h : Nat} {u1 u2 u3 x1 x2 x3 : Value} (s : S w g u1 u2 u3 h x1 x2 x3) (b : Below w.heap.size w w') : S w' g u1 u2 u3 h x1 x2 x3 :=
  ⟨(b.cell (p := ⟨g, 0, none⟩) s.gl).trans s.g1, (b.cell (p := ⟨g, 1, none⟩) s.gl).trans s.g2, (b.cell (p := ⟨g, 2, none⟩) s.gl).trans s.g3, Nat.lt_of_lt_of_le s.gl b.size,
   (b.cell (p := ⟨h, 0, none⟩) s.hl).trans s.h1, (b.cell (p := ⟨h, 1, none⟩) s.hl).trans s.h2, (b.cell (p := ⟨h, 2, none⟩) s.hl).trans s.h3, Nat.lt_of_lt_of_le s.hl b.size⟩
theorem toDR_keeps (a1 a2 a3 : Option Addr) (n1 c1 n2 c2 n3 c3 : Nat) (l m : List (Int × Int)) (Z : List Pt) (w : World) (h : Arg w a1 n1 a2 n2 a3 n3 l m Z) {g k : Nat} {u1 u2 u3 x1 x2 x3 : Value} (s : S w g u1 u2 u3 k x1 x2 x3) :
    Calls Try.prog 16 #[.agg #[.slice a1 n1 c1, .slice a2 n2 c2, .slice a3 n3 c3]] w fun e w' => ∃ g1 g2 g3 : Nat, e = .returned (.agg #[.slice (some ⟨g1, 0, none⟩) n1 n1, .slice (some ⟨g2, 0, none⟩) n2 n2, .slice (some ⟨g3, 0, none⟩) n3 n3]) ∧
      Arg w' (some ⟨g1, 0, none⟩) n1 (some ⟨g2, 0, none⟩) n2 (some ⟨g3, 0, none⟩) n3 l m Z ∧ Below w.heap.size w w' ∧ S w' g u1 u2 u3 k x1 x2 x3 :=
  (toDR_any a1 a2 a3 n1 c1 n2 c2 n3 c3 l m Z w h).mono fun e w' ⟨g1, g2, g3, he, ho, hb⟩ => ⟨g1, g2, g3, he, ho.arg h.h3.1 h.s1 h.s2 h.s3 h.sm, hb, s.below hb⟩
theorem eqDR_keeps (a1 a2 a3 b1 b2 b3 : Option Addr) (n1 c1 n2 c2 n3 c3 d1 d2 d3 : Nat) (l m : List (Int × Int)) (Z : List Pt) (w : World) (h : Arg w a1 n1 a2 n2 a3 n3 l m Z) (k : Arg w b1 n1 b2 n2 b3 n3 l m Z) {g j : Nat} {u1 u2 u3 x1 x2 x3 : Value} (s : S w g u1 u2 u3 j x1 x2 x3) :
    Calls Try.prog 18 #[.agg #[.slice a1 n1 c1, .slice a2 n2 c2, .slice a3 n3 c3], .agg #[.slice b1 n1 d1, .slice b2 n2 d2, .slice b3 n3 d3]] w fun e w' => e = .returned (.bool true) ∧ Below w.heap.size w w' ∧ S w' g u1 u2 u3 j x1 x2 x3 :=
  (eqDR_same a1 a2 a3 b1 b2 b3 n1 c1 n2 c2 n3 c3 d1 d2 d3 l m Z w h k).mono fun e w' ⟨he, hb⟩ => ⟨he, hb, s.below hb⟩
end Go.Proofs.Ytfbgekhkbbhggaa.DrS
