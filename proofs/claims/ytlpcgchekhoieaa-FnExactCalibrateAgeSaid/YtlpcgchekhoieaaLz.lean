/- What a drawn region leaves that makes a distribution by calls and puts it into a box of its own. -/
import Derived.Test.YtlpcgchekhoieaaShI
namespace Go.Proofs.Ytlpcgchekhoieaa.Lz
open Go.RowKit Pairs Rec Keep GivesI Di ShI
set_option linter.unusedVariables false
def RelM (W wc : World) (gb : Nat) (p1 : Option Addr) (k1 d1 : Nat) (fr : Int) (A : List Int) : Prop :=
  (wc.cell? ⟨gb, 0, none⟩ = some (.int .i64 fr) ∧ wc.cell? ⟨gb, 1, none⟩ = some (.slice p1 k1 d1) ∧ gb < wc.heap.size ∧ W.heap.size ≤ gb) ∧ wc.ownsRow W.heap.size 3 1 (.slice p1 k1 d1) k1 (ints A) ∧ k1 ≤ 1048576 ∧ Below W.heap.size W wc
theorem relM_new {W X : World} {p1 : Option Addr} {k1 d1 B : Nat} {fr : Int} {A : List Int} {T : TypeId} (ho : X.ownsRow B 3 1 (.slice p1 k1 d1) k1 (ints A)) (hB : W.heap.size ≤ B) (hk : k1 ≤ 1048576) (hb : Below W.heap.size W X) :
    RelM W (X.alloc (.cells #[.int .i64 fr, .slice p1 k1 d1] T)) X.heap.size p1 k1 d1 fr A :=
  ⟨⟨(bx_new X _ _ _).c0, (bx_new X _ _ _).c1, (bx_new X _ _ _).lt, hb.size⟩, ownsRow_base (ownsRow_below ho (below_alloc X _)) hB, hk, hb.trans ((below_alloc X _).mono hb.size)⟩
theorem relM_put {W X : World} {gb : Nat} {u v : Value} {p1 : Option Addr} {k1 d1 B : Nat} {fr : Int} {A : List Int} (hx : Bx X gb u v) (ho : X.ownsRow B 3 1 (.slice p1 k1 d1) k1 (ints A)) (hgB : gb < B) (hg : W.heap.size ≤ gb) (hk : k1 ≤ 1048576) (hb : Below W.heap.size W X) :
    RelM W ((X.setCell ⟨gb, 0, none⟩ (.int .i64 fr)).setCell ⟨gb, 1, none⟩ (.slice p1 k1 d1)) gb p1 k1 d1 fr A :=
  have h := bx_put hx (.int .i64 fr) (.slice p1 k1 d1)
  ⟨⟨h.c0, h.c1, h.lt, hg⟩, ownsRow_base (ownsRow_setCell_below (ownsRow_setCell_below ho (a := ⟨gb, 0, none⟩) hgB _) (a := ⟨gb, 1, none⟩) hgB _) (by omega), hk, (hb.setCell (p := ⟨gb, 0, none⟩) hg _).setCell (p := ⟨gb, 1, none⟩) hg _⟩
end Go.Proofs.Ytlpcgchekhoieaa.Lz
