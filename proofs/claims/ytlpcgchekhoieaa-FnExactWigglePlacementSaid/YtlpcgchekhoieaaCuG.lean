/- What a function leaves that gives a list of ints or a curve, and lists that stay held where others are marked. -/
import Derived.Test.YtlpcgchekhoieaaDi
import Derived.Test.YtlpcgchekhoieaaCuM
import Derived.Test.YtlpcgchekhoieaaMe
namespace Go.Proofs.Ytlpcgchekhoieaa.CuG
open Go.RowKit Pairs Rec Keep GivesI Cu
def ResI (ok : Bool) (L : List Int) (w : World) (e : Ending) (w' : World) : Prop :=
  ∃ (p : Option Addr) (k d : Nat), e = .returned (.tuple #[.slice p k d, .bool ok]) ∧ w'.ownsRow w.heap.size 3 1 (.slice p k d) k (ints L) ∧ k ≤ 1048576 ∧ Below w.heap.size w w'
def ResC (ok : Bool) (L : List Dt) (w : World) (e : Ending) (w' : World) : Prop :=
  ∃ (p : Option Addr) (k d : Nat), e = .returned (.tuple #[.slice p k d, .bool ok]) ∧ w'.ownsRow w.heap.size 75 3 (.slice p k d) k (flatD L) ∧ k ≤ 1048576 ∧ Below w.heap.size w w'
theorem heldKeptD {S : Nat → Prop} {w0 w w' : World} {p : Option Addr} {n : Nat} {M : List Dt} (h0 : HoldsD w0 p n M) (h : HoldsD w p n M) (k : Kept S w w') (hs : ∀ b, b < w0.heap.size → ¬ S b) : HoldsD w' p n M := by
  refine ⟨h.1, ?_⟩
  rcases h0.2 with h2 | ⟨b, off, ha, hbw, _⟩
  · exact .inl h2
  · rcases h.2 with h3 | ⟨b', off', ha', hbw', hc⟩
    · exact .inl h3
    · have e : b' = b := by
        rw [ha] at ha'
        injection ha' with e
        injection e with e1 e2
        exact e1.symm
      have hq : ¬ S b' := by rw [e]; exact hs b hbw
      exact .inr ⟨b', off', ha', Nat.lt_of_lt_of_le hbw' k.size, fun i x hi => ⟨k.cell (hc i x hi).1 hq, k.cell (hc i x hi).2.1 hq, k.cell (hc i x hi).2.2 hq⟩⟩
theorem heldKeptP {S : Nat → Prop} {w0 w w' : World} {p : Option Addr} {n : Nat} {M : List (Int × Int)} (h0 : Holds w0 p n M) (h : Holds w p n M) (k : Kept S w w') (hs : ∀ b, b < w0.heap.size → ¬ S b) : Holds w' p n M := by
  refine ⟨h.1, ?_⟩
  rcases h0.2 with h2 | ⟨b, off, ha, hbw, _⟩
  · exact .inl h2
  · rcases h.2 with h3 | ⟨b', off', ha', hbw', hc⟩
    · exact .inl h3
    · have e : b' = b := by
        rw [ha] at ha'
        injection ha' with e
        injection e with e1 e2
        exact e1.symm
      have hq : ¬ S b' := by rw [e]; exact hs b hbw
      exact .inr ⟨b', off', ha', Nat.lt_of_lt_of_le hbw' k.size, fun i x hi => ⟨k.cell (hc i x hi).1 hq, k.cell (hc i x hi).2 hq⟩⟩
end Go.Proofs.Ytlpcgchekhoieaa.CuG
