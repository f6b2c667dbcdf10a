/- For seats with records: what Ib gives on seats without them. -/
import Derived.Test.YtfbgekhkbbhggaaGivesI
import Derived.Test.YtfbgekhkbbhggaaIntT
import Derived.Deep.QuietTactic
import Derived.BigQuiet
import Derived.StillTailTactics
import Derived.Deep.Heap
import Derived.Laws.OwnMore
import Derived.Deep.SlicePairs
import Derived.ChangeArms
import Derived.OpenShut
import Derived.Deep.RegionHeld3
import Derived.Deep.RegionWith
import Derived.ChangeOld
import Derived.ChangeSlices
namespace Go.Proofs.Ytfbgekhkbbhggaa.Da
open Go.ChangeShapes Go.WideShapes Go.RowKit Go.Deep Pairs Rec Keep GivesI RecOpen
section
variable {H : Type} {enc : TypeId × Value → H} {w : World} {base : Nat} {spare : Nat → Bool} {held : Bool}
theorem open_intS {t e : TypeId} {fuel : Nat} {v : Value} {x : DataW H × List MemPlace} (ht : Try.prog.underlying t = some (.slice e)) (he : Try.prog.underlying e = some (.int .i64)) (ce : Try.prog.cellsOf e = 1)
    (h : DataW.trod enc Try.prog w base spare held fuel t [v] = some x) : ∃ (p : Option Addr) (j c : Nat) (M : List Int), v = .slice p j c ∧ j ≤ 9223372036854775807 ∧ HoldsI w p j M := by
  rcases open_ints ht he ce h with ⟨hcs, _⟩ | ⟨a, len, cap, zs, hcs, _, hl, hm, hz, _, hc, _⟩
  · obtain rfl : v = .slice none 0 0 := by simpa using hcs
    exact ⟨none, 0, 0, [], rfl, by omega, rfl, .inl rfl⟩
  · obtain rfl : v = .slice (some a) len cap := by simpa using hcs
    unfold maxLen at hm
    have hlm : len ≤ zs.length := by rw [hz]; split <;> omega
    refine ⟨some a, len, cap, zs.take len, rfl, by omega, by rw [List.length_take]; omega, ?_⟩
    by_cases h0 : len = 0
    · exact .inl h0
    · right
      obtain ⟨b, off, spot⟩ := a
      have c0 := hc 0 (by omega)
      have hspot : spot = none := by simpa [Addr.add] using World.cell?_spot c0
      subst hspot
      refine ⟨b, off, rfl, ?_, fun i x hi => ?_⟩
      · have := cell_lt c0
        rw [add_block] at this
        exact this
      · have hil : i < len := by have := (List.getElem?_eq_some_iff.1 hi).1; rw [List.length_take] at this; omega
        have e := hc i (by omega)
        rw [add_eq] at e
        rw [List.getElem?_take_of_lt hil] at hi
        rw [e, List.getD_eq_getElem?_getD, hi]
        rfl
end
end Go.Proofs.Ytfbgekhkbbhggaa.Da
