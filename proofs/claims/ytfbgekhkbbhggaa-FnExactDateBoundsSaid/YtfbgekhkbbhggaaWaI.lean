/- The program's WeightAt. -/
import Derived.Test.YtfbgekhkbbhggaaWwI
namespace Go.Proofs.Ytfbgekhkbbhggaa.WaI
open Go Go.RowKit Pairs Rec Keep GivesI DvM DvG DvI ShI Yr AtM WwI
set_option linter.unusedVariables false
def waP (y f : Int) (M : List Int) : Int × Int × Bool := if okD f M && isY y then (wat f M y, M.sum, true) else (0, 0, false)
theorem waP_no {y f : Int} {M : List Int} (h : okD f M = true → isY y = true → False) : waP y f M = (0, 0, false) := by
  unfold waP
  rw [if_neg]
  intro e
  rw [Bool.and_eq_true] at e
  exact h e.1 e.2
theorem waP_yes {y f : Int} {M : List Int} (h1 : okD f M = true) (h2 : isY y = true) : waP y f M = (wat f M y, M.sum, true) := by
  unfold waP
  rw [h1, h2]
  rfl
end Go.Proofs.Ytfbgekhkbbhggaa.WaI
