/- The program's ContextIndex: the place of a number in a valid record. -/
import Derived.Test.YtmjhgjlnpnkmkaaAvr
namespace Go.Proofs.Ytmjhgjlnpnkmkaa.Idx
open Go.RowKit Pairs Find2 GoodM
def idx (l m : List (Int × Int)) (z : Int) : Int × Bool := if good l m = true ∧ (isAt l z).isSome = true then (find l z, true) else (0, false)
theorem good_asc {l m : List (Int × Int)} (h : good l m = true) : Asc l ∧ l.length ≤ 10 := by
  rw [Avr.good_split, Bool.and_eq_true] at h
  exact Avc.vc_asc h.1
end Go.Proofs.Ytmjhgjlnpnkmkaa.Idx
