/- laterPairs: the function that makes the iterator. -/
import Derived.Test.YtmjhgjlnpnkmkaaLpI
namespace Go.Proofs.Ytmjhgjlnpnkmkaa.LpF
open Go.RowKit Pairs Rec RecEq Chain Find2 GoodM Keep GivesI Order LpM LpI
set_option linter.unusedVariables false
def LpAns (l m : Ps) (a1 : Option Addr) (n1 c1 : Nat) (w : World) (e : Ending) (w' : World) : Prop :=
  ∃ br bo bx : Nat, e = .returned (.func (.func 100) #[] #[.pointer (some ⟨br, 0, none⟩), .pointer (some ⟨bo, 0, none⟩)]) ∧ w'.cell? ⟨br, 0, none⟩ = some (.slice a1 n1 c1) ∧
    w'.cell? ⟨bo, 0, none⟩ = some (.func (.func 113) #[] #[.pointer (some ⟨bx, 0, none⟩)]) ∧ IsOrd w' l m bx ∧ w.heap.size ≤ br ∧ w.heap.size ≤ bo ∧ Below w.heap.size w w'
set_option maxRecDepth 100000 in
set_option maxHeartbeats 2000000 in
theorem laterPairs_any (a1 a2 : Option Addr) (n1 c1 n2 c2 : Nat) (l m : Ps) (w : World) (hg : good l m = true) (h1 : Holds w a1 n1 l) (h2 : Holds w a2 n2 m) :
    Calls Try.prog 64 #[.agg #[.slice a1 n1 c1, .slice a2 n2 c2]] w (LpAns l m a1 n1 c1 w) := by
  have hb := below_alloc w (.cells #[.slice a1 n1 c1, .slice a2 n2 c2] 33)
  have hf := box_first w (.slice a1 n1 c1) (.slice a2 n2 c2) 33
  have hf2 := box_second w (.slice a1 n1 c1) (.slice a2 n2 c2) 33
  have hsz : w.heap.size < (w.alloc (.cells #[.slice a1 n1 c1, .slice a2 n2 c2] 33)).heap.size := by simp
  have H1 := Lib.hid (h1.below hb)
  have H2 := Lib.hid (h2.below hb)
  have HB := Lib.hid hb
  have HG := Lib.hid hg
  clear h1 h2 hb hg
  go_enter Try.func64, Try.ntmps64
  go_wp2_with fail
  generalize w.alloc (.cells #[.slice a1 n1 c1, .slice a2 n2 c2] 33) = W at *
  refine (orderOf_any a1 a2 n1 c1 n2 c2 l m W HG.out H1.out H2.out).mono ?_
  rintro e w1 ⟨bx, rfl, ho, b1⟩
  have r1 := (b1.cell (p := ⟨w.heap.size, 0, none⟩) hsz).trans hf
  have HB1 := Lib.hid (HB.out.trans (b1.mono HB.out.size))
  have HO := Lib.hid (ho.below (below_alloc w1 (.cells #[.func (.func 113) #[] #[.pointer (some ⟨bx, 0, none⟩)]] 83)))
  have HB2 := Lib.hid (HB1.out.trans ((below_alloc w1 (.cells #[.func (.func 113) #[] #[.pointer (some ⟨bx, 0, none⟩)]] 83)).mono HB1.out.size))
  have HR := Lib.hid (((below_alloc w1 (.cells #[.func (.func 113) #[] #[.pointer (some ⟨bx, 0, none⟩)]] 83)).cell (p := ⟨w.heap.size, 0, none⟩) (Nat.lt_of_lt_of_le hsz b1.size)).trans r1)
  clear ho b1 hf hf2
  go_wp2_with fail
  go_ret
  refine ⟨w.heap.size, w1.heap.size, bx, rfl, HR.out, ?_, HO.out, Nat.le_refl _, HB1.out.size, HB2.out⟩
  rw [World.cell?_alloc_mark]
  rfl
end Go.Proofs.Ytmjhgjlnpnkmkaa.LpF
