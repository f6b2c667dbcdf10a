/- The walk of the law FnExactKindWord. -/
import Derived.Test.YtknlackphdcflaaDoorWords
import Derived.LaidSub
import Derived.Stop.LaidErr
import Derived.Lay
namespace Go.Proofs.YtknlackphdcflaaDoor.WKindWord
open Go.RowKit Words
set_option linter.unusedVariables false
set_option maxHeartbeats 400000 in
theorem walk (a0 : Int) (w : World) (w0 : (Lit.int .i64 a0).wf = true) (hL : laidMetH Tryd.prog Rows.fnExactKindWordRow.laid w) (hsh : World.ShapedOpen Tryd.prog w) :
    Calls Tryd.prog 3 #[.int .i64 a0] w fun e w' => e = .returned (.bool true) ∧ Below w.heap.size w w' := by
  have hT : KTab w := ktab_of hL
  clear hL hsh w0
  generalize hk : kw a0 = r
  have HK := Lib.hid hk
  clear hk
  obtain ⟨s, b⟩ := r
  go_enter Tryd.func3, Tryd.ntmps3
  go_wp2_with fail
  refine (spec_KindWord a0 _).mono ?_
  rintro e w1 ⟨rfl, b1⟩
  have ht1 := Lib.hid (hT.below b1)
  clear hT
  rw [HK.out]
  go_wp2_with fail
  refine (impl_KindWord a0 _ ht1.out).mono ?_
  rintro e w2 ⟨rfl, rfl⟩
  rw [HK.out]
  go_wp2_with fail
  go_ret
  exact ⟨rfl, b1⟩
end Go.Proofs.YtknlackphdcflaaDoor.WKindWord
