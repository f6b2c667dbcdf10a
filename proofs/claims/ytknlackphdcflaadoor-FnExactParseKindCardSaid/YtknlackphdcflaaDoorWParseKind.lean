/- The walk of the law FnExactParseKind. -/
import Derived.Test.YtknlackphdcflaaDoorParseK
import Derived.LaidSub
import Derived.Stop.LaidErr
import Derived.Lay
namespace Go.Proofs.YtknlackphdcflaaDoor.WParseKind
open Go.RowKit Words ParseK
set_option linter.unusedVariables false
set_option maxHeartbeats 400000 in
theorem walk (a0 : ByteArray) (w : World) (w0 : a0.size ≤ maxLen) (hL : laidMetH Tryd.prog Rows.fnExactParseKindRow.laid w) (hsh : World.ShapedOpen Tryd.prog w) :
    Calls Tryd.prog 4 #[.string a0] w fun e w' => e = .returned (.bool true) ∧ Below w.heap.size w w' := by
  have hT : KTab w := ktab_of hL
  clear hL hsh
  unfold maxLen at w0
  generalize hk : kindOf a0 = r
  have HK := Lib.hid hk
  clear hk
  generalize hk : decide (0 < r) = p
  have HP := Lib.hid hk
  clear hk
  by_cases hbig : (1048576 : Int) < (a0.size : Int)
  · go_enter Tryd.func4, Tryd.ntmps4
    go_wp2_with fail
    go_ret
    exact ⟨rfl, Below.refl _ _⟩
  · go_enter Tryd.func4, Tryd.ntmps4
    go_wp2_with fail
    refine (pos_of a0 _).mono ?_
    rintro e w1 ⟨rfl, b1⟩
    have ht1 := Lib.hid (hT.below b1)
    clear hT
    rw [HK.out, HP.out]
    go_wp2_with fail
    refine (impl_ParseKind a0 _ ht1.out).mono ?_
    rintro e w2 ⟨rfl, rfl⟩
    rw [HK.out, HP.out]
    go_wp2_with fail
    go_ret
    exact ⟨rfl, b1⟩
end Go.Proofs.YtknlackphdcflaaDoor.WParseKind
