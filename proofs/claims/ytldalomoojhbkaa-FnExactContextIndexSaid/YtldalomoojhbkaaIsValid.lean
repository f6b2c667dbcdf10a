/- FnExactIsValidRecord: at every argument IsValidRecord answers as its model does, and leaves its argument as it was. No condition. -/
import Derived.Test.YtldalomoojhbkaaAvr
import Derived.Test.YtldalomoojhbkaaGood2
import Derived.Test.YtldalomoojhbkaaValidFrame
namespace Go.Proofs.Ytldalomoojhbkaa
open Go.RowKit Pairs Find2 GoodM
theorem spec_IsValid : ValidWalk.Answers 14 good := by
  intro a1 a2 n1 c1 n2 c2 l m w hz1 hz2 h1 h2
  have hb := below_alloc w (.cells #[.slice a1 n1 c1, .slice a2 n2 c2] 27)
  have hf := box_first w (.slice a1 n1 c1) (.slice a2 n2 c2) 27
  have hf2 := box_second w (.slice a1 n1 c1) (.slice a2 n2 c2) 27
  have H1 := Lib.hid (h1.below hb)
  have H2 := Lib.hid (h2.below hb)
  clear h1 h2
  go_enter Try.func14, Try.ntmps14
  go_wp2_with fail
  generalize w.alloc (.cells #[.slice a1 n1 c1, .slice a2 n2 c2] 27) = W at *
  refine (Good2.l2Good_any a1 a2 n1 c1 n2 c2 l m W H1.out H2.out).mono ?_
  rintro e w1 ⟨rfl, b1⟩
  go_wp2_with fail
  go_ret
  exact ⟨rfl, hb.trans (b1.mono hb.size)⟩
theorem fnExactIsValidRecord_proved : Rows.FnExactIsValidRecordSaid := ValidFrame.over good Avr.impl_any spec_IsValid
end Go.Proofs.Ytldalomoojhbkaa
