/- The walk of the law FnExactSequenceDistance at what the row's condition and the arguments give. -/
import Derived.Test.YtjllbbkpmmnkgaaDoorRowI
import Derived.Test.YtjllbbkpmmnkgaaDoorWSequenceDistance
import Derived.Test.YtjllbbkpmmnkgaaDoorDisP
import Derived.Test.YtjllbbkpmmnkgaaDoorDisS
import Derived.ShapedOpen
namespace Go.Proofs.YtjllbbkpmmnkgaaDoor.DSequenceDistance
open Go.RowKit GivesI Tz RowI Pairs Rec
set_option linter.unusedVariables false
theorem vars {W : World} (h : laidMetH Tryd.prog Rows.fnExactSequenceDistanceRow.laid W) : Tab W := by
  have h1 := laidMetH.filter (fun x => x.1 == "math/bits.deBruijn64tab") h
  rw [show (Rows.fnExactSequenceDistanceRow.laid.filter fun x => x.1 == "math/bits.deBruijn64tab") = [("math/bits.deBruijn64tab", Lib.tabData .u8 zs64)] by kernel_rfl] at h1
  exact tab_of h1
theorem walk (b1 b2 : Option Addr) (n1 c1 n2 c2 : Nat) (l1 l2 : List (Int × Int)) (a1 : Option Addr) (len1 cap1 : Nat) (zs1 : List Int) (a2 : Option Addr) (len2 cap2 : Nat) (zs2 : List Int) (W : World) (z1 : n1 ≤ 9223372036854775807) (z2 : n2 ≤ 9223372036854775807) (H1 : Holds W b1 n1 l1) (H2 : Holds W b2 n2 l2) (w1 : IsRow .i64 W a1 len1 cap1 zs1) (w2 : IsRow .i64 W a2 len2 cap2 zs2) (hL : laidMetH Tryd.prog Rows.fnExactSequenceDistanceRow.laid W) (hsh : World.ShapedOpen Tryd.prog W) :
    Calls Tryd.prog 4 #[.agg #[.slice b1 n1 c1, .slice b2 n2 c2], .slice a1 len1 cap1, .slice a2 len2 cap2] W fun e w' => e = .returned (.bool true) ∧ Below W.heap.size W w' :=
  WSequenceDistance.walk  Tab (fun _ _ h hb => h.below hb) DisM.sdP (fun a1 a2 n1 c1 n2 c2 l m p np L q nq M w _ h1 h2 g1 g2 h3 g3 h4 g4 hT => DisP.impl_any a1 a2 p q n1 c1 n2 c2 np nq l m L M w h1 h2 h3 h4 g1 g2 g3 g4 hT) (fun a1 a2 n1 c1 n2 c2 l m p np L q nq M w _ h1 h2 g1 g2 h3 g3 h4 g4 => DisS.spec_any a1 a2 p q n1 c1 n2 c2 np nq l m L M w h1 h2 h3 h4 g1 g2 g3 g4) b1 b2 n1 c1 n2 c2 l1 l2 a1 len1 cap1 (zs1.take len1) a2 len2 cap2 (zs2.take len2) W z1 z2 H1 H2 (holds_row w1) (holds_row w2) (vars hL)
end Go.Proofs.YtjllbbkpmmnkgaaDoor.DSequenceDistance
