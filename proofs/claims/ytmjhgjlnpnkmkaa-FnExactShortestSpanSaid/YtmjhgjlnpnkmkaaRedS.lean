/- The model's l5Good and l5Redundant. -/
import Derived.Test.YtmjhgjlnpnkmkaaRedM
import Derived.Test.YtmjhgjlnpnkmkaaConsistA
import Derived.Test.YtmjhgjlnpnkmkaaConsistB
namespace Go.Proofs.Ytmjhgjlnpnkmkaa.RedS
open Go.RowKit Pairs Rec RecEq Chain Find2 GoodM Keep GivesI Lows Order Bit Table Idx That IsLater Consist OrdM RedM
noncomputable def cyc (l m : Ps) : Bool := l.any fun p => later m p.1 p.1
set_option maxRecDepth 100000 in
set_option maxHeartbeats 4000000 in
theorem l5Good_any (a1 a2 : Option Addr) (n1 c1 n2 c2 : Nat) (l m : List (Int × Int)) (w : World) (h1 : Holds w a1 n1 l) (h2 : Holds w a2 n2 m) :
    Calls Try.prog 84 #[.agg #[.slice a1 n1 c1, .slice a2 n2 c2]] w fun e w' => e = .returned (.bool (good l m && !cyc l m)) ∧ Below w.heap.size w w' := by
  have hb := below_alloc w (.cells #[.slice a1 n1 c1, .slice a2 n2 c2] 33)
  have hf := box_first w (.slice a1 n1 c1) (.slice a2 n2 c2) 33
  have hf2 := box_second w (.slice a1 n1 c1) (.slice a2 n2 c2) 33
  have hsz : w.heap.size < (w.alloc (.cells #[.slice a1 n1 c1, .slice a2 n2 c2] 33)).heap.size := by simp
  have H1 := Lib.hid (h1.below hb)
  have H2 := Lib.hid (h2.below hb)
  clear h1 h2
  go_enter Try.func84, Try.ntmps84
  go_wp2_with fail
  generalize w.alloc (.cells #[.slice a1 n1 c1, .slice a2 n2 c2] 33) = W at *
  refine (Good2.l2Good_any a1 a2 n1 c1 n2 c2 l m W H1.out H2.out).mono ?_
  rintro e w1 ⟨rfl, b1⟩
  have r1 := (b1.cell (p := ⟨w.heap.size, 0, none⟩) hsz).trans hf
  have r2 := (b1.cell (p := ⟨w.heap.size, 1, none⟩) hsz).trans hf2
  have HB1 := Lib.hid (hb.trans (b1.mono hb.size))
  cases hg : good l m with
  | false =>
    have HG := Lib.hid hg
    clear hg
    go_wp2_with fail
    go_ret
    exact ⟨by rw [HG.out, Bool.false_and]; rfl, HB1.out⟩
  | true =>
    have HG := Lib.hid hg
    clear hg
    go_wp2_with fail
    refine (l4Consistent_any a1 a2 n1 c1 n2 c2 l m w1 HG.out (H1.out.below b1) (H2.out.below b1)).mono ?_
    rintro e w2 ⟨rfl, b2⟩
    have HB2 := Lib.hid (HB1.out.trans (b2.mono HB1.out.size))
    have hA : (l.any fun p => later m p.1 p.1) = cyc l m := rfl
    rw [hA]
    clear hA b1 b2 hb
    generalize hbb : cyc l m = bb
    have HBB := Lib.hid hbb
    clear hbb
    go_wp2_with fail
    go_ret
    exact ⟨by rw [HG.out, HBB.out, Bool.true_and]; rfl, HB2.out⟩
end Go.Proofs.Ytmjhgjlnpnkmkaa.RedS
