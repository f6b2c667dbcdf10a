/- The walk of the law FnExactParseNumbers. -/
import Derived.Test.YtaikphcemldikaaDoorNumsS
import Derived.Test.YtaikphcemldikaaDoorLaid
import Derived.ShapedOpen
import Derived.Lay
namespace Go.Proofs.YtaikphcemldikaaDoor.WParseNumbers
open Go.RowKit GivesI NumsI Keep Pairs Spl NumsM
set_option linter.unusedVariables false
theorem vars {W : World} (h : laidMetH Tryd.prog Rows.fnExactParseNumbersRow.laid W) : Parse.Vars W := by
  have h1 := laidMetH.filter (fun x => x.1 == "internal/strconv.uint64pow10") h
  have h2 := laidMetH.filter (fun x => x.1 == "strconv.ErrSyntax") h
  have h3 := laidMetH.filter (fun x => x.1 == "strconv.ErrRange") h
  rw [show (Rows.fnExactParseNumbersRow.laid.filter fun x => x.1 == "internal/strconv.uint64pow10") = [("internal/strconv.uint64pow10", Lib.tabData .u64 Lib.pow10Tab)] by kernel_rfl] at h1
  rw [show (Rows.fnExactParseNumbersRow.laid.filter fun x => x.1 == "strconv.ErrSyntax") = [("strconv.ErrSyntax", Rows.laid_strconv_ErrSyntax)] by kernel_rfl] at h2
  rw [show (Rows.fnExactParseNumbersRow.laid.filter fun x => x.1 == "strconv.ErrRange") = [("strconv.ErrRange", Rows.laid_strconv_ErrRange)] by kernel_rfl] at h3
  exact ⟨Laid.tab_of h1, Laid.syn_of h2, Laid.rng_of h3⟩
theorem mem {w : World} (hv : Parse.Vars w) (hsh : World.ShapedOpen Tryd.prog w) : Mem w :=
  ⟨hv, cell_of_shapedOpen_int (P := Tryd.prog) (g := 1) (t := 3) (zero := #[.int .i64 0]) hsh (of_decide_eq_true (by kernel_rfl)) (by kernel_rfl) rfl (by kernel_rfl) (by kernel_rfl) Tryd.underlying3⟩
set_option maxRecDepth 100000 in
set_option maxHeartbeats 4000000 in
theorem walk (a0 : ByteArray) (w : World) (w0 : a0.size ≤ maxLen) (hL : laidMetH Tryd.prog Rows.fnExactParseNumbersRow.laid w) (hsh : World.ShapedOpen Tryd.prog w) :
    Calls Tryd.prog 3 #[.string a0] w fun e w' => e = .returned (.bool true) ∧ Below w.heap.size w w' := by
  have hv := mem (vars hL) hsh
  have HV : Hid (∀ wr, Below w.heap.size w wr → Mem wr) := fun wr hb => hv.below hb
  clear hL hsh hv
  unfold maxLen at w0
  by_cases hs : a0.size ≤ 1048576
  · have hM := fun W => NumsS.spec_any a0 W hs
    have hI := fun W => NumsI.impl_any a0 W hs
    unfold Ans at hM hI
    generalize (rv (tl' a0)).isSome = ok at hM hI
    generalize (rv (tl' a0)).getD [] = L at hM hI
    have HM := Lib.hid hM
    have HI := Lib.hid hI
    clear hM hI
    go_enter Tryd.func3, Tryd.ntmps3
    go_wp2_with fail
    refine (HM.out _).mono ?_
    rintro e X ⟨p1, k1, d1, rfl, gw, q1, b1⟩
    have GW := Lib.hid (GivesI.holds_own gw)
    have HBX := Lib.hid b1
    clear gw b1
    go_wp2_with fail
    refine (HI.out X (HV.out X HBX.out)).mono ?_
    rintro e w2 ⟨p2, k2, d2, rfl, gg, q2, b2⟩
    obtain rfl : k1 = k2 := by rw [← (GivesI.holds_own gg).1, ← GW.out.1]
    have GL : Hid (∀ b, (Value.slice p2 k1 d2).ownBlock = some b → X.heap.size ≤ b ∧ b < w2.heap.size) := gg.lt
    have GG := Lib.hid gg
    clear gg
    go_wp2_with fail
    refine (GivesI.eq_same p2 p1 k1 d2 d1 L q1 w2 (GivesI.holds_own GG.out) (GW.out.below b2)).mono ?_
    rintro e w3 ⟨rfl, b23⟩
    have b3 := b2.trans (b23.mono b2.size)
    have GG3 := Lib.hid (ownsRow_below GG.out b23)
    clear b2 b23 GG
    go_wp2_with fail
    refine (GivesI.mark_any _ p2 k1 d2 1 (GivesI.ints L) (by omega) (by omega) q1 w3 GG3.out).mono ?_
    rintro e w4 ⟨rfl, gm, q34⟩
    have b4 : Below X.heap.size X w4 := b3.trans (q34.below (fun b hb => by have := (GL.out b hb).1; omega) b3.size)
    have GM := Lib.hid (GivesI.holds_own gm)
    clear gm q34 GG3 b3
    go_wp2_with fail
    refine (GivesI.held_any p2 k1 d2 1 (by omega) (by omega) q1 w4 GM.out).mono ?_
    rintro e w5 ⟨rfl, rfl⟩
    have hkk : ¬ 1 + (k1 : Int) < 0 := by omega
    have HB4 := Lib.hid (HBX.out.trans (b4.mono HBX.out.size))
    go_wp2_with fail
    refine (HI.out w5 (HV.out w5 HB4.out)).mono ?_
    rintro e w6 ⟨p3, k3, d3, rfl, gh, q3, b56⟩
    obtain rfl : k1 = k3 := by rw [← (GivesI.holds_own gh).1, ← GW.out.1]
    have b6 := b4.trans (b56.mono b4.size)
    have GH := Lib.hid (GivesI.holds_own gh)
    have GM6 := Lib.hid (GM.out.below b56)
    clear gh b56 b4 GM
    go_wp2_with fail
    refine (GivesI.eq_same p3 p1 k1 d3 d1 L q1 w6 GH.out (GW.out.below b6)).mono ?_
    rintro e w7 ⟨rfl, b67⟩
    have b7 := b6.trans (b67.mono b6.size)
    have GM7 := Lib.hid (GM6.out.below b67)
    clear GH GM6 b67 b6
    go_wp2_with fail
    refine (GivesI.held_any p2 k1 d2 1 (by omega) (by omega) q1 w7 GM7.out).mono ?_
    rintro e w8 ⟨rfl, rfl⟩
    have HB := Lib.hid (HBX.out.trans (b7.mono HBX.out.size))
    clear b7
    go_wp2_with fail
    go_ret
    exact ⟨rfl, HB.out⟩
  · go_enter Tryd.func3, Tryd.ntmps3
    go_wp2_with fail
    go_ret
    exact ⟨rfl, Below.refl _ _⟩
end Go.Proofs.YtaikphcemldikaaDoor.WParseNumbers
