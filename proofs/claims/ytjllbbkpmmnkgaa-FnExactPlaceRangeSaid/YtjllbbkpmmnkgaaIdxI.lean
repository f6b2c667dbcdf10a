/- The program's ContextIndex. -/
import Derived.Test.YtjllbbkpmmnkgaaIdx
namespace Go.Proofs.Ytjllbbkpmmnkgaa.Idx
open Go.RowKit Pairs Find2 GoodM
set_option maxRecDepth 100000 in
set_option maxHeartbeats 1000000 in
theorem impl_Index : LawKit.AnswersI 32 idx := by
  intro a1 a2 n1 c1 n2 c2 l m z w hz1 hz2 h1 h2
  have hb := below_alloc w (.cells #[.slice a1 n1 c1, .slice a2 n2 c2] 32)
  have hf := box_first w (.slice a1 n1 c1) (.slice a2 n2 c2) 32
  have hf2 := box_second w (.slice a1 n1 c1) (.slice a2 n2 c2) 32
  have H1 := Lib.hid (h1.below hb)
  have H2 := Lib.hid (h2.below hb)
  have hsz : w.heap.size < (w.alloc (.cells #[.slice a1 n1 c1, .slice a2 n2 c2] 32)).heap.size := by simp
  clear h1 h2
  go_enter Try.func32, Try.ntmps32
  go_wp2_with fail
  generalize w.alloc (.cells #[.slice a1 n1 c1, .slice a2 n2 c2] 32) = W at *
  refine (Avr.impl_any a1 a2 n1 c1 n2 c2 l m W hz1 hz2 H1.out H2.out).mono ?_
  rintro e w1 ⟨rfl, b1⟩
  have r1 := (b1.cell (p := ⟨w.heap.size, 0, none⟩) hsz).trans hf
  have r2 := (b1.cell (p := ⟨w.heap.size, 1, none⟩) hsz).trans hf2
  cases hg : good l m with
  | false =>
    have HE : Hid (idx l m z = (0, false)) := by
      unfold Hid idx
      rw [if_neg (by rw [hg]; simp)]
    clear hg
    go_wp2_with fail
    go_ret2
    exact ⟨by rw [HE.out]; rfl, hb.trans (b1.mono hb.size)⟩
  | true =>
    have HV := Lib.hid hg
    clear hg
    go_wp2_with fail
    refine (Avr.placeOfContext_any a1 a2 n1 c1 n2 c2 l z w1 hz1 (H1.out.below b1) (good_asc HV.out).1).mono ?_
    rintro e w2 ⟨rfl, b2⟩
    have b12 := b1.trans (b2.mono b1.size)
    cases ha : isAt l z with
    | none =>
      have HE : Hid (idx l m z = (0, false)) := by
        unfold Hid idx
        rw [if_neg (by rw [ha]; simp)]
      clear ha
      simp only [Option.isSome_none]
      go_wp2_with fail
      go_ret2
      exact ⟨by rw [HE.out]; rfl, hb.trans (b12.mono hb.size)⟩
    | some k =>
      have HE : Hid (idx l m z = (((pl l z : Nat) : Int), true)) := by
        unfold Hid idx
        rw [if_pos ⟨HV.out, by rw [ha]; rfl⟩, find_some ha, Search.isAt_found (good_asc HV.out).1 ha]
      clear ha
      simp only [Option.isSome_some]
      go_wp2_with fail
      go_ret2
      exact ⟨by rw [HE.out]; rfl, hb.trans (b12.mono hb.size)⟩
end Go.Proofs.Ytjllbbkpmmnkgaa.Idx
