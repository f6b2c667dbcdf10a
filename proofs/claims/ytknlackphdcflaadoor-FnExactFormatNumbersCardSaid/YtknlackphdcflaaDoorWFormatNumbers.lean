/- The walk of the law FnExactFormatNumbers. -/
import Derived.Test.YtknlackphdcflaaDoorIntS
import Derived.Test.YtknlackphdcflaaDoorListI
import Derived.Lib.LaidTab
import Derived.LaidSub
import Derived.Stop.LaidErr
import Derived.Lay
namespace Go.Proofs.YtknlackphdcflaaDoor.WFormatNumbers
open Go.RowKit ListS IntS ListI
set_option linter.unusedVariables false
def IsRow (k : IntKind) (w : World) (a : Option Addr) (len cap : Nat) (zs : List Int) : Prop :=
  (a = none ∧ len = 0 ∧ cap = 0 ∧ zs = []) ∨
  ∃ x, a = some x ∧ len ≤ cap ∧ cap ≤ maxLen ∧ zs.length = cap ∧ (∀ i, i < zs.length → w.cell? (x.add i) = some (.int k (zs.getD i 0))) ∧ ∀ n ∈ zs, (Lit.int k n).wf = true
theorem ints_of {w : World} {a : Option Addr} {n c : Nat} {zs : List Int} (h : IsRow .i64 w a n c zs) : Ints w a n (zs.take n) := by
  rcases h with ⟨_, rfl, _, _⟩ | ⟨x, rfl, hl, hm, hz, hc, _⟩
  · exact ⟨by simp, .inl rfl⟩
  · refine ⟨by rw [List.length_take]; omega, ?_⟩
    by_cases h0 : n = 0
    · exact .inl h0
    · obtain ⟨b, off, spot⟩ := x
      have hc0 := hc 0 (by omega)
      have hspot : spot = none := by simpa [Addr.add] using World.cell?_spot hc0
      subst hspot
      have hlt : b < w.heap.size := by
        have := World.block_lt_of_cell? w _ hc0
        simpa [Addr.add] using this
      refine .inr ⟨b, off, rfl, hlt, fun i z hi => ?_⟩
      have hin := (List.getElem?_eq_some_iff.1 hi).1
      rw [List.length_take] at hin
      rw [List.getElem?_take_of_lt (by omega)] at hi
      have hci := hc i (by omega)
      rw [List.getD_eq_getElem?_getD, hi] at hci
      have e : (⟨b, off, none⟩ : Addr).add i = ⟨b, off + i, none⟩ := by
        unfold Addr.add
        by_cases h : i = 0
        · subst h; simp
        · simp [h]
      rw [e] at hci
      exact hci
theorem gTabType : (Tryd.prog.globals[2]?).map (·.type) = some 128 := by kernel_rfl
theorem tab {W : World} (h : laidMetH Tryd.prog Rows.fnExactFormatNumbersRow.laid W) : Tab W := by
  have h1 := laidMetH.filter (fun x => x.1 == "internal/strconv.uint64pow10") h
  have e : (Rows.fnExactFormatNumbersRow.laid.filter fun x => x.1 == "internal/strconv.uint64pow10") = [("internal/strconv.uint64pow10", Lib.tabData .u64 Lib.pow10Tab)] := by kernel_rfl
  rw [e] at h1
  exact Lib.tabIs_of_head (rest := []) gTab gTabType Tryd.underlying128 Tryd.underlying112 (by kernel_rfl) (by kernel_rfl) h1
set_option maxHeartbeats 1000000 in
theorem walk (a0 : Option Addr) (n c : Nat) (z0 : List Int) (w : World) (w0 : IsRow .i64 w a0 n c z0) (hL : laidMetH Tryd.prog Rows.fnExactFormatNumbersRow.laid w) (hsh : World.ShapedOpen Tryd.prog w) :
    Calls Tryd.prog 5 #[.slice a0 n c] w fun e w' => e = .returned (.bool true) ∧ Below w.heap.size w w' := by
  have HT := Lib.hid (tab hL)
  have HI := Lib.hid (ints_of w0)
  clear hL hsh w0
  generalize z0.take n = zs at *
  go_enter Tryd.func5, Tryd.ntmps5
  by_cases hbig : 1048576 < n
  · have hb : (1048576 : Int) < (n : Int) := by omega
    go_wp2_with fail
    go_ret
    exact ⟨rfl, Below.refl _ _⟩
  · have hb : ¬ (1048576 : Int) < (n : Int) := by omega
    have hn : n ≤ 1048576 := by omega
    go_wp2_with fail
    refine (toIntS_any a0 n c zs w hn HI.out).mono ?_
    rintro e w1 ⟨rfl, i1, b1⟩
    have HI1 := Lib.hid i1
    have HB1 := Lib.hid b1
    clear i1 b1
    go_wp2_with fail
    refine (spec_any _ n n zs w1 hn HI1.out).mono ?_
    rintro e w2 ⟨rfl, b2⟩
    have HB2 := Lib.hid (HB1.out.trans (b2.mono HB1.out.size))
    clear b2
    have HF := Lib.hid (rfl : fmtB zs = fmtB zs)
    obtain ⟨s, hs⟩ : ∃ s, fmtB zs = s := ⟨_, rfl⟩
    obtain ⟨o, ho⟩ : ∃ o, okB zs = o := ⟨_, rfl⟩
    have HS := Lib.hid hs
    have HO := Lib.hid ho
    rw [hs, ho]
    clear hs ho
    go_wp2_with fail
    refine (toIntS_any a0 n c zs w2 hn (HI.out.below HB2.out)).mono ?_
    rintro e w3 ⟨rfl, i3, b3⟩
    have HI3 := Lib.hid i3
    have HB3 := Lib.hid (HB2.out.trans (b3.mono HB2.out.size))
    clear i3 b3
    go_wp2_with fail
    refine (impl_any _ n n zs w3 hn HI3.out (HT.out.below HB3.out)).mono ?_
    rintro e w4 ⟨rfl, b4⟩
    rw [HS.out, HO.out]
    have HI4 := Lib.hid (HI3.out.below b4)
    have HB4 := Lib.hid (HB3.out.trans (b4.mono HB3.out.size))
    clear b4
    go_wp2_with fail
    refine (toIntS_any a0 n c zs w4 hn (HI.out.below HB4.out)).mono ?_
    rintro e w5 ⟨rfl, i5, b5⟩
    have HI5 := Lib.hid i5
    have HI45 := Lib.hid (HI4.out.below b5)
    have HB5 := Lib.hid (HB4.out.trans (b5.mono HB4.out.size))
    clear i5 b5
    go_wp2_with fail
    refine (eqIntS_same _ _ n n n zs w5 hn HI45.out HI5.out).mono ?_
    rintro e w6 ⟨rfl, b6⟩
    have HB6 := Lib.hid (HB5.out.trans (b6.mono HB5.out.size))
    clear b6
    go_wp2_with fail
    go_ret
    exact ⟨rfl, HB6.out⟩
end Go.Proofs.YtknlackphdcflaaDoor.WFormatNumbers
