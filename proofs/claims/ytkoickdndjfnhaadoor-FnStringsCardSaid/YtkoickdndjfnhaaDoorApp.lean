/- Contracts of AppendChecksum, the model's and the program's: each returns what 'Seal.av' says, for every string of at most 1048576 bytes; the program's where the library's table lies as its initialiser lays it. -/
import Derived.Test.YtkoickdndjfnhaaDoorSeal
namespace Go.Proofs.YtkoickdndjfnhaaDoor.App
open Go.RowKit Dec Seal Stands

theorem stands_yes (s : ByteArray) (w : World) (hs : s.size ≤ 1048576) (h : hasB s.data.toList 35 = true) :
    Calls Tryd.prog 33 #[.string s, .int .u8 35] w fun e w' => e = .returned (.bool true) ∧ w = w' := h ▸ l1Stands_any s 35 w hs
theorem stands_no (s : ByteArray) (w : World) (hs : s.size ≤ 1048576) (h : hasB s.data.toList 35 = false) :
    Calls Tryd.prog 33 #[.string s, .int .u8 35] w fun e w' => e = .returned (.bool false) ∧ w = w' := h ▸ l1Stands_any s 35 w hs
theorem contains_yes (s : ByteArray) (w : World) (h : hasB s.data.toList 35 = true) :
    Calls Tryd.prog 32 #[.string s, .string ⟨#[35]⟩] w fun e w' => e = .returned (.bool true) ∧ w = w' := by
  have hh := Tryd.strings_Contains_one s 35 w
  rw [← Lib.contains_iff_indexByte, show s.data.toList.contains 35 = true from h] at hh
  exact hh.mono fun _ _ ⟨h1, h2⟩ => ⟨h1, h2.symm⟩
theorem contains_no (s : ByteArray) (w : World) (h : hasB s.data.toList 35 = false) :
    Calls Tryd.prog 32 #[.string s, .string ⟨#[35]⟩] w fun e w' => e = .returned (.bool false) ∧ w = w' := by
  have hh := Tryd.strings_Contains_one s 35 w
  rw [← Lib.contains_iff_indexByte, show s.data.toList.contains 35 = false from h] at hh
  exact hh.mono fun _ _ ⟨h1, h2⟩ => ⟨h1, h2.symm⟩
theorem seal_b (s b : ByteArray) (w : World) (hs : s.size ≤ 1048576) (hb : sealB s = b) :
    Calls Tryd.prog 34 #[.string s] w fun e w' => e = .returned (.string b) ∧ ∃ m, w' = w.drewN m := hb ▸ l1Seal_any s w hs

def Out (s : ByteArray) (w : World) (e : Ending) (w' : World) : Prop := e = .returned (.tuple #[.string ((av s).getD ⟨#[]⟩), .bool (av s).isSome]) ∧ Below w.heap.size w w'
theorem out_none {s : ByteArray} {w w' : World} (h : av s = none) (hb : Below w.heap.size w w') : Out s w (.returned (.tuple #[.string ⟨#[]⟩, .bool false])) w' := by
  unfold Out; rw [h]; exact ⟨rfl, hb⟩
theorem out_some {s b : ByteArray} {w w' : World} (h : av s = some b) (hb : Below w.heap.size w w') : Out s w (.returned (.tuple #[.string b, .bool true])) w' := by
  unfold Out; rw [h]; exact ⟨rfl, hb⟩

set_option maxHeartbeats 400000 in
theorem spec_any (s : ByteArray) (w : World) (hs : s.size ≤ 1048576) :
    Calls Tryd.prog 17 #[.string s] w (Out s w) := by
  by_cases h1 : s.size ≤ 4000
  · cases h2 : hasB s.data.toList 35 with
    | true =>
      have hv : av s = none := by unfold av; rw [if_neg (fun hh => by rw [hh.1.2] at h2; cases h2)]
      have HV := Lib.hid hv
      have H2 := Lib.hid h2
      clear hv h2
      go_enter Tryd.func17, Tryd.ntmps17
      go_wp2_with fail
      refine (stands_yes s _ hs H2.out).mono ?_
      rintro e w' ⟨rfl, rfl⟩
      go_wp2_with fail
      go_ret2
      exact out_none HV.out (Below.refl _ _)
    | false =>
      obtain ⟨b, hb⟩ : ∃ b, sealB s = b := ⟨_, rfl⟩
      by_cases h3 : b.size ≤ 4000
      · have hv : av s = some b := by unfold av; rw [if_pos ⟨⟨h1, h2⟩, by rw [hb]; exact h3⟩, hb]
        have HV := Lib.hid hv
        have H2 := Lib.hid h2
        have HB := Lib.hid hb
        clear hv h2 hb
        go_enter Tryd.func17, Tryd.ntmps17
        go_wp2_with fail
        refine (stands_no s _ hs H2.out).mono ?_
        rintro e w' ⟨rfl, rfl⟩
        go_wp2_with fail
        refine (seal_b s b _ hs HB.out).mono ?_
        rintro e w' ⟨rfl, m, rfl⟩
        go_wp2_with fail
        refine (seal_b s b _ hs HB.out).mono ?_
        rintro e w' ⟨rfl, m2, rfl⟩
        go_wp2_with fail
        go_ret2
        refine out_some HV.out ?_
        exact Joins.below_draws _ _ _
      · have hv : av s = none := by unfold av; rw [if_neg (fun hh => h3 (by rw [← hb]; exact hh.2))]
        have HV := Lib.hid hv
        have H2 := Lib.hid h2
        have HB := Lib.hid hb
        clear hv h2 hb
        go_enter Tryd.func17, Tryd.ntmps17
        go_wp2_with fail
        refine (stands_no s _ hs H2.out).mono ?_
        rintro e w' ⟨rfl, rfl⟩
        go_wp2_with fail
        refine (seal_b s b _ hs HB.out).mono ?_
        rintro e w' ⟨rfl, m, rfl⟩
        go_wp2_with fail
        go_ret2
        exact out_none HV.out (Joins.below_draws _ _ _)
  · have hv : av s = none := by unfold av; rw [if_neg (fun hh => h1 hh.1.1)]
    have HV := Lib.hid hv
    clear hv
    go_enter Tryd.func17, Tryd.ntmps17
    go_wp2_with fail
    go_ret2
    exact out_none HV.out (Below.refl _ _)

theorem sum_small (s : ByteArray) (w : World) (h : s.size ≤ 4000) :
    Calls Tryd.prog 31 #[.string s] w fun e w' => e = .returned (.tuple #[.int .i64 (Sum.ck s.data.toList), .bool true]) ∧ w = w' := by
  have hh := Sum.implChecksum_any s w (by unfold maxLen; omega)
  rw [if_pos h, show decide (s.size ≤ 4000) = true by simpa using h] at hh
  exact hh
theorem sum_great (s : ByteArray) (w : World) (hs : s.size ≤ 1048576) (h : ¬ s.size ≤ 4000) :
    Calls Tryd.prog 31 #[.string s] w fun e w' => e = .returned (.tuple #[.int .i64 0, .bool false]) ∧ w = w' := by
  have hh := Sum.implChecksum_any s w (by unfold maxLen; omega)
  rw [if_neg h, show decide (s.size ≤ 4000) = false by simpa using h] at hh
  exact hh
theorem itoa_any (n : Int) (w : World) (h0 : -999999 ≤ n) (h1 : n ≤ 999999) (ht : Fmt.Tab w) :
    Calls Tryd.prog 23 #[.int .i64 n] w fun e w' => e = .returned (.string (itoaB n)) ∧ Below w.heap.size w w' :=
  (Tryd.strconv_Itoa n (by omega) (by omega) w ht).mono fun e w' ⟨he, k, os, hw⟩ => ⟨he, by rw [hw]; exact Lib.below_grow _ _ (Nat.le_refl _) _ _⟩

set_option maxHeartbeats 400000 in
theorem impl_any (s : ByteArray) (w : World) (hs : s.size ≤ 1048576) (ht : Fmt.Tab w) :
    Calls Tryd.prog 16 #[.string s] w (Out s w) := by
  by_cases h1 : s.size ≤ 4000
  · have hbd := Sum.ck_bd s.data.toList
    cases h2 : hasB s.data.toList 35 with
    | true =>
      have hv : av s = none := by unfold av; rw [if_neg (fun hh => by rw [hh.1.2] at h2; cases h2)]
      have HV := Lib.hid hv
      have H2 := Lib.hid h2
      clear hv h2 ht
      go_enter Tryd.func16, Tryd.ntmps16
      go_wp2_with fail
      refine (sum_small s _ h1).mono ?_
      rintro e w' ⟨rfl, rfl⟩
      go_wp2_with fail
      refine (contains_yes s _ H2.out).mono ?_
      rintro e w' ⟨rfl, rfl⟩
      go_wp2_with fail
      go_ret2
      exact out_none HV.out (Below.refl _ _)
    | false =>
      have hsz := itoa_ck s
      have a1 := fun W : World => run_string_add_sum (P := Tryd.prog) W s ⟨#[35]⟩ (by show _ + 1 ≤ _; omega)
      have a2 := fun W : World => run_string_add_sum (P := Tryd.prog) W (s ++ ⟨#[35]⟩) (itoaB (Sum.ck s.data.toList)) (by rw [ByteArray.size_append]; show _ + 1 + _ ≤ _; omega)
      have A2 := Lib.hid a2
      have H2 := Lib.hid h2
      have HT := Lib.hid ht
      clear a2 hsz ht
      by_cases h3 : (sealB s).size ≤ 4000
      · have hv : av s = some (sealB s) := by unfold av; rw [if_pos ⟨⟨h1, h2⟩, h3⟩]
        have HV := Lib.hid hv
        have h3' : ((s ++ ⟨#[35]⟩) ++ itoaB (Sum.ck s.data.toList)).size ≤ 4000 := h3
        have H3 := Lib.hid h3'
        clear hv h2 h3 h3'
        go_enter Tryd.func16, Tryd.ntmps16
        go_wp2_with fail
        refine (sum_small s _ h1).mono ?_
        rintro e w' ⟨rfl, rfl⟩
        go_wp2_with fail
        refine (contains_no s _ H2.out).mono ?_
        rintro e w' ⟨rfl, rfl⟩
        go_wp2_with fail
        refine (itoa_any _ _ (by omega) (by omega) HT.out).mono ?_
        rintro e w1 ⟨rfl, hb⟩
        have a3 := A2.out
        have h4 : s.size + 1 + (itoaB (Sum.ck s.data.toList)).size ≤ 4000 := by
          have h4 := H3.out
          rwa [ByteArray.size_append, ByteArray.size_append] at h4
        go_wp2_with fail
        go_ret2
        exact out_some HV.out hb
      · have hv : av s = none := by unfold av; rw [if_neg (fun hh => h3 hh.2)]
        have HV := Lib.hid hv
        have h3' : ¬ ((s ++ ⟨#[35]⟩) ++ itoaB (Sum.ck s.data.toList)).size ≤ 4000 := h3
        have H3 := Lib.hid h3'
        clear hv h2 h3 h3'
        go_enter Tryd.func16, Tryd.ntmps16
        go_wp2_with fail
        refine (sum_small s _ h1).mono ?_
        rintro e w' ⟨rfl, rfl⟩
        go_wp2_with fail
        refine (contains_no s _ H2.out).mono ?_
        rintro e w' ⟨rfl, rfl⟩
        go_wp2_with fail
        refine (itoa_any _ _ (by omega) (by omega) HT.out).mono ?_
        rintro e w1 ⟨rfl, hb⟩
        have a3 := A2.out
        have h4 : ¬ s.size + 1 + (itoaB (Sum.ck s.data.toList)).size ≤ 4000 := by
          have h4 := H3.out
          rwa [ByteArray.size_append, ByteArray.size_append] at h4
        go_wp2_with fail
        go_ret2
        exact out_none HV.out hb
  · have hv : av s = none := by unfold av; rw [if_neg (fun hh => h1 hh.1.1)]
    have HV := Lib.hid hv
    clear hv ht
    go_enter Tryd.func16, Tryd.ntmps16
    go_wp2_with fail
    refine (sum_great s _ hs h1).mono ?_
    rintro e w' ⟨rfl, rfl⟩
    go_wp2_with fail
    go_ret2
    exact out_none HV.out (Below.refl _ _)
end Go.Proofs.YtkoickdndjfnhaaDoor.App
