/- The program's FormatNumbers. -/
import Derived.Test.YtknlackphdcflaaDoorListS
import Derived.Test.YtknlackphdcflaaDoorBuild
import Derived.Test.YtknlackphdcflaaDoorShelfF
import Derived.Lib.AppendIntMem
namespace Go.Proofs.YtknlackphdcflaaDoor.ListI
open Go.RowKit Num ListS Build
instance (z : Int) : Decidable (inR z) := by unfold inR; exact inferInstance
/-- The table that strconv.Itoa reads. -/
def Tab (w : World) : Prop := Lib.TabIs Tryd.prog w "internal/strconv.uint64pow10" .u64 Lib.pow10Tab
theorem gTab : Tryd.prog.globalNamed "internal/strconv.uint64pow10" = some 2 := by kernel_rfl
theorem Tab.size {w : World} (h : Tab w) : 2 < w.heap.size := by
  unfold Tab Lib.TabIs World.var? at h
  simp only [gTab, Option.bind_some] at h
  cases hb : w.heap[2]? with
  | none => rw [hb] at h; cases h
  | some o => exact (Array.getElem?_eq_some_iff.1 hb).1
theorem Tab.below {w w' : World} (h : Tab w) (hb : Below w.heap.size w w') : Tab w' := var?_below hb gTab h.size h
theorem own_below {w w' : World} {B e n : Nat} {v : Value} {xs : List Value} (h : w.ownsRowF B e 1 v n xs) (hb : Below w.heap.size w w') : w'.ownsRowF B e 1 v n xs := by
  refine ⟨h.1, ?_⟩
  rcases h.2 with h2 | ⟨g, cap, cur, fz, hv, hB, hg, rest⟩
  · exact .inl h2
  · exact .inr ⟨g, cap, cur, fz, hv, hB, (hb.block g (Array.getElem?_eq_some_iff.1 hg).1).trans hg, rest⟩
theorem isB_below {w w' : World} {B b : Nat} {bs : List Value} (h : IsB B b bs w) (hb : Below w.heap.size w w') : IsB B b bs w' := by
  rcases h with ⟨hB, v, hbk, hown, hne⟩ | ⟨hB, v, hbk, hown, hne⟩
  · exact .inl ⟨hB, v, (hb.block b (Array.getElem?_eq_some_iff.1 hbk).1).trans hbk, own_below hown hb, hne⟩
  · exact .inr ⟨hB, v, (hb.block b (Array.getElem?_eq_some_iff.1 hbk).1).trans hbk, own_below hown hb, hne⟩
theorem cells_app (s t : ByteArray) : Lib.strCells s ++ Lib.strCells t = Lib.strCells (s ++ t) := by
  unfold Lib.strCells
  rw [ByteArray.data_append, Array.toList_append, List.map_append]
theorem can_any (z : Int) (w : World) : Calls Tryd.prog 38 #[.int .i64 z] w fun e w' => e = .returned (.bool (decide (inR z))) ∧ w' = w := by
  go_enter Tryd.func38, Tryd.ntmps38
  by_cases h1 : 0 ≤ z
  · by_cases h2 : z ≤ 999999
    · have HD : Hid (decide (inR z) = true) := decide_eq_true ⟨h1, h2⟩
      go_wp2_with fail
      go_ret
      exact ⟨by rw [HD.out]; rfl, rfl⟩
    · have HD : Hid (decide (inR z) = false) := decide_eq_false (fun h => h2 h.2)
      go_wp2_with fail
      go_ret
      exact ⟨by rw [HD.out]; rfl, rfl⟩
  · have HD : Hid (decide (inR z) = false) := decide_eq_false (fun h => h1 h.1)
    go_wp2_with fail
    go_ret
    exact ⟨by rw [HD.out]; rfl, rfl⟩
theorem tx_size2 (zs : List Int) : ∀ k, k ≤ zs.length → (∀ i y, i < k → zs[i]? = some y → inR y) → (tx zs k).size ≤ k * 22
  | 0, _, _ => Nat.le_refl _
  | k + 1, hk, h => by
    have ih := tx_size2 zs k (by omega) (fun i y hi hy => h i y (by omega) hy)
    have hz : inR (zs.getD k 0) := by
      rw [List.getD_eq_getElem?_getD, List.getElem?_eq_getElem (by omega)]
      exact h k _ (by omega) (List.getElem?_eq_getElem (by omega))
    have h2 := itB_size hz
    show ((if 0 < k then tx zs k ++ sepB else tx zs k) ++ itB (zs.getD k 0)).size ≤ _
    split
    · rw [ByteArray.size_append, ByteArray.size_append]
      have : sepB.size = 2 := rfl
      omega
    · rw [ByteArray.size_append]
      omega
theorem itoa_any (z : Int) (w : World) (hr : inR z) (ht : Tab w) : Calls Tryd.prog 40 #[.int .i64 z] w fun e w' => e = .returned (.string (itB z)) ∧ Below w.heap.size w w' :=
  (Tryd.strconv_Itoa z (by have := hr.1; omega) (by have := hr.2; omega) w ht).mono fun e w' ⟨he, k, os, hw⟩ => ⟨he, by rw [hw]; exact Lib.below_grow _ _ (Nat.le_refl _) _ _⟩
theorem str_any (B b : Nat) (t : ByteArray) (w : World) (h : IsB B b (Lib.strCells t) w) (hB : B ≤ w.heap.size) : Calls Tryd.prog 41 #[.pointer (some ⟨b, 0, none⟩)] w fun e w' => e = .returned (.string t) ∧ Below B w w' :=
  (Tryd.Builder_String_any_f B b t.data.toList w h hB).mono fun e w' ⟨he, _, hb⟩ => ⟨by rw [he], hb⟩
set_option maxRecDepth 100000 in
set_option maxHeartbeats 2000000 in
theorem impl_any (a : Option Addr) (n c : Nat) (zs : List Int) (w : World) (hn : n ≤ 1048576) (h : Ints w a n zs) (ht : Tab w) :
    Calls Tryd.prog 15 #[.slice a n c] w fun e w' => e = .returned (.tuple #[.string (fmtB zs), .bool (okB zs)]) ∧ Below w.heap.size w w' := by
  have H := Lib.hid h
  have HT := Lib.hid ht
  clear h ht
  go_enter Tryd.func15, Tryd.ntmps15
  by_cases hbig : 40 < n
  · have hb1 : (40 : Int) < (n : Int) := by omega
    have HO : Hid (okB zs = false) := okB_no (fun h => by have := h.1; rw [H.out.1] at this; omega)
    have HF : Hid (fmtB zs = ⟨#[]⟩) := by unfold Hid fmtB; rw [HO.out]; rfl
    go_wp2_with fail
    go_ret2
    exact ⟨by rw [HF.out, HO.out]; rfl, Below.refl _ _⟩
  · have hb1 : ¬ (40 : Int) < (n : Int) := by omega
    by_cases hn0 : n = 0
    · subst hn0
      have hz : zs = [] := List.eq_nil_of_length_eq_zero H.out.1
      subst hz
      go_wp2_with fail
      go_ret2
      exact ⟨rfl, Below.refl _ _⟩
    · have hn1 : ¬ (n : Int) = 0 := by omega
      have hn2 : ((n : Int) == 0) = false := beq_false_of_ne hn1
      have hW : Below w.heap.size w (w.alloc (.cells #[.pointer none, .slice none 0 0] 64)) := (Below.refl w.heap.size w).alloc (Nat.le_refl _) _
      have hB0 : IsB w.heap.size w.heap.size (Lib.strCells (tx zs 0)) (w.alloc (.cells #[.pointer none, .slice none 0 0] 64)) :=
        .inl ⟨Nat.le_refl _, .slice none 0 0, heap_alloc_new w _, World.ownsRowF_nil _ _ _ _, by simp [Value.ownBlock]⟩
      have HW := Lib.hid hW
      have HB0 := Lib.hid hB0
      clear hW hB0
      go_wp2_with fail
      go_loopw [15] (fun s15 wr => ∃ k : Nat, k ≤ n ∧ s15 = .int .i64 k ∧ IsB w.heap.size w.heap.size (Lib.strCells (tx zs k)) wr ∧ Below w.heap.size w wr ∧ Hid (∀ i y, i < k → zs[i]? = some y → inR y)) (fun s15 _ => n - (intOf s15).toNat)
      case atStart => exact ⟨0, Nat.zero_le _, rfl, HB0.out, HW.out, fun i y hi _ => by omega⟩
      case round =>
        obtain ⟨k, hk, rfl, hIB, hbel, HP⟩ := hrel
        have HIB := Lib.hid hIB
        have HBL := Lib.hid hbel
        clear hIB hbel HB0 HW
        by_cases hlt : k < n
        · have hkn : (k : Int) < (n : Int) := by omega
          have hk00 : (0 : Int) ≤ (k : Int) := by omega
          obtain ⟨b, off, z, rfl, hz, e1⟩ := (H.out.below HBL.out).at hlt
          have HZ := Lib.hid hz
          clear hz
          by_cases hr : inR z
          · have HR := Lib.hid hr
            have hcan := fun W => can_any z W
            rw [decide_eq_true hr] at hcan
            have HCAN := Lib.hid hcan
            have hlen : zs.length = n := H.out.1
            have ht : tx zs (k + 1) = (if 0 < k then tx zs k ++ sepB else tx zs k) ++ itB z := by
              show (if 0 < k then tx zs k ++ sepB else tx zs k) ++ itB (zs.getD k 0) = _
              rw [List.getD_eq_getElem?_getD, HZ.out]
              rfl
            have hsz : (tx zs k).size ≤ k * 22 := tx_size2 zs k (by omega) HP.out
            have hP2 : Hid (∀ i y, i < k + 1 → zs[i]? = some y → inR y) := fun i y hi hy => by
              by_cases e : i = k
              · subst e
                have := HZ.out
                rw [hy] at this
                injection this with this
                subst this
                exact HR.out
              · exact HP.out i y (by omega) hy
            have HTT := Lib.hid ht
            have hl1 : (Lib.strCells (tx zs k)).length ≤ 900 := by rw [Lib.strCells_length]; omega
            have hsb : sepB.size = 2 := rfl
            have hiz := itB_size hr
            clear hcan ht
            by_cases hk0 : 0 < k
            · have hk1 : (0 : Int) < (k : Int) := by omega
              go_wp2_with (go_at_call 38; refine (HCAN.out _).mono ?_; rintro e w' ⟨rfl, rfl⟩)
              refine (write_any w.heap.size w.heap.size (Lib.strCells (tx zs k)) sepB _ HIB.out (by omega) HBL.out.size).mono ?_
              rintro e w1 ⟨rfl, hA1, hb1⟩
              have HA1 := Lib.hid hA1
              have HB1 := Lib.hid (HBL.out.trans hb1)
              clear hA1 hb1
              go_wp2_with fail
              refine (itoa_any z w1 HR.out (HT.out.below HB1.out)).mono ?_
              rintro e w2 ⟨rfl, hb2⟩
              have HI2 := Lib.hid (isB_below (.inr HA1.out) hb2)
              have HB2 := Lib.hid (HB1.out.trans (hb2.mono HB1.out.size))
              clear hb2
              go_wp2_with fail
              refine (write_any w.heap.size w.heap.size _ (itB z) _ HI2.out (by rw [List.length_append, Lib.strCells_length sepB]; omega) HB2.out.size).mono ?_
              rintro e w3 ⟨rfl, hA3, hb3⟩
              have HA3 := Lib.hid hA3
              have HB3 := Lib.hid (HB2.out.trans hb3)
              clear hA3 hb3
              go_wp2_with fail
              refine ⟨⟨k + 1, by omega, by go_num, ?_, HB3.out, hP2⟩, by simp [intOf]; omega⟩
              have hA := HA3.out
              rw [cells_app, cells_app] at hA
              rw [HTT.out, if_pos hk0]
              exact .inr hA
            · have hk1 : ¬ (0 : Int) < (k : Int) := by omega
              go_wp2_with (go_at_call 38; refine (HCAN.out _).mono ?_; rintro e w' ⟨rfl, rfl⟩)
              refine (itoa_any z _ HR.out (HT.out.below HBL.out)).mono ?_
              rintro e w2 ⟨rfl, hb2⟩
              have HI2 := Lib.hid (isB_below HIB.out hb2)
              have HB2 := Lib.hid (HBL.out.trans (hb2.mono HBL.out.size))
              clear hb2
              go_wp2_with fail
              refine (write_any w.heap.size w.heap.size _ (itB z) _ HI2.out (by omega) HB2.out.size).mono ?_
              rintro e w3 ⟨rfl, hA3, hb3⟩
              have HA3 := Lib.hid hA3
              have HB3 := Lib.hid (HB2.out.trans hb3)
              clear hA3 hb3
              go_wp2_with fail
              refine ⟨⟨k + 1, by omega, by go_num, ?_, HB3.out, hP2⟩, by simp [intOf]; omega⟩
              have hA := HA3.out
              rw [cells_app] at hA
              rw [HTT.out, if_neg hk0]
              exact .inr hA
          · have hcan := fun W => can_any z W
            rw [decide_eq_false hr] at hcan
            have HCAN := Lib.hid hcan
            have HO : Hid (okB zs = false) := okB_no (fun h => hr (h.2 z (List.mem_of_getElem? HZ.out)))
            have HF : Hid (fmtB zs = ⟨#[]⟩) := by unfold Hid fmtB; rw [HO.out]; rfl
            clear hcan
            go_wp2_with (go_at_call 38; refine (HCAN.out _).mono ?_; rintro e w' ⟨rfl, rfl⟩)
            go_ret2
            exact ⟨by rw [HF.out, HO.out]; rfl, HBL.out⟩
        · obtain rfl : k = n := by omega
          have hkn : ¬ (k : Int) < (k : Int) := by omega
          have HOK : Hid (okL zs) := ⟨by rw [H.out.1]; omega, fun z hz => by
            obtain ⟨i, hi, e⟩ := List.getElem_of_mem hz
            exact HP.out i z (by rw [← H.out.1]; exact hi) (by rw [List.getElem?_eq_getElem hi, e])⟩
          have HO : Hid (okB zs = true) := (okB_iff zs).2 HOK.out
          have HF : Hid (fmtB zs = tx zs k) := by unfold Hid fmtB; rw [if_pos HO.out]; unfold txt; rw [if_neg (by rw [H.out.1]; exact hn0), H.out.1]
          go_wp2_with fail
          refine (str_any w.heap.size w.heap.size (tx zs k) _ HIB.out HBL.out.size).mono ?_
          rintro e w1 ⟨rfl, hb1⟩
          have HB1 := Lib.hid (HBL.out.trans hb1)
          clear hb1
          go_wp2_with fail
          go_ret2
          exact ⟨by rw [HF.out, HO.out]; rfl, HB1.out⟩
end Go.Proofs.YtknlackphdcflaaDoor.ListI
