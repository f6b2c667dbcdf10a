/- The program's FormatNumbers. -/
import Derived.Test.YtaikphcemldikaaDoorListS
import Derived.Test.YtaikphcemldikaaDoorBuild
import Derived.Test.YtaikphcemldikaaDoorShelfF
import Derived.Lib.AppendIntMem
namespace Go.Proofs.YtaikphcemldikaaDoor.ListI
open Go.RowKit Num ListS Build
instance (z : Int) : Decidable (inR z) := by unfold inR; exact inferInstance
/-- The table that strconv.Itoa reads. -/
def Tab (w : World) : Prop := Lib.TabIs Tryd.prog w "internal/strconv.uint64pow10" .u64 Lib.pow10Tab
theorem gTab : Tryd.prog.globalNamed "internal/strconv.uint64pow10" = some 4 := by kernel_rfl
theorem Tab.size {w : World} (h : Tab w) : 4 < w.heap.size := by
  unfold Tab Lib.TabIs World.var? at h
  simp only [gTab, Option.bind_some] at h
  cases hb : w.heap[4]? with
  | none => rw [hb] at h; cases h
  | some o => exact (Array.getElem?_eq_some_iff.1 hb).1
theorem Tab.below {w w' : World} (h : Tab w) (hb : Below w.heap.size w w') : Tab w' := var?_below hb gTab h.size h
theorem own_below {w w' : World} {B e n : Nat} {v : Value} {xs : List Value} (h : w.ownsRowF B e 1 v n xs) (hb : Below w.heap.size w w') : w'.ownsRowF B e 1 v n xs := by
  refine ⟨h.1, ?_⟩
  rcases h.2 with h2 | ⟨g, cap, cur, fz, hv, hB, hg, rest⟩
  · exact .inl h2
  · exact .inr ⟨g, cap, cur, fz, hv, hB, (hb.block g (Array.getElem?_eq_some_iff.1 hg).1).trans hg, rest⟩
theorem isB_below {w w' : World} {B b : Nat} {bs : List Value} (h : IsB B b bs w) (hb : Below w.heap.size w w') : IsB B b bs w' := by
  rcases h with ⟨hB, v, hbk, hown, hne⟩ | ⟨hB, v, hbk, hown, hne⟩
  · exact .inl ⟨hB, v, (hb.block b (Array.getElem?_eq_some_iff.1 hbk).1).trans hbk, own_below hown hb, hne⟩
  · exact .inr ⟨hB, v, (hb.block b (Array.getElem?_eq_some_iff.1 hbk).1).trans hbk, own_below hown hb, hne⟩
theorem cells_app (s t : ByteArray) : Lib.strCells s ++ Lib.strCells t = Lib.strCells (s ++ t) := by
  unfold Lib.strCells
  rw [ByteArray.data_append, Array.toList_append, List.map_append]
theorem can_any (z : Int) (w : World) : Calls Tryd.prog 29 #[.int .i64 z] w fun e w' => e = .returned (.bool (decide (inR z))) ∧ w' = w := by
  go_enter Tryd.func29, Tryd.ntmps29
  by_cases h1 : 0 ≤ z
  · by_cases h2 : z ≤ 999999
    · have HD : Hid (decide (inR z) = true) := decide_eq_true ⟨h1, h2⟩
      go_wp2_with fail
      go_ret
      exact ⟨by rw [HD.out]; rfl, rfl⟩
    · have HD : Hid (decide (inR z) = false) := decide_eq_false (fun h => h2 h.2)
      go_wp2_with fail
      go_ret
      exact ⟨by rw [HD.out]; rfl, rfl⟩
  · have HD : Hid (decide (inR z) = false) := decide_eq_false (fun h => h1 h.1)
    go_wp2_with fail
    go_ret
    exact ⟨by rw [HD.out]; rfl, rfl⟩
theorem tx_size2 (zs : List Int) : ∀ k, k ≤ zs.length → (∀ i y, i < k → zs[i]? = some y → inR y) → (tx zs k).size ≤ k * 22
  | 0, _, _ => Nat.le_refl _
  | k + 1, hk, h => by
    have ih := tx_size2 zs k (by omega) (fun i y hi hy => h i y (by omega) hy)
    have hz : inR (zs.getD k 0) := by
      rw [List.getD_eq_getElem?_getD, List.getElem?_eq_getElem (by omega)]
      exact h k _ (by omega) (List.getElem?_eq_getElem (by omega))
    have h2 := itB_size hz
    show ((if 0 < k then tx zs k ++ sepB else tx zs k) ++ itB (zs.getD k 0)).size ≤ _
    split
    · rw [ByteArray.size_append, ByteArray.size_append]
      have : sepB.size = 2 := rfl
      omega
    · rw [ByteArray.size_append]
      omega
theorem itoa_any (z : Int) (w : World) (hr : inR z) (ht : Tab w) : Calls Tryd.prog 70 #[.int .i64 z] w fun e w' => e = .returned (.string (itB z)) ∧ Below w.heap.size w w' :=
  (Tryd.strconv_Itoa z (by have := hr.1; omega) (by have := hr.2; omega) w ht).mono fun e w' ⟨he, k, os, hw⟩ => ⟨he, by rw [hw]; exact Lib.below_grow _ _ (Nat.le_refl _) _ _⟩
theorem str_any (B b : Nat) (t : ByteArray) (w : World) (h : IsB B b (Lib.strCells t) w) (hB : B ≤ w.heap.size) : Calls Tryd.prog 51 #[.pointer (some ⟨b, 0, none⟩)] w fun e w' => e = .returned (.string t) ∧ Below B w w' :=
  (Tryd.Builder_String_any_f B b t.data.toList w h hB).mono fun e w' ⟨he, _, hb⟩ => ⟨by rw [he], hb⟩
end Go.Proofs.YtaikphcemldikaaDoor.ListI
