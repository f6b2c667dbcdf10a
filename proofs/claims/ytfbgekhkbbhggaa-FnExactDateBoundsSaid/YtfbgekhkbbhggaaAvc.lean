/- The program's IsValidRecord answers whether a record is valid. -/
import Derived.Test.YtfbgekhkbbhggaaSearch
import Derived.BigQuiet
import Derived.Deep.RegionWith
namespace Go.Proofs.Ytfbgekhkbbhggaa.Avc
open Go.RowKit Pairs Find2 GoodM RelM Cmp Search

def LastOf (l : List (Int × Int)) (k : Nat) (z : Int) : Prop := (k = 0 → z = 0) ∧ ∀ p, 0 < k → l[k - 1]? = some p → p.1 = z
theorem stepC {l : List (Int × Int)} {k : Nat} {z x y : Int} (hp : Past l k) (hl : LastOf l k z) (hx : l[k]? = some (x, y)) : okC l k = decide (z < x ∧ x ≤ 999 ∧ 1 ≤ y ∧ y ≤ 4) := by
  unfold okC
  rw [hx]
  cases k with
  | zero =>
    have := hl.1 rfl
    subst this
    rw [Bool.eq_iff_iff]
    simp
    omega
  | succ j =>
    have hj : j < l.length := by have := (List.getElem?_eq_some_iff.1 hx).1; omega
    have hok := hp j (by omega)
    unfold okC at hok
    rw [List.getElem?_eq_getElem hj] at hok
    have hz := hl.2 l[j] (by omega) (by rw [Nat.add_sub_cancel]; exact List.getElem?_eq_getElem hj)
    rw [Nat.add_sub_cancel, List.getElem?_eq_getElem hj]
    rw [Bool.eq_iff_iff]
    simp at hok ⊢
    omega
def vc (l : List (Int × Int)) : Bool := decide (l.length ≤ 10) && (List.range l.length).all (okC l)
theorem vc_big {l : List (Int × Int)} (h : ¬ l.length ≤ 10) : vc l = false := by unfold vc; rw [decide_eq_false h]; rfl
theorem vc_bad {l : List (Int × Int)} {k : Nat} (hk : k < l.length) (h : okC l k = false) : vc l = false := by
  unfold vc
  have e : (List.range l.length).all (okC l) = false := by
    rw [List.all_eq_false]
    exact ⟨k, List.mem_range.2 hk, by rw [h]; simp⟩
  rw [e, Bool.and_false]
theorem vc_true {l : List (Int × Int)} (h : l.length ≤ 10) (hp : Past l l.length) : vc l = true := by
  unfold vc
  rw [decide_eq_true h, List.all_eq_true.2 (fun j hj => hp j (List.mem_range.1 hj))]
  rfl
theorem vc_asc {l : List (Int × Int)} (h : vc l = true) : Asc l ∧ l.length ≤ 10 := by
  unfold vc at h
  simp only [Bool.and_eq_true, decide_eq_true_eq, List.all_eq_true, List.mem_range] at h
  exact ⟨asc_of_ok h.2, h.1⟩
set_option maxRecDepth 100000 in
set_option maxHeartbeats 4000000 in
theorem areValidContexts_any (a : Option Addr) (n c : Nat) (l : List (Int × Int)) (w : World) (h : Holds w a n l) :
    Calls Try.prog 99 #[.slice a n c] w fun e w' => e = .returned (.bool (vc l)) ∧ Below w.heap.size w w' := by
  have HH := Lib.hid h
  clear h
  go_enter Try.func99, Try.ntmps99
  by_cases hl : (10 : Int) < (n : Int)
  · have HG := Lib.hid (vc_big (l := l) (by rw [HH.out.1]; omega))
    go_wp2_with fail
    go_ret
    exact ⟨by rw [HG.out]; rfl, Below.refl _ _⟩
  · go_wp2_with fail
    go_loopw [3, 11] (fun s3 s11 wr => ∃ k : Nat, k ≤ n ∧ s11 = .int .i64 k ∧ ∃ z : Int, s3 = .int .i64 z ∧ Below w.heap.size w wr ∧ Hid (Past l k ∧ LastOf l k z)) (fun _ s11 _ => n - (intOf s11).toNat)
    case atStart => exact ⟨0, Nat.zero_le _, rfl, 0, rfl, Below.refl _ _, ⟨fun j hj => absurd hj (by omega), fun _ => rfl, fun p hp => absurd hp (by omega)⟩⟩
    case round =>
      obtain ⟨k, hk, rfl, z, rfl, hb, HM⟩ := hrel
      by_cases hlt : k < n
      · obtain ⟨b, off, x, y, rfl, hx, e1, e2⟩ := (HH.out.below hb).at k hlt
        have HX := Lib.hid hx
        have hkl : k < l.length := by rw [HH.out.1]; exact hlt
        have hi : (k : Int) < (n : Int) := by omega
        have hb7 := below_alloc wr (.cells #[.int .i64 x, .int .i64 y] 123)
        have u1 := box_first wr (.int .i64 x) (.int .i64 y) 123
        have u2' := box_second wr (.int .i64 x) (.int .i64 y) 123
        have hbb := hb.trans (hb7.mono hb.size)
        have HS := Lib.hid (stepC HM.out.1 HM.out.2 hx)
        clear hx
        clear hb7
        by_cases h1 : x ≤ z
        · have HG := Lib.hid (vc_bad hkl (HS.out.trans (decide_eq_false (by omega))))
          go_wp2_with fail
          go_ret
          exact ⟨by rw [HG.out]; rfl, hbb⟩
        · by_cases h2 : 999 < x
          · have HG := Lib.hid (vc_bad hkl (HS.out.trans (decide_eq_false (by omega))))
            go_wp2_with fail
            go_ret
            exact ⟨by rw [HG.out]; rfl, hbb⟩
          · by_cases h3 : 1 ≤ y ∧ y ≤ 4
            · have HG := Lib.hid (HM.out.1.next (HS.out.trans (decide_eq_true ⟨by omega, by omega, h3.1, h3.2⟩)))
              go_wp2_with fail
              refine (isKind_true y h3.1 h3.2 _).mono ?_
              rintro e w' ⟨rfl, rfl⟩
              go_wp2_with fail
              exact ⟨⟨k + 1, by omega, by go_num, x, rfl, hbb, HG.out, fun h => absurd h (by omega), fun p _ hp => by rw [Nat.add_sub_cancel, HX.out] at hp; injection hp with hp; rw [← hp]⟩, by simp [intOf]; omega⟩
            · have HG := Lib.hid (vc_bad hkl (HS.out.trans (decide_eq_false (fun h => h3 ⟨h.2.2.1, h.2.2.2⟩))))
              go_wp2_with fail
              refine (isKind_false y h3 _).mono ?_
              rintro e w' ⟨rfl, rfl⟩
              go_wp2_with fail
              go_ret
              exact ⟨by rw [HG.out]; rfl, hbb⟩
      · obtain rfl : k = n := by omega
        have HG := Lib.hid (vc_true (l := l) (by rw [HH.out.1]; omega) (by rw [HH.out.1]; exact HM.out.1))
        go_wp2_with fail
        go_ret
        exact ⟨by rw [HG.out]; rfl, hb⟩
end Go.Proofs.Ytfbgekhkbbhggaa.Avc
