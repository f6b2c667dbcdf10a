/- The model's l2Find: the place of a number among the contexts, or -1. -/
import Derived.Test.YtfbgekhkbbhggaaPairs
namespace Go.Proofs.Ytfbgekhkbbhggaa.Find2
open Go.RowKit Pairs

def isAt (l : List (Int × Int)) (n : Int) : Option Nat := l.findIdx? (fun p => p.1 == n)
def find (l : List (Int × Int)) (n : Int) : Int := match isAt l n with | some i => (i : Int) | none => -1
theorem isAt_here {l : List (Int × Int)} {n y : Int} {k : Nat} (h : isAt (l.take k) n = none) (hk : l[k]? = some (n, y)) : isAt l n = some k := by
  unfold isAt at *
  have hl : k < l.length := (List.getElem?_eq_some_iff.1 hk).1
  rw [List.findIdx?_eq_none_iff] at h
  rw [List.findIdx?_eq_some_iff_getElem]
  refine ⟨hl, ?_, ?_⟩
  · have e := (List.getElem?_eq_some_iff.1 hk).2
    simp [e]
  · intro j hj
    have := h (l[j]) (by
      rw [List.mem_take_iff_getElem]
      exact ⟨j, by omega, rfl⟩)
    simpa using this
theorem isAt_next {l : List (Int × Int)} {n x y : Int} {k : Nat} (h : isAt (l.take k) n = none) (hk : l[k]? = some (x, y)) (hne : x ≠ n) : isAt (l.take (k + 1)) n = none := by
  unfold isAt at *
  rw [List.take_add_one, hk, List.findIdx?_append, h]
  simp [hne]
theorem find_some {l : List (Int × Int)} {n : Int} {k : Nat} (h : isAt l n = some k) : find l n = (k : Int) := by unfold find; rw [h]
theorem find_none {l : List (Int × Int)} {n : Int} (h : isAt l n = none) : find l n = -1 := by unfold find; rw [h]

set_option maxHeartbeats 400000 in
theorem l2Find_any (a1 a2 : Option Addr) (n1 c1 n2 c2 : Nat) (l : List (Int × Int)) (n : Int) (w : World) (hz : n1 ≤ 9223372036854775806) (h : Holds w a1 n1 l) :
    Calls Try.prog 66 #[.agg #[.slice a1 n1 c1, .slice a2 n2 c2], .int .i64 n] w fun e w' => e = .returned (.int .i64 (find l n)) ∧ Below w.heap.size w w' := by
  have hb := below_alloc w (.cells #[.slice a1 n1 c1, .slice a2 n2 c2] 34)
  have hf := box_first w (.slice a1 n1 c1) (.slice a2 n2 c2) 34
  have hH := h.below hb
  have HH := Lib.hid hH
  clear hH
  go_enter Try.func66, Try.ntmps66
  go_wp2
  generalize w.alloc (.cells #[.slice a1 n1 c1, .slice a2 n2 c2] 34) = W at *
  go_loop [5] (fun i => ∃ k : Nat, k ≤ n1 ∧ i = .int .i64 k ∧ Hid (isAt (l.take k) n = none)) (fun i => n1 - (intOf i).toNat)
  case atStart => exact ⟨0, Nat.zero_le _, rfl, by simp [Hid, isAt]⟩
  case round =>
    obtain ⟨k, hk, rfl, HM⟩ := hrel
    by_cases hlt : k < n1
    · obtain ⟨b, off, x, y, rfl, hx, e1, e2⟩ := HH.out.at k hlt
      have HX := Lib.hid hx
      clear hx h
      have hi : (k : Int) < (n1 : Int) := by omega
      by_cases heq : x = n
      · subst heq
        have hr := find_some (isAt_here HM.out HX.out)
        have HR := Lib.hid hr
        clear hr
        go_wp2
        go_ret
        exact ⟨by rw [HR.out]; rfl, hb⟩
      · have hn := isAt_next HM.out HX.out heq
        have HN := Lib.hid hn
        clear hn
        go_wp2
        go_round
        case rel => exact ⟨k + 1, by omega, by go_num, HN⟩
        case measure => simp [intOf]; omega
    · have hr : find l n = -1 := find_none (by
        have h1 := HM.out
        rw [List.take_of_length_le (by rw [HH.out.1]; omega)] at h1
        exact h1)
      have HR := Lib.hid hr
      clear hr
      have hi : ¬ (k : Int) < (n1 : Int) := by omega
      go_wp2
      go_ret
      exact ⟨by rw [HR.out]; rfl, hb⟩
end Go.Proofs.Ytfbgekhkbbhggaa.Find2
