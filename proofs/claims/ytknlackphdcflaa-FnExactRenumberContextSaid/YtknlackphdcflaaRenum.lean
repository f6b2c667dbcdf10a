/- The program's renumberRelations: a number replaced in relations of one's own. -/
import Derived.Test.YtknlackphdcflaaRnR
import Derived.Test.YtknlackphdcflaaSortR
import Derived.Test.YtknlackphdcflaaCompactR
import Derived.Deep.Upon
import Derived.OwnWalk
import Derived.Lib.AppendZeros
namespace Go.Proofs.Ytknlackphdcflaa.Renum
open Go.RowKit Pairs Rec RecEq Keep Row2 Copy Two SwapM Rw
set_option maxRecDepth 100000 in
set_option maxHeartbeats 8000000 in
theorem renum_any (o q : Int) (g n : Nat) (m : List (Int × Int)) (hm : m.length = n) (hz : n ≤ 1048576) (w : World) (h : w.heap[g]? = some (.cells (flat m).toArray 44)) :
    Calls Try.prog 60 #[.slice (some ⟨g, 0, none⟩) n n, .int .i64 o, .int .i64 q] w fun e w' => e = .returned (.slice (some ⟨g, 0, none⟩) (swapM o q m).length n) ∧ ∃ j m', Rw w w' g n (swapM o q m) j m' := by
  have HR0 := Lib.hid (Rw.start h hm)
  have HM := Lib.hid hm
  clear h hm
  have hn0 : (0 : Int) ≤ (n : Int) := by omega
  go_enter Try.func60, Try.ntmps60
  go_wp2_with fail
  go_loopw [7, 14] (fun s7 s14 wr => ∃ k f : Nat, k ≤ n ∧ s14 = .int .i64 k ∧ s7 = .slice (some ⟨g, 0, none⟩) f n ∧ Hid ((pre o q (m.take k)).length = f) ∧ Rw w wr g n (pre o q (m.take k)) k m) (fun _ s14 _ => n - (intOf s14).toNat)
  case atStart => exact ⟨0, 0, Nat.zero_le _, rfl, by simp, rfl, HR0.out⟩
  case round =>
    obtain ⟨k, f, hk, rfl, rfl, HF, hR⟩ := hrel
    have hfk : f ≤ k := by rw [← HF.out]; exact pre_len o q m k
    by_cases hlt : k < n
    · obtain ⟨x, y, hx⟩ : ∃ x y, m[k]? = some (x, y) := ⟨(m[k]'(by rw [HM.out]; exact hlt)).1, (m[k]'(by rw [HM.out]; exact hlt)).2, List.getElem?_eq_getElem (by rw [HM.out]; exact hlt)⟩
      obtain ⟨e1, e2⟩ := hR.cells (Nat.le_refl k) hx
      have HX := Lib.hid hx
      have HR := Lib.hid hR
      have hki : (k : Int) < (n : Int) := by omega
      have hk0 : (0 : Int) ≤ (k : Int) := by omega
      have hb7 := below_alloc wr (.cells #[.int .i64 x, .int .i64 y] 44)
      have u1 := box_first wr (.int .i64 x) (.int .i64 y) 44
      have u2' := box_second wr (.int .i64 x) (.int .i64 y) 44
      have hnew := heap_alloc_new wr (.cells #[.int .i64 x, .int .i64 y] 44)
      have hsz7 : wr.heap.size < (wr.alloc (.cells #[.int .i64 x, .int .i64 y] 44)).heap.size := by simp
      have v1 : (wr.alloc (.cells #[.int .i64 x, .int .i64 y] 44)).frozen? ⟨wr.heap.size, 0, none⟩ = false := by simp only [World.frozen?, hnew]; rfl
      have v2 : (wr.alloc (.cells #[.int .i64 x, .int .i64 y] 44)).frozen? ⟨wr.heap.size, 1, none⟩ = false := by simp only [World.frozen?, hnew]; rfl
      clear hx hR hnew
      go_wp2_with fail
      generalize wr.alloc (.cells #[.int .i64 x, .int .i64 y] 44) = W7 at *
      refine (RnR.renumber_any o q x y W7).mono ?_
      rintro e w8 ⟨rfl, b8⟩
      have c1' := (b8.cell (p := ⟨wr.heap.size, 0, none⟩) hsz7).trans u1
      have c2' := (b8.cell (p := ⟨wr.heap.size, 1, none⟩) hsz7).trans u2'
      have t1 := fz b8 ⟨wr.heap.size, 0, none⟩ hsz7 v1
      have t2 := fz b8 ⟨wr.heap.size, 1, none⟩ hsz7 v2
      have HB8 := Lib.hid (hb7.trans (b8.mono hb7.size))
      clear u1 u2' v1 v2 e1 e2 hb7 b8
      have HNX : Hid (pre o q (m.take (k + 1)) = pre o q (m.take k) ++ (if nz (rnp o q (x, y)) = true then [rnp o q (x, y)] else [])) := pre_next HX.out
      obtain ⟨z1, z2⟩ := set2_cells (u := .int .i64 (rn o q x)) (v := .int .i64 (rn o q y)) c1' c2'
      have HBX : Hid (Below wr.heap.size wr ((w8.setCell ⟨wr.heap.size, 0, none⟩ (.int .i64 (rn o q x))).setCell ⟨wr.heap.size, 1, none⟩ (.int .i64 (rn o q y)))) := (HB8.out.setCell (p := ⟨wr.heap.size, 0, none⟩) (Nat.le_refl _) _).setCell (p := ⟨wr.heap.size, 1, none⟩) (Nat.le_refl _) _
      by_cases hne : rn o q x = rn o q y
      · have HNZ : Hid (nz (rnp o q (x, y)) = false) := decide_eq_false (fun h => h hne)
        rw [hne] at z1 HBX ⊢
        have HPR : Hid (pre o q (m.take (k + 1)) = pre o q (m.take k)) := by unfold Hid; rw [HNX.out, HNZ.out]; simp
        clear hne
        generalize rn o q y = p2 at *
        go_wp2_with fail
        exact ⟨⟨k + 1, f, by omega, by go_num, rfl, by unfold Hid; rw [HPR.out]; exact HF.out, by rw [HPR.out]; exact (HR.out.below HBX.out).mono (Nat.le_succ _)⟩, by simp [intOf]; omega⟩
      · have HNZ : Hid (nz (rnp o q (x, y)) = true) := decide_eq_true hne
        have hq1 : (rn o q x == rn o q y) = false := beq_false_of_ne hne
        have hq2 : (rn o q x != rn o q y) = true := by rw [bne, hq1]; rfl
        have HPR : Hid (pre o q (m.take (k + 1)) = pre o q (m.take k) ++ [(rn o q x, rn o q y)]) := by unfold Hid; rw [HNX.out, HNZ.out]; rfl
        clear hne
        have HXS : Hid (((w8.setCell ⟨wr.heap.size, 0, none⟩ (.int .i64 (rn o q x))).setCell ⟨wr.heap.size, 1, none⟩ (.int .i64 (rn o q y))).heap.size = w8.heap.size) := by unfold Hid; simp
        have hal := below_alloc ((w8.setCell ⟨wr.heap.size, 0, none⟩ (.int .i64 (rn o q x))).setCell ⟨wr.heap.size, 1, none⟩ (.int .i64 (rn o q y))) (.cells #[.int .i64 (rn o q x), .int .i64 (rn o q y)] 44)
        have hpv := heap_alloc_new ((w8.setCell ⟨wr.heap.size, 0, none⟩ (.int .i64 (rn o q x))).setCell ⟨wr.heap.size, 1, none⟩ (.int .i64 (rn o q y))) (.cells #[.int .i64 (rn o q x), .int .i64 (rn o q y)] 44)
        rw [HXS.out] at hpv
        obtain ⟨w9, hrun, hR9, -, -⟩ := (HR.out.below (HBX.out.trans (hal.mono HBX.out.size))).append (j' := k + 1) (f := f) (by omega) HF.out (by omega) (by omega) hpv 30
        have HRUN := Lib.hid hrun
        have HR9 := Lib.hid hR9
        clear hrun hR9 hpv hal
        generalize rn o q x = p1 at *
        generalize rn o q y = p2 at *
        go_wp2_with (at_builtin; refine Lib.wpList_append_run _ rfl _ _ _ _ rfl (.slice (some ⟨g, 0, none⟩) f n) (.slice (some ⟨w8.heap.size, 0, none⟩) 1 1) rfl rfl _ _ HRUN.out ?_)
        exact ⟨⟨k + 1, f + 1, by omega, by go_num, rfl, by unfold Hid; rw [HPR.out, List.length_append, HF.out]; rfl, by rw [HPR.out]; exact HR9.out⟩, by simp [intOf]; omega⟩
    · obtain rfl : k = n := by omega
      have hki : ¬ (k : Int) < (k : Int) := by omega
      have hall : m.take k = m := List.take_of_length_le (by rw [HM.out]; omega)
      rw [hall] at hR HF
      have HR := Lib.hid hR
      clear hR hall
      go_wp2_with fail
      refine (SortR.sort_any f HF.out (by omega) HR.out).mono ?_
      rintro e w5 ⟨rfl, hR5⟩
      have HR5 := Lib.hid hR5
      clear hR5
      go_wp2_with fail
      refine (CompactR.compact_any g f k ((pre o q m).mergeSort leR) (by rw [List.length_mergeSort]; exact HF.out) (by omega) hz w5 HR5.out.again0).mono ?_
      rintro e w6 ⟨rfl, j, m', hR6⟩
      have hcs := compact_sort o q m
      rw [HF.out] at hcs
      rw [hcs] at hR6 ⊢
      have HE : Hid (∃ j m', Rw w w6 g k (swapM o q m) j m') := ⟨j, m', hR6.rebase (HR.out.kept.trans HR5.out.kept)⟩
      clear hR6 hcs
      go_wp2_with fail
      go_ret
      exact ⟨rfl, HE.out⟩
end Go.Proofs.Ytknlackphdcflaa.Renum
