/- The laws' size of a row of distributions. -/
import Derived.Test.YtfbgekhkbbhggaaZh
import Derived.StillTailTactics
namespace Go.Proofs.Ytfbgekhkbbhggaa.ZhL
open Go.RowKit Pairs Rec Keep GivesI Zh
/-- How many weights there are in all. -/
def tot (L : List Pt) : Nat := (L.map (fun x => x.2.length)).sum
theorem tot_next {L : List Pt} {k : Nat} {x : Pt} (hx : L[k]? = some x) : tot (L.take (k + 1)) = tot (L.take k) + x.2.length := by
  unfold tot
  rw [List.take_add_one, hx]
  simp
theorem tot_le (L : List Pt) (k : Nat) : tot (L.take k) ≤ tot L := by
  induction L generalizing k with
  | nil => simp
  | cons x L ih =>
    cases k with
    | zero => exact Nat.zero_le _
    | succ k =>
      have := ih k
      unfold tot at *
      simp only [List.take_succ_cons, List.map_cons, List.sum_cons]
      omega
def SzAns (L : List Pt) (n : Nat) (w : World) (e : Ending) (w' : World) : Prop := ∃ r : Int, e = .returned (.int .i64 r) ∧ (r < 0 ∨ (0 ≤ r ∧ r ≤ 1048576 ∧ n ≤ 1048576 ∧ Sm L 1048576 ∧ tot L ≤ 1048576)) ∧ Below w.heap.size w w'
set_option maxRecDepth 100000 in
set_option maxHeartbeats 2000000 in
theorem szS_any (a : Option Addr) (n c : Nat) (L : List Pt) (z : Int) (hz0 : 0 ≤ z) (hz1 : z ≤ 1048576) (hn : n ≤ 9223372036854775807) (w : World) (h : HoldsZ w a n L) (hS : Sm L 9223372036854775807) :
    Calls Try.prog 51 #[.slice a n c, .int .i64 z] w (SzAns L n w) := by
  have HH := Lib.hid h
  have HL := Lib.hid h.1
  have HS := Lib.hid hS
  clear h hS
  go_enter Try.func51, Try.ntmps51
  by_cases hlt : z < n
  · have hh : z - n < 0 := by omega
    go_wp2_with fail
    go_ret
    exact ⟨_, rfl, .inl (by omega), Below.refl _ _⟩
  · have hh : ¬ z - n < 0 := by omega
    have hnz : n ≤ 1048576 := by omega
    go_wp2_with fail
    go_loopw [1, 5] (fun s1 s5 wr => ∃ (k : Nat) (y : Int), k ≤ n ∧ s5 = .int .i64 k ∧ s1 = .int .i64 y ∧ 0 ≤ y ∧ y ≤ 1048576 ∧ Hid (Sm (L.take k) 1048576 ∧ (tot (L.take k) : Int) + y ≤ 1048576) ∧ Hid (Below w.heap.size w wr)) (fun _ s5 _ => n - (intOf s5).toNat)
    case atStart => exact ⟨0, z - n, Nat.zero_le _, rfl, rfl, by omega, by omega, ⟨fun x hx => by simp at hx, by show (0 : Int) + _ ≤ _; omega⟩, Below.refl _ _⟩
    case round =>
      obtain ⟨k, y, hk, rfl, rfl, hy0, hy1, HP, HR⟩ := hrel
      clear hh hlt
      by_cases hkn : k < n
      · obtain ⟨b, off, s, M, p, j, c2, rfl, hx, e1, e2, hM⟩ := (HH.out.below HR.out).at k hkn
        have hsm := HS.out _ (List.mem_of_getElem? hx)
        have hjM := hM.1
        have hj : j ≤ 9223372036854775807 := by have := hsm; simp only at this; omega
        have HX := Lib.hid hx
        have HJ := Lib.hid hjM
        have HM := Lib.hid hM
        have hki : (k : Int) < (n : Int) := by omega
        have hk0 : (0 : Int) ≤ (k : Int) := by omega
        clear hx hsm hjM hM
        go_wp2_with fail
        refine (Di.szDist_any s p j c2 y hy0 hy1 hj _).mono ?_
        rintro e wq ⟨rfl, hq⟩
        have HR2 := Lib.hid (HR.out.trans (hq.mono HR.out.size))
        clear hq e1 e2
        by_cases hneg : y < j
        · rw [if_pos hneg]
          clear hneg
          go_wp2_with fail
          go_ret
          exact ⟨_, rfl, .inl (by omega), HR2.out⟩
        · rw [if_neg hneg]
          have HP2 : Hid (Sm (L.take (k + 1)) 1048576 ∧ (tot (L.take (k + 1)) : Int) + (y - j) ≤ 1048576) := by
            refine ⟨?_, ?_⟩
            · intro x hx
              rw [List.take_add_one, HX.out] at hx
              rcases List.mem_append.1 hx with hx | hx
              · exact HP.out.1 x hx
              · obtain rfl : x = (s, M) := by simpa using hx
                have := HJ.out; simp only; omega
            · have h1 := HP.out.2
              rw [tot_next HX.out, HJ.out]
              omega
          have hh : ¬ y - (j : Int) < 0 := by omega
          have hq0 : 0 ≤ y - (j : Int) := by omega
          have hq1 : y - (j : Int) ≤ 1048576 := by omega
          generalize y - (j : Int) = y2 at *
          clear hneg
          go_wp2_with fail
          exact ⟨⟨k + 1, y2, by omega, by go_num, rfl, hq0, hq1, HP2, HR2⟩, by simp [intOf]; omega⟩
      · obtain rfl : k = n := by omega
        have hki : ¬ (k : Int) < (k : Int) := by omega
        have hp := HP.out
        rw [List.take_of_length_le (by rw [HL.out]; exact Nat.le_refl _)] at hp
        have HQ := Lib.hid hp
        clear hp
        go_wp2_with fail
        go_ret
        exact ⟨_, rfl, .inr ⟨hy0, hy1, hnz, HQ.out.1, by have := HQ.out.2; omega⟩, HR.out⟩
end Go.Proofs.Ytfbgekhkbbhggaa.ZhL
