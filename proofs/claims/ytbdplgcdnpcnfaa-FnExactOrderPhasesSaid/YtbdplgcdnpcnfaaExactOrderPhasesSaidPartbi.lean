/- The laws' helpers on slices of phases: size, copy, equality. -/
import Derived.Test.YtbdplgcdnpcnfaaExactOrderPhasesSaidPartae
import Derived.StillTailTactics
namespace Go.Proofs.Ytbdplgcdnpcnfaa.PhL
open Go.RowKit Pairs Rec Keep GivesI Ph
theorem szI_any (p : Option Addr) (n c : Nat) (z : Int) (hz0 : 0 ≤ z) (hz1 : z ≤ 1048576) (hn : n ≤ 9223372036854775807) (w : World) :
    Calls Try.prog 61 #[.slice p n c, .int .i64 z] w fun e w' => e = .returned (.int .i64 (if z < n then -1 else z - n)) ∧ w = w' := by
  go_enter Try.func61, Try.ntmps61
  by_cases h : z < n
  · rw [if_pos h]
    have hh : z - n < 0 := by omega
    go_wp2
    go_ret
    exact ⟨rfl, rfl⟩
  · rw [if_neg h]
    have hh : ¬ z - n < 0 := by omega
    go_wp2
    go_ret
    exact ⟨rfl, rfl⟩
def szOne (s n : Nat) (z : Int) : Int := if z < s then -1 else if z - s < n then -1 else z - s - n
set_option maxHeartbeats 1000000 in
theorem szPhase_any (s : ByteArray) (p : Option Addr) (n c : Nat) (z : Int) (hz0 : 0 ≤ z) (hz1 : z ≤ 1048576) (hs : s.size ≤ 9223372036854775807) (hn : n ≤ 9223372036854775807) (w : World) :
    Calls Try.prog 31 #[.agg #[.string s, .slice p n c], .int .i64 z] w fun e w' => e = .returned (.int .i64 (szOne s.size n z)) ∧ Below w.heap.size w w' := by
  have hb := below_alloc w (.cells #[.string s, .slice p n c] 54)
  have hf := box_first w (.string s) (.slice p n c) 54
  have hf2 := box_second w (.string s) (.slice p n c) 54
  unfold szOne
  generalize hk : s.size = k at *
  go_enter Try.func31, Try.ntmps31
  by_cases h : z < k
  · rw [if_pos h]
    have hh : z - k < 0 := by omega
    go_wp2_with fail
    go_ret
    exact ⟨rfl, hb⟩
  · rw [if_neg h]
    have hh : ¬ z - k < 0 := by omega
    go_wp2_with fail
    generalize w.alloc (.cells #[.string s, .slice p n c] 54) = W at *
    refine (szI_any p n c (z - k) (by omega) (by omega) hn _).mono ?_
    rintro e w' ⟨rfl, rfl⟩
    by_cases h2 : z - k < n
    · rw [if_pos h2]
      go_wp2_with fail
      go_ret
      exact ⟨rfl, hb⟩
    · rw [if_neg h2]
      have hh : ¬ z - k - n < 0 := by omega
      go_wp2_with fail
      go_ret
      exact ⟨rfl, hb⟩
theorem szOne_neg {s n : Nat} {z : Int} (h : szOne s n z < 0) : szOne s n z = -1 := by
  unfold szOne at *
  split
  · rfl
  · split
    · rfl
    · exfalso
      rename_i h1 h2
      rw [if_neg h1, if_neg h2] at h
      omega
theorem szOne_pos {s n : Nat} {z : Int} (hz : z ≤ 1048576) (h : ¬ szOne s n z < 0) : 0 ≤ szOne s n z ∧ szOne s n z ≤ 1048576 ∧ s ≤ 1048576 ∧ n ≤ 1048576 := by
  unfold szOne at *
  by_cases h1 : z < s
  · rw [if_pos h1] at h
    omega
  · rw [if_neg h1] at *
    by_cases h2 : z - s < n
    · rw [if_pos h2] at h
      omega
    · rw [if_neg h2]
      omega
def SzAns (L : List Pt) (n : Nat) (w : World) (e : Ending) (w' : World) : Prop := ∃ r : Int, e = .returned (.int .i64 r) ∧ (r < 0 ∨ (0 ≤ r ∧ r ≤ 1048576 ∧ n ≤ 1048576 ∧ Sm L 1048576)) ∧ Below w.heap.size w w'
set_option maxRecDepth 100000 in
set_option maxHeartbeats 2000000 in
theorem szPhaseS_any (a : Option Addr) (n c : Nat) (L : List Pt) (z : Int) (hz0 : 0 ≤ z) (hz1 : z ≤ 1048576) (hn : n ≤ 9223372036854775807) (w : World) (h : HoldsP w a n L) (hS : Sm L 9223372036854775807) :
    Calls Try.prog 9 #[.slice a n c, .int .i64 z] w (SzAns L n w) := by
  have HH := Lib.hid h
  have HL := Lib.hid h.1
  have HS := Lib.hid hS
  clear h hS
  go_enter Try.func9, Try.ntmps9
  by_cases hlt : z < n
  · have hh : z - n < 0 := by omega
    go_wp2_with fail
    go_ret
    exact ⟨_, rfl, .inl (by omega), Below.refl _ _⟩
  · have hh : ¬ z - n < 0 := by omega
    have hnz : n ≤ 1048576 := by omega
    go_wp2_with fail
    go_loopw [1, 5] (fun s1 s5 wr => ∃ (k : Nat) (y : Int), k ≤ n ∧ s5 = .int .i64 k ∧ s1 = .int .i64 y ∧ 0 ≤ y ∧ y ≤ 1048576 ∧ Hid (Sm (L.take k) 1048576) ∧ Hid (Below w.heap.size w wr)) (fun _ s5 _ => n - (intOf s5).toNat)
    case atStart => exact ⟨0, z - n, Nat.zero_le _, rfl, rfl, by omega, by omega, fun x hx => by simp at hx, Below.refl _ _⟩
    case round =>
      obtain ⟨k, y, hk, rfl, rfl, hy0, hy1, HP, HR⟩ := hrel
      clear hh hlt
      by_cases hkn : k < n
      · obtain ⟨b, off, s, M, p, j, c2, rfl, hx, e1, e2, hM⟩ := (HH.out.below HR.out).at k hkn
        have hsm := HS.out _ (List.mem_of_getElem? hx)
        have hjM := hM.1
        have hj : j ≤ 9223372036854775807 := by have := hsm.2; simp only at this; omega
        have hs2 : s.size ≤ 9223372036854775807 := hsm.1
        have HX := Lib.hid hx
        have HJ := Lib.hid hjM
        have HM := Lib.hid hM
        have hki : (k : Int) < (n : Int) := by omega
        have hk0 : (0 : Int) ≤ (k : Int) := by omega
        clear hx hsm hjM hM
        go_wp2_with fail
        refine (szPhase_any s p j c2 y hy0 hy1 hs2 hj _).mono ?_
        rintro e wq ⟨rfl, hq⟩
        have HR2 := Lib.hid (HR.out.trans (hq.mono HR.out.size))
        clear hq e1 e2
        by_cases hneg : szOne s.size j y < 0
        · rw [szOne_neg hneg]
          clear hneg
          go_wp2_with fail
          go_ret
          exact ⟨_, rfl, .inl (by omega), HR2.out⟩
        · obtain ⟨q0, q1, q2, q3⟩ := szOne_pos hy1 hneg
          have HP2 : Hid (Sm (L.take (k + 1)) 1048576) := by
            unfold Hid
            intro x hx
            rw [List.take_add_one, HX.out] at hx
            rcases List.mem_append.1 hx with hx | hx
            · exact HP.out x hx
            · obtain rfl : x = (s, M) := by simpa using hx
              exact ⟨q2, by have := HJ.out; simp only; omega⟩
          generalize szOne s.size j y = y2 at *
          clear hs2
          go_wp2_with fail
          exact ⟨⟨k + 1, y2, by omega, by go_num, rfl, q0, q1, HP2, HR2⟩, by simp [intOf]; omega⟩
      · obtain rfl : k = n := by omega
        have hki : ¬ (k : Int) < (k : Int) := by omega
        have hp := HP.out
        rw [List.take_of_length_le (by rw [HL.out]; exact Nat.le_refl _)] at hp
        have HQ := Lib.hid hp
        clear hp
        go_wp2_with fail
        go_ret
        exact ⟨_, rfl, .inr ⟨hy0, hy1, hnz, HQ.out⟩, HR.out⟩
end Go.Proofs.Ytbdplgcdnpcnfaa.PhL
/- The laws' szPhaseS once more: the members in all are told too. -/
namespace Go.Proofs.Ytbdplgcdnpcnfaa.PhL2
open Go.RowKit Pairs Rec Keep GivesI Ph PhL
/-- How many members there are in all. -/
def tot (L : List Pt) : Nat := (L.map (fun x => x.2.length)).sum
theorem tot_next {L : List Pt} {k : Nat} {x : Pt} (hx : L[k]? = some x) : tot (L.take (k + 1)) = tot (L.take k) + x.2.length := by
  unfold tot
  rw [List.take_add_one, hx]
  simp
theorem tot_le (L : List Pt) (k : Nat) : tot (L.take k) ≤ tot L := by
  induction L generalizing k with
  | nil => simp
  | cons x L ih =>
    cases k with
    | zero => exact Nat.zero_le _
    | succ k =>
      have := ih k
      unfold tot at *
      simp only [List.take_succ_cons, List.map_cons, List.sum_cons]
      omega
theorem szOne_is {s n : Nat} {z : Int} (h : ¬ szOne s n z < 0) : szOne s n z = z - s - n := by
  unfold szOne at *
  by_cases h1 : z < s
  · rw [if_pos h1] at h
    omega
  · rw [if_neg h1] at *
    by_cases h2 : z - s < n
    · rw [if_pos h2] at h
      omega
    · rw [if_neg h2]
def SzAns2 (L : List Pt) (n : Nat) (w : World) (e : Ending) (w' : World) : Prop := ∃ r : Int, e = .returned (.int .i64 r) ∧ (r < 0 ∨ (0 ≤ r ∧ r ≤ 1048576 ∧ n ≤ 1048576 ∧ Sm L 1048576 ∧ tot L ≤ 1048576)) ∧ Below w.heap.size w w'
set_option maxRecDepth 100000 in
set_option maxHeartbeats 2000000 in
theorem szPhaseS_tot (a : Option Addr) (n c : Nat) (L : List Pt) (z : Int) (hz0 : 0 ≤ z) (hz1 : z ≤ 1048576) (hn : n ≤ 9223372036854775807) (w : World) (h : HoldsP w a n L) (hS : Sm L 9223372036854775807) :
    Calls Try.prog 9 #[.slice a n c, .int .i64 z] w (SzAns2 L n w) := by
  have HH := Lib.hid h
  have HL := Lib.hid h.1
  have HS := Lib.hid hS
  clear h hS
  go_enter Try.func9, Try.ntmps9
  by_cases hlt : z < n
  · have hh : z - n < 0 := by omega
    go_wp2_with fail
    go_ret
    exact ⟨_, rfl, .inl (by omega), Below.refl _ _⟩
  · have hh : ¬ z - n < 0 := by omega
    have hnz : n ≤ 1048576 := by omega
    go_wp2_with fail
    go_loopw [1, 5] (fun s1 s5 wr => ∃ (k : Nat) (y : Int), k ≤ n ∧ s5 = .int .i64 k ∧ s1 = .int .i64 y ∧ 0 ≤ y ∧ y ≤ 1048576 ∧ Hid (Sm (L.take k) 1048576 ∧ (tot (L.take k) : Int) + y ≤ 1048576) ∧ Hid (Below w.heap.size w wr)) (fun _ s5 _ => n - (intOf s5).toNat)
    case atStart => exact ⟨0, z - n, Nat.zero_le _, rfl, rfl, by omega, by omega, ⟨fun x hx => by simp at hx, by show (0 : Int) + _ ≤ _; omega⟩, Below.refl _ _⟩
    case round =>
      obtain ⟨k, y, hk, rfl, rfl, hy0, hy1, HP, HR⟩ := hrel
      clear hh hlt
      by_cases hkn : k < n
      · obtain ⟨b, off, s, M, p, j, c2, rfl, hx, e1, e2, hM⟩ := (HH.out.below HR.out).at k hkn
        have hsm := HS.out _ (List.mem_of_getElem? hx)
        have hjM := hM.1
        have hj : j ≤ 9223372036854775807 := by have := hsm.2; simp only at this; omega
        have hs2 : s.size ≤ 9223372036854775807 := hsm.1
        have HX := Lib.hid hx
        have HJ := Lib.hid hjM
        have HM := Lib.hid hM
        have hki : (k : Int) < (n : Int) := by omega
        have hk0 : (0 : Int) ≤ (k : Int) := by omega
        clear hx hsm hjM hM
        go_wp2_with fail
        refine (szPhase_any s p j c2 y hy0 hy1 hs2 hj _).mono ?_
        rintro e wq ⟨rfl, hq⟩
        have HR2 := Lib.hid (HR.out.trans (hq.mono HR.out.size))
        clear hq e1 e2
        by_cases hneg : szOne s.size j y < 0
        · rw [szOne_neg hneg]
          clear hneg
          go_wp2_with fail
          go_ret
          exact ⟨_, rfl, .inl (by omega), HR2.out⟩
        · obtain ⟨q0, q1, q2, q3⟩ := szOne_pos hy1 hneg
          have hZ := szOne_is hneg
          have HT2 : Hid ((tot (L.take (k + 1)) : Int) + szOne s.size j y ≤ 1048576) := by
            unfold Hid
            have h1 := HP.out.2
            rw [hZ, tot_next HX.out, HJ.out]
            omega
          clear hZ
          have HP2 : Hid (Sm (L.take (k + 1)) 1048576) := by
            unfold Hid
            intro x hx
            rw [List.take_add_one, HX.out] at hx
            rcases List.mem_append.1 hx with hx | hx
            · exact HP.out.1 x hx
            · obtain rfl : x = (s, M) := by simpa using hx
              exact ⟨q2, by have := HJ.out; simp only; omega⟩
          generalize szOne s.size j y = y2 at *
          clear hs2
          go_wp2_with fail
          exact ⟨⟨k + 1, y2, by omega, by go_num, rfl, q0, q1, ⟨HP2.out, HT2.out⟩, HR2⟩, by simp [intOf]; omega⟩
      · obtain rfl : k = n := by omega
        have hki : ¬ (k : Int) < (k : Int) := by omega
        have hp := HP.out
        rw [List.take_of_length_le (by rw [HL.out]; exact Nat.le_refl _)] at hp
        have HQ := Lib.hid hp
        clear hp
        go_wp2_with fail
        go_ret
        exact ⟨_, rfl, .inr ⟨hy0, hy1, hnz, HQ.out.1, by have := HQ.out.2; omega⟩, HR.out⟩
end Go.Proofs.Ytbdplgcdnpcnfaa.PhL2
