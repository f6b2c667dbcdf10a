/- The distances of the samples: the program's distancesOf. -/
import Derived.Test.YtlpcgchekhoieaaWgM
namespace Go.Proofs.Ytlpcgchekhoieaa.WgD
open Go Go.RowKit Pairs Rec Keep GivesI Cu CvM WgM
set_option linter.unusedVariables false
def sixV (f : Nat → Int) : Value := .agg #[.int .i64 (f 0), .int .i64 (f 1), .int .i64 (f 2), .int .i64 (f 3), .int .i64 (f 4), .int .i64 (f 5)]
theorem below6 {n₀ : Nat} {w W : World} {b : Nat} {u0 u1 u2 u3 u4 u5 : Value} (h : Below n₀ w W) (hb : n₀ ≤ b) : Below n₀ w ((((((W.setCell ⟨b, 0, none⟩ u0).setCell ⟨b, 1, none⟩ u1).setCell ⟨b, 2, none⟩ u2).setCell ⟨b, 3, none⟩ u3).setCell ⟨b, 4, none⟩ u4).setCell ⟨b, 5, none⟩ u5) :=
  (((((h.setCell (p := ⟨b, 0, none⟩) hb _).setCell (p := ⟨b, 1, none⟩) hb _).setCell (p := ⟨b, 2, none⟩) hb _).setCell (p := ⟨b, 3, none⟩) hb _).setCell (p := ⟨b, 4, none⟩) hb _).setCell (p := ⟨b, 5, none⟩) hb _
set_option maxRecDepth 100000 in
set_option maxHeartbeats 4000000 in
theorem dist_any (a : Option Addr) (n c : Nat) (gs : List Int) (w : World) (hn : n ≤ 5) (hg : okG gs = true) (h : HoldsI w a n gs) :
    Calls Try.prog 81 #[.slice a n c] w fun e w' => e = .returned (sixV (dAt gs n)) ∧ Below w.heap.size w w' := by
  unfold sixV
  obtain ⟨a0, ha0⟩ : ∃ z, dAt gs n 0 = z := ⟨_, rfl⟩
  obtain ⟨a1, ha1⟩ : ∃ z, dAt gs n 1 = z := ⟨_, rfl⟩
  obtain ⟨a2, ha2⟩ : ∃ z, dAt gs n 2 = z := ⟨_, rfl⟩
  obtain ⟨a3, ha3⟩ : ∃ z, dAt gs n 3 = z := ⟨_, rfl⟩
  obtain ⟨a4, ha4⟩ : ∃ z, dAt gs n 4 = z := ⟨_, rfl⟩
  obtain ⟨a5, ha5⟩ : ∃ z, dAt gs n 5 = z := ⟨_, rfl⟩
  rw [ha0, ha1, ha2, ha3, ha4, ha5]
  have HA0 := Lib.hid ha0
  have HA1 := Lib.hid ha1
  have HA2 := Lib.hid ha2
  have HA3 := Lib.hid ha3
  have HA4 := Lib.hid ha4
  have HA5 := Lib.hid ha5
  clear ha0 ha1 ha2 ha3 ha4 ha5
  have hb0 := below_alloc2 w (.cells #[.int .i64 0, .int .i64 0, .int .i64 0, .int .i64 0, .int .i64 0, .int .i64 0] 103) (.cells #[.int .i64 0, .int .i64 0, .int .i64 0, .int .i64 0, .int .i64 0, .int .i64 0] 103)
  have s1 := (six_new w 0 0 0 0 0 0 103 (fun _ => 0) ⟨rfl, rfl, rfl, rfl, rfl, rfl⟩).below (below_alloc _ (.cells #[.int .i64 0, .int .i64 0, .int .i64 0, .int .i64 0, .int .i64 0, .int .i64 0] 103))
  have s2 := six_new (w.alloc (.cells #[.int .i64 0, .int .i64 0, .int .i64 0, .int .i64 0, .int .i64 0, .int .i64 0] 103)) 0 0 0 0 0 0 103 (fun _ => 0) ⟨rfl, rfl, rfl, rfl, rfl, rfl⟩
  rw [show (w.alloc (.cells #[.int .i64 0, .int .i64 0, .int .i64 0, .int .i64 0, .int .i64 0, .int .i64 0] 103)).heap.size = w.heap.size + 1 by simp, ← dAt_zero gs] at s2
  have S1 := Lib.hid s1
  have S2 := Lib.hid s2
  have HB := Lib.hid hb0
  have HL := Lib.hid h.1
  have H := Lib.hid h
  have HG := Lib.hid hg
  clear s1 s2 hb0 h hg
  go_enter Try.func81, Try.ntmps81
  go_wp2_with fail
  generalize (w.alloc (.cells #[.int .i64 0, .int .i64 0, .int .i64 0, .int .i64 0, .int .i64 0, .int .i64 0] 103)).alloc (.cells #[.int .i64 0, .int .i64 0, .int .i64 0, .int .i64 0, .int .i64 0, .int .i64 0] 103) = W at *
  go_loopw [9] (fun s9 wr => ∃ k : Nat, k ≤ n ∧ s9 = .int .i64 k ∧ Hid (Six wr (w.heap.size + 1) (dAt gs k)) ∧ Hid (Six wr w.heap.size (fun _ => 0)) ∧ Hid (Below w.heap.size w wr)) (fun s9 _ => n - (intOf s9).toNat)
  case atStart => exact ⟨0, Nat.zero_le _, rfl, S2, S1, HB⟩
  case round =>
    clear S1 S2 HB
    obtain ⟨k, hk, rfl, D, R, HW⟩ := hrel
    by_cases hlt : k < n
    · have hkn : (k : Int) < (n : Int) := by omega
      have hk0 : (0 : Int) ≤ (k : Int) := by omega
      obtain ⟨b, off, x, rfl, hx, e1⟩ := (H.out.below HW.out).at k hlt
      have hxb := okG_mem HG.out (List.mem_of_getElem? hx)
      have hdb := dst_bd HG.out k
      obtain ⟨d, hd⟩ : ∃ d, dAt gs k k = d := ⟨_, rfl⟩
      have hdd : d = dst gs k := by rw [← hd]; unfold dAt; rw [if_pos (Nat.le_refl _)]
      have c1 := D.out.c k (by omega)
      rw [hd] at c1
      have f1 := D.out.fz (k + 1) (by omega)
      have c2 := D.out.c (k + 1) (by omega)
      have D2 := Lib.hid (D.out.set (k := k + 1) (v := d + x) (by omega))
      rw [← hd, dAt_next hx, hd] at D2
      have R2 := Lib.hid (R.out.off (g' := w.heap.size + 1) (k := k + 1) (v := .int .i64 (d + x)) (by omega))
      have HW2 := Lib.hid (HW.out.setCell (p := ⟨w.heap.size + 1, k + 1, none⟩) (by show w.heap.size ≤ w.heap.size + 1; omega) (.int .i64 (d + x)))
      have q1 : wrap64 ((k : Int) + 1) = ((k : Int) + 1) := by unfold wrap64; omega
      have q2 : wrap64 (d + x) = d + x := by unfold wrap64; omega
      have hk6 : (k : Int) < 6 := by omega
      have hk16 : ((k : Int) + 1) < 6 := by omega
      have hk10 : (0 : Int) ≤ ((k : Int) + 1) := by omega
      clear hx hd hdd hdb hxb D R HW
      go_wp2_with fail
      exact ⟨⟨k + 1, by omega, by go_num, D2, R2, HW2⟩, by simp [intOf]; omega⟩
    · obtain rfl : k = n := by omega
      have hkn : ¬ (k : Int) < (k : Int) := by omega
      obtain ⟨g0, g1, g2, g3, g4, g5⟩ : dAt gs k 0 = dAt gs k 0 ∧ True ∧ True ∧ True ∧ True ∧ True := ⟨rfl, trivial, trivial, trivial, trivial, trivial⟩
      have d0 := D.out.c 0 (by omega)
      have d1 := D.out.c 1 (by omega)
      have d2 := D.out.c 2 (by omega)
      have d3 := D.out.c 3 (by omega)
      have d4 := D.out.c 4 (by omega)
      have d5 := D.out.c 5 (by omega)
      have r0 := R.out.c 0 (by omega)
      have r1 := R.out.c 1 (by omega)
      have r2 := R.out.c 2 (by omega)
      have r3 := R.out.c 3 (by omega)
      have r4 := R.out.c 4 (by omega)
      have r5 := R.out.c 5 (by omega)
      have z0 := R.out.fz 0 (by omega)
      have z1 := R.out.fz 1 (by omega)
      have z2 := R.out.fz 2 (by omega)
      have z3 := R.out.fz 3 (by omega)
      have z4 := R.out.fz 4 (by omega)
      have z5 := R.out.fz 5 (by omega)
      rw [HA0.out] at d0
      rw [HA1.out] at d1
      rw [HA2.out] at d2
      rw [HA3.out] at d3
      rw [HA4.out] at d4
      rw [HA5.out] at d5
      have x6 := ((((((R.out.set (k := 0) (v := a0) (by omega)).set (k := 1) (v := a1) (by omega)).set (k := 2) (v := a2) (by omega)).set (k := 3) (v := a3) (by omega)).set (k := 4) (v := a4) (by omega)).set (k := 5) (v := a5) (by omega))
      have x0 := x6.c 0 (by omega)
      have x1 := x6.c 1 (by omega)
      have x2 := x6.c 2 (by omega)
      have x3 := x6.c 3 (by omega)
      have x4 := x6.c 4 (by omega)
      have x5 := x6.c 5 (by omega)
      simp at x0 x1 x2 x3 x4 x5
      have HBF := Lib.hid (below6 (u0 := .int .i64 a0) (u1 := .int .i64 a1) (u2 := .int .i64 a2) (u3 := .int .i64 a3) (u4 := .int .i64 a4) (u5 := .int .i64 a5) HW.out (Nat.le_refl w.heap.size))
      clear g0 g1 g2 g3 g4 g5 x6 HW D R
      go_wp2_with fail
      try simp only [Exit.inBlock, Exit.then]
      refine bodyPost_ret (v := .agg #[.int .i64 a0, .int .i64 a1, .int .i64 a2, .int .i64 a3, .int .i64 a4, .int .i64 a5]) (by simp [results, Try.results81, go_sem, x0, x1, x2, x3, x4, x5]) rfl ⟨rfl, HBF.out⟩
end Go.Proofs.Ytlpcgchekhoieaa.WgD
