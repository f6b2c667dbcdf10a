/- SpreadOf on both sides. -/
import Derived.Test.YtbdplgcdnpcnfaaGpN
import Derived.Deep.RegionHeld3
namespace Go.Proofs.Ytbdplgcdnpcnfaa.GpW
open Go.RowKit Pairs Rec RecEq Keep GivesI Chain Find2 GoodM Lows Order Bit Table Idx Ph GpM GpB GpC GpI GpS GpP GpN
set_option maxRecDepth 100000 in
set_option maxHeartbeats 4000000 in
theorem count_any (bx : Nat) (l m : Ps) (p1 p2 : Option Addr) (n1 n2 c1 c2 : Nat) (A B : List Int) (hn1 : n1 ≤ 10) (hn2 : n2 ≤ 10) (w : World) (ho : IsOrd w l m bx) (hA : HoldsI w p1 n1 A) (hB : HoldsI w p2 n2 B)
    (hKA : ∀ x ∈ A, x ∈ keys l) (hrA : ∀ x ∈ A, 1 ≤ x ∧ x ≤ 999) (hrB : ∀ x ∈ B, 1 ≤ x ∧ x ≤ 999) :
    Calls Try.prog 59 #[.func (.func 90) #[] #[.pointer (some ⟨bx, 0, none⟩)], .slice p1 n1 c1, .slice p2 n2 c2] w fun e w' => e = .returned (.int .i64 (cnt (later m) A B : Nat)) ∧ w' = w := by
  have HO := Lib.hid ho
  have HA := Lib.hid hA
  have HB := Lib.hid hB
  have HK := Lib.hid (And.intro hKA (And.intro hrA hrB))
  have HLA := Lib.hid hA.1
  have HLB := Lib.hid hB.1
  clear ho hA hB hKA hrA hrB
  go_enter Try.func59, Try.ntmps59
  go_wp2_with fail
  go_loop [7, 14] (fun s7 s14 => ∃ k c : Nat, k ≤ n1 ∧ s14 = .int .i64 k ∧ s7 = .int .i64 (c : Int) ∧ Hid (c = cnt (later m) (A.take k) B)) (fun _ s14 => n1 - (intOf s14).toNat)
  case atStart => exact ⟨0, 0, Nat.zero_le _, rfl, rfl, rfl⟩
  case round =>
    obtain ⟨k, c, hk, rfl, rfl, HC⟩ := hrel
    have hc100 : c ≤ 100 := by
      rw [HC.out]
      refine Nat.le_trans (cnt_le _ _ _) ?_
      rw [List.length_take, HLA.out, HLB.out]
      exact Nat.mul_le_mul (by omega : min k n1 ≤ 10) hn2
    by_cases hlt : k < n1
    · obtain ⟨b, off, x, rfl, hx, e1⟩ := HA.out.at k hlt
      have HX := Lib.hid hx
      have hki : (k : Int) < (n1 : Int) := by omega
      have hk0 : (0 : Int) ≤ (k : Int) := by omega
      have HXK := Lib.hid (And.intro (HK.out.1 x (List.mem_of_getElem? hx)) (HK.out.2.1 x (List.mem_of_getElem? hx)))
      clear hx
      go_wp2_with fail
      go_loop [7, 20] (fun s7 s20 => ∃ j d : Nat, j ≤ n2 ∧ s20 = .int .i64 j ∧ s7 = .int .i64 (d : Int) ∧ Hid (d = c + (B.take j).countP (later m x))) (fun _ s20 => n2 - (intOf s20).toNat)
      case atStart => exact ⟨0, c, Nat.zero_le _, rfl, rfl, rfl⟩
      case round =>
        obtain ⟨j, d, hj, rfl, rfl, HD⟩ := hrel
        have hd : d ≤ 110 := by
          have h1 : (B.take j).countP (later m x) ≤ (B.take j).length := List.countP_le_length
          rw [List.length_take] at h1
          have := HD.out
          omega
        by_cases hjt : j < n2
        · obtain ⟨b2, off2, y, rfl, hy, e2⟩ := HB.out.at j hjt
          have hji : (j : Int) < (n2 : Int) := by omega
          have hj0 : (0 : Int) ≤ (j : Int) := by omega
          have hry := HK.out.2.2 y (List.mem_of_getElem? hy)
          have HN := Lib.hid (cp_next (later m x) hy)
          have hrx := HXK.out.2
          have cL := isLater_any bx l m x y w HO.out HXK.out.1 (by omega) (by omega)
          clear hy
          cases hl : later m x y with
          | true =>
            rw [hl] at cL
            have HD2 : Hid (d + 1 = c + (B.take (j + 1)).countP (later m x)) := by
              unfold Hid
              rw [HN.out, HD.out, hl, if_pos rfl]
              omega
            have CL := Lib.hid cL
            clear cL hl
            go_wp2_with fail
            refine CL.out.mono ?_
            rintro e w' ⟨rfl, hw⟩
            have hw2 := hw.symm
            subst hw2
            clear hw
            go_wp2_with fail
            go_round
            case rel => exact ⟨j + 1, d + 1, by omega, by go_num, by go_num, HD2⟩
            case measure => simp [intOf]; omega
          | false =>
            rw [hl] at cL
            have HD2 : Hid (d = c + (B.take (j + 1)).countP (later m x)) := by
              unfold Hid
              rw [HN.out, HD.out, hl, if_neg (by simp)]
              omega
            have CL := Lib.hid cL
            clear cL hl
            go_wp2_with fail
            refine CL.out.mono ?_
            rintro e w' ⟨rfl, hw⟩
            have hw2 := hw.symm
            subst hw2
            clear hw
            go_wp2_with fail
            go_round
            case rel => exact ⟨j + 1, d, by omega, by go_num, rfl, HD2⟩
            case measure => simp [intOf]; omega
        · obtain rfl : j = n2 := by omega
          have hji : ¬ (j : Int) < (j : Int) := by omega
          have HC2 : Hid (d = cnt (later m) (A.take (k + 1)) B) := by
            unfold Hid
            rw [cnt_next _ HX.out, ← HC.out, HD.out, List.take_of_length_le (by rw [HLB.out]; exact Nat.le_refl _)]
          go_wp2_with fail
          go_round
          case rel => exact ⟨k + 1, d, by omega, by go_num, rfl, HC2⟩
          case measure => simp [intOf]; omega
    · obtain rfl : k = n1 := by omega
      have hki : ¬ (k : Int) < (k : Int) := by omega
      have HR : Hid (c = cnt (later m) A B) := by
        unfold Hid
        rw [HC.out, List.take_of_length_le (by rw [HLA.out]; exact Nat.le_refl _)]
      go_wp2_with fail
      go_ret
      exact ⟨by rw [← HR.out]; rfl, rfl⟩
theorem hasPhase_any (z : Int) (p : Option Addr) (n c : Nat) (w : World) :
    Calls Try.prog 58 #[.slice p n c, .int .i64 z] w fun e w' => e = .returned (.bool (decide (0 ≤ z) && decide (z < (n : Int)))) ∧ w' = w := by
  go_enter Try.func58, Try.ntmps58
  by_cases h1 : 0 ≤ z
  · rw [decide_eq_true h1]
    by_cases h2 : z < (n : Int)
    · rw [decide_eq_true h2]
      go_wp2_with fail
      go_ret
      exact ⟨rfl, rfl⟩
    · rw [decide_eq_false h2]
      go_wp2_with fail
      go_ret
      exact ⟨rfl, rfl⟩
  · rw [decide_eq_false h1]
    go_wp2_with fail
    go_ret
    exact ⟨rfl, rfl⟩
theorem mb_rng {l m : Ps} {M : List Int} (hg : good l m = true) (hM : MbP l M) : ∀ x ∈ M, 1 ≤ x ∧ x ≤ 999 := fun x hx => by
  obtain ⟨k, hk⟩ := Option.isSome_iff_exists.1 (isAt_keys.2 (hM.2.2 x hx))
  exact IsLater.rng_at hg hk
set_option maxRecDepth 100000 in
set_option maxHeartbeats 8000000 in
theorem impl_any (z : Int) (a1 a2 : Option Addr) (n1 c1 n2 c2 : Nat) (l m : Ps) (p : Option Addr) (n : Nat) (L : List Pt) (w : World) (hz1 : n1 ≤ 1048576) (hz2 : n2 ≤ 1048576) (h1 : Holds w a1 n1 l) (h2 : Holds w a2 n2 m) (hn : n ≤ 1048576) (h : HoldsP w p n L) (hS : Sm L 1048576) :
    Calls Try.prog 28 #[.agg #[.slice a1 n1 c1, .slice a2 n2 c2], .slice p n n, .int .i64 z] w fun e w' => e = .returned (.tuple #[.int .i64 (spP z l m L).1, .bool (spP z l m L).2]) ∧ Below w.heap.size w w' := by
  have hb := below_alloc w (.cells #[.slice a1 n1 c1, .slice a2 n2 c2] 33)
  have hf := box_first w (.slice a1 n1 c1) (.slice a2 n2 c2) 33
  have hf2 := box_second w (.slice a1 n1 c1) (.slice a2 n2 c2) 33
  have hsz : w.heap.size < (w.alloc (.cells #[.slice a1 n1 c1, .slice a2 n2 c2] 33)).heap.size := by simp
  have H1 := Lib.hid (h1.below hb)
  have H2 := Lib.hid (h2.below hb)
  have HH := Lib.hid (h.below hb)
  have HL := Lib.hid h.1
  have HS := Lib.hid hS
  have HB := Lib.hid hb
  have HLl := Lib.hid h1.1
  clear h h1 h2 hS hb
  go_enter Try.func28, Try.ntmps28
  go_wp2_with fail
  generalize w.alloc (.cells #[.slice a1 n1 c1, .slice a2 n2 c2] 33) = W at *
  refine (grp_any a1 a2 n1 c1 n2 c2 l m p n n L W hz1 hz2 (Nat.le_refl _) hn HS.out H1.out H2.out HH.out).mono ?_
  rintro e w1 ⟨rfl, b1⟩
  have g1 := (b1.cell (p := ⟨w.heap.size, 0, none⟩) hsz).trans hf
  have g2 := (b1.cell (p := ⟨w.heap.size, 1, none⟩) hsz).trans hf2
  have hsz1 := Nat.lt_of_lt_of_le hsz b1.size
  have HB1 := Lib.hid (HB.out.trans (b1.mono HB.out.size))
  have K1 := Lib.hid (H1.out.below b1)
  have K2 := Lib.hid (H2.out.below b1)
  have KH := Lib.hid (HH.out.below b1)
  clear b1 hf hf2 H1 H2 HH
  cases hg : grp l m L with
  | false =>
    have HE := Lib.hid (sp_no1 (z := z) hg)
    clear hg
    go_wp2_with fail
    go_ret2
    exact ⟨by rw [HE.out]; rfl, HB1.out⟩
  | true =>
    have HG := Lib.hid hg
    clear hg
    go_wp2_with fail
    refine (hasPhase_any z p n n w1).mono ?_
    rintro e w2 ⟨rfl, hw⟩
    have hw2 := hw.symm
    subst hw2
    clear hw
    by_cases hzr : 0 ≤ z ∧ z < (n : Int)
    · rw [decide_eq_true hzr.1, decide_eq_true hzr.2]
      obtain ⟨k, rfl⟩ : ∃ k : Nat, z = (k : Int) := ⟨z.toNat, by have := hzr.1; omega⟩
      have hkn : k < n := by have := hzr.2; omega
      have hki : (k : Int) < (n : Int) := hzr.2
      have hk0 : (0 : Int) ≤ (k : Int) := hzr.1
      clear hzr
      obtain ⟨b, off, s, M, pp, j, d, rfl, hx, e1, e2, hM⟩ := KH.out.at k hkn
      have hmb := grp_mb HG.out hx
      have hgd := grp_good HG.out
      have hj10 : j ≤ 10 := by
        have h1 := mb_len (Idx.good_asc hgd).1 hmb
        have h2 := (Idx.good_asc hgd).2
        have h3 := hM.1
        omega
      have HE := Lib.hid (sp_yes HG.out hx)
      have HMB := Lib.hid hmb
      have HGD := Lib.hid hgd
      have bd := (Below.refl w1.heap.size w1).drew
      have HMd := Lib.hid (hM.below bd)
      have K1d := Lib.hid (K1.out.below bd)
      have K2d := Lib.hid (K2.out.below bd)
      have BD := Lib.hid bd
      have hblt := World.block_lt_of_cell? w1 _ e2
      have q1 : w1.drew.cell? ⟨w.heap.size, 0, none⟩ = some (.slice a1 n1 c1) := (bd.cell (p := ⟨w.heap.size, 0, none⟩) hsz1).trans g1
      have q2 : w1.drew.cell? ⟨w.heap.size, 1, none⟩ = some (.slice a2 n2 c2) := (bd.cell (p := ⟨w.heap.size, 1, none⟩) hsz1).trans g2
      have q3 : w1.drew.cell? ⟨b, off + k * 2 + 1, none⟩ = some (.slice pp j d) := (bd.cell (p := ⟨b, off + k * 2 + 1, none⟩) hblt).trans e2
      have Q := Lib.hid (And.intro q1 (And.intro q2 q3))
      have hszd : w1.heap.size ≤ w1.drew.heap.size := bd.size
      clear hx hM hmb hgd bd e1 q1 q2 q3
      go_wp2_with fail
      go_region_held3 (fun X => X.cell? ⟨w.heap.size, 0, none⟩ = some (.slice a1 n1 c1) ∧ X.cell? ⟨w.heap.size, 1, none⟩ = some (.slice a2 n2 c2) ∧ X.cell? ⟨b, off + k * 2 + 1, none⟩ = some (.slice pp j d))
        (first | go_keep | (exact ⟨by assumption, by assumption, by assumption⟩) | exact Q.out)
        (first
          | (go_at_call 60; refine (orderOf_any a1 a2 n1 c1 n2 c2 l m w1.drew HGD.out K1d.out K2d.out).mono ?_; rintro e w9 ⟨bx, rfl, ho, b9⟩; have s1 := (b9.cell (p := ⟨w.heap.size, 0, none⟩) (Nat.lt_of_lt_of_le hsz1 hszd)).trans Q.out.1; have s2 := (b9.cell (p := ⟨w.heap.size, 1, none⟩) (Nat.lt_of_lt_of_le hsz1 hszd)).trans Q.out.2.1; have s3 := (b9.cell (p := ⟨b, off + k * 2 + 1, none⟩) (Nat.lt_of_lt_of_le hblt hszd)).trans Q.out.2.2)
          | (go_at_call 59; refine (count_any bx l m pp pp j j d d M M hj10 hj10 w9 ho (HMd.out.below b9) (HMd.out.below b9) HMB.out.2.2 (mb_rng HGD.out HMB.out) (mb_rng HGD.out HMB.out)).mono ?_; rintro e w10 ⟨rfl, rfl⟩))
      have HBE := Lib.hid (HB1.out.trans ((BD.out.trans (b9.mono BD.out.size)).mono HB1.out.size))
      clear b9 ho s1 s2 s3 g1 g2 e2
      go_wp2_with fail
      go_ret2
      exact ⟨by rw [HE.out]; rfl, HBE.out⟩
    · have hd : (decide (0 ≤ z) && decide (z < (n : Int))) = false := by
        cases h1 : decide (0 ≤ z) with
        | false => rfl
        | true =>
          have h2 : ¬ z < (n : Int) := fun h => hzr ⟨of_decide_eq_true h1, h⟩
          rw [decide_eq_false h2]
          rfl
      rw [hd]
      have HE := Lib.hid (sp_no2 (z := z) (l := l) (m := m) (L := L) (by rw [HL.out]; exact hzr))
      clear hd hzr
      go_wp2_with fail
      go_ret2
      exact ⟨by rw [HE.out]; rfl, HB1.out⟩
end Go.Proofs.Ytbdplgcdnpcnfaa.GpW
