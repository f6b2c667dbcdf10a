/- The program's DatingWeight. -/
import Derived.Test.YtfbgekhkbbhggaaAdI
import Derived.Test.YtfbgekhkbbhggaaVdI
import Derived.Deep.CutRange
import Derived.Deep.RegionHeld3
namespace Go.Proofs.Ytfbgekhkbbhggaa.DwI
open Go Go.RowKit Pairs Rec Keep GivesI Zh Dr DvM ChM ChE Find2 GoodM ShI AtM
set_option linter.unusedVariables false
/-- What DatingWeight answers. -/
def dwP (l m : List (Int × Int)) (Z : List Zh.Pt) (ys : List Int) : Int × Bool := if vd l m Z = true ∧ ys.length = Z.length then (wt l m Z ys, true) else (0, false)
theorem dwP_no {l m : List (Int × Int)} {Z : List Zh.Pt} {ys : List Int} (h : vd l m Z = true → ys.length = Z.length → False) : dwP l m Z ys = (0, false) := by
  unfold dwP
  rw [if_neg fun e => h e.1 e.2]
theorem dwP_yes {l m : List (Int × Int)} {Z : List Zh.Pt} {ys : List Int} (h1 : vd l m Z = true) (h2 : ys.length = Z.length) : dwP l m Z ys = (wt l m Z ys, true) := by
  unfold dwP
  rw [if_pos ⟨h1, h2⟩]
theorem prd_zero {Z : List Zh.Pt} {ys : List Int} (h : okZ Z = true) (hl : ys.length = Z.length) {j : Nat} {x : Zh.Pt} {y : Int} (hx : Z[j]? = some x) (hy : ys[j]? = some y) (h0 : wat x.1 x.2 y = 0) : prd Z ys = 0 := by
  have h1 := prd_bd ys h
  rcases Int.lt_or_eq_of_le h1.1 with h2 | h2
  · have := (prd_pos h hl).1 h2 j x y hx hy
    omega
  · exact h2.symm
/-- A year that is not admitted: the dating has no weight. -/
theorem wt_out {l m : List (Int × Int)} {Z : List Zh.Pt} (hv : Vd l m Z) {ys : List Int} (hl : ys.length = Z.length) {j : Nat} {x : Zh.Pt} {y : Int} (hx : Z[j]? = some x) (hy : ys[j]? = some y)
    (h : ¬ ((adm l m (ys.take j) (x.1, x.1 + x.2.length - 1)).1 ≤ y ∧ y ≤ (adm l m (ys.take j) (x.1, x.1 + x.2.length - 1)).2)) : wt l m Z ys = 0 := by
  rw [adm_is] at h
  unfold wt
  by_cases hr : resp l m ys = true
  · rw [if_pos hr]
    have hf := (resp_is (GoodE.good_is hv.good) (by rw [hl, hv.len])).1 hr j y hy
    refine prd_zero hv.each hl hx hy (wat_out fun e => h ⟨e.1, e.2, hf⟩)
  · rw [if_neg hr]
theorem wt_all {l m : List (Int × Int)} {Z : List Zh.Pt} (hv : Vd l m Z) {ys : List Int} (hl : ys.length = Z.length) (h : fits l m ys) : wt l m Z ys = prd Z ys := by
  unfold wt
  rw [if_pos ((resp_is (GoodE.good_is hv.good) (by rw [hl, hv.len])).2 h)]
theorem prd_next {Z : List Zh.Pt} {ys : List Int} {k : Nat} {x : Zh.Pt} {y : Int} (hx : Z[k]? = some x) (hy : ys[k]? = some y) : prd (Z.take (k + 1)) (ys.take (k + 1)) = prd (Z.take k) (ys.take k) * wat x.1 x.2 y := by
  have h1 := (List.getElem?_eq_some_iff.1 hx).1
  have h2 := (List.getElem?_eq_some_iff.1 hy).1
  rw [List.take_add_one, List.take_add_one, hx, hy]
  exact prd_app _ _ _ _ (by rw [List.length_take, List.length_take]; omega)
theorem holdsI_take {w : World} {p : Option Addr} {n : Nat} {L : List Int} (h : HoldsI w p n L) (k : Nat) (hk : k ≤ n) : HoldsI w p k (L.take k) := by
  obtain ⟨h1, h2⟩ := h
  refine ⟨by rw [List.length_take]; omega, ?_⟩
  rcases h2 with h2 | ⟨b, off, ha, hb, hc⟩
  · exact .inl (by omega)
  · refine .inr ⟨b, off, ha, hb, fun i x hi => ?_⟩
    have hik : i < k := by have := (List.getElem?_eq_some_iff.1 hi).1; rw [List.length_take] at this; omega
    rw [List.getElem?_take_of_lt hik] at hi
    exact hc i x hi
set_option maxRecDepth 100000 in
set_option maxHeartbeats 8000000 in
theorem impl_any (a1 a2 a3 : Option Addr) (n1 c1 n2 c2 n3 c3 : Nat) (l m : List (Int × Int)) (Z : List Zh.Pt) (p : Option Addr) (k c : Nat) (ys : List Int) (w : World) (h : Arg w a1 n1 a2 n2 a3 n3 l m Z) (hk0 : k ≤ 1048576) (hy : HoldsI w p k ys) (hkc : k ≤ c) :
    Calls Try.prog 21 #[.agg #[.slice a1 n1 c1, .slice a2 n2 c2, .slice a3 n3 c3], .slice p k c] w fun e w' => e = .returned (.tuple #[.int .i64 (dwP l m Z ys).1, .bool (dwP l m Z ys).2]) ∧ Below w.heap.size w w' := by
  have hb := below_alloc w (.cells #[.slice a1 n1 c1, .slice a2 n2 c2, .slice a3 n3 c3] 37)
  obtain ⟨f1, f2, f3⟩ := box3 w (.slice a1 n1 c1) (.slice a2 n2 c2) (.slice a3 n3 c3) 37
  have hlt : w.heap.size < (w.alloc (.cells #[.slice a1 n1 c1, .slice a2 n2 c2, .slice a3 n3 c3] 37)).heap.size := by simp
  have H := Lib.hid (h.below hb)
  have HY := Lib.hid (hy.below hb)
  have HB := Lib.hid hb
  have hl1 := Lib.hid h.h1.1
  have hl3 := Lib.hid h.h3.1
  have hyl := Lib.hid hy.1
  clear h hy hb
  obtain ⟨r, hr⟩ : ∃ r, r = dwP l m Z ys := ⟨_, rfl⟩
  rw [← hr]
  have HR := Lib.hid hr
  clear hr
  go_enter Try.func21, Try.ntmps21
  go_wp2_with fail
  generalize w.alloc (.cells #[.slice a1 n1 c1, .slice a2 n2 c2, .slice a3 n3 c3] 37) = W at *
  refine (VdI.valid_any a1 a2 a3 n1 c1 n2 c2 n3 c3 l m Z W H.out).mono ?_
  rintro e w1 ⟨rfl, b1⟩
  have g1 := (b1.cell (p := ⟨w.heap.size, 0, none⟩) hlt).trans f1
  have g2 := (b1.cell (p := ⟨w.heap.size, 1, none⟩) hlt).trans f2
  have g3 := (b1.cell (p := ⟨w.heap.size, 2, none⟩) hlt).trans f3
  have H1 := Lib.hid (H.out.below b1)
  have HY1 := Lib.hid (HY.out.below b1)
  have HB1 := Lib.hid (HB.out.trans (b1.mono HB.out.size))
  have hlt1 := Nat.lt_of_lt_of_le hlt b1.size
  clear b1 f1 f2 f3 hlt H HY HB
  cases hg : vd l m Z with
  | false =>
    have HN := Lib.hid (HR.out.trans (dwP_no fun e _ => by rw [hg] at e; cases e))
    clear hg
    go_wp2_with fail
    go_ret2
    exact ⟨by rw [HN.out]; rfl, HB1.out⟩
  | true =>
    by_cases hkn : k = n3
    · have HV := Lib.hid (vd_iff.1 hg)
      have HN := Lib.hid (HR.out.trans (dwP_yes hg (by rw [hyl.out, hl3.out, hkn])))
      have hn13 : n1 = n3 := by have := HV.out.len; rw [hl1.out, hl3.out] at this; omega
      clear hg
      have hkni : (k : Int) = (n3 : Int) := by omega
      have HLL := Lib.hid (show ys.length = Z.length by rw [hyl.out, hl3.out, hkn])
      have HKN := Lib.hid hkn
      have H13 := Lib.hid hn13
      clear hkn hn13
      go_wp2_with fail
      clear hkni
      go_loopw [6, 23] (fun s6 s23 wr => ∃ (j : Nat) (P : Int), j ≤ k ∧ s23 = .int .i64 j ∧ s6 = .int .i64 P ∧ Hid (P = prd (Z.take j) (ys.take j)) ∧ Hid (fits l m (ys.take j)) ∧ Hid (Below w.heap.size w wr ∧ Below w1.heap.size w1 wr)) (fun _ s23 _ => k - (intOf s23).toNat)
      case atStart => exact ⟨0, 1, Nat.zero_le _, rfl, rfl, rfl, fun i y hi => by simp at hi, HB1.out, Below.refl _ _⟩
      case round =>
        obtain ⟨j, P, hj, rfl, rfl, HP, HF, HW⟩ := hrel
        by_cases hjk : j < k
        · have hji : (j : Int) < (k : Int) := by omega
          have hj0 : (0 : Int) ≤ (j : Int) := by omega
          have hjn : (j : Int) < (n3 : Int) := by have := HKN.out; omega
          obtain ⟨b, off, f, M, q, jz, cz, rfl, hx, e1, e2, hM⟩ := (H1.out.h3.below HW.out.2).at j (by have := HKN.out; omega)
          obtain ⟨by_, oy, y, rfl, hyy, e3⟩ := (HY1.out.below HW.out.2).at j hjk
          have hsz : jz ≤ 1048576 := by
            have h1 := H1.out.sm _ (List.mem_of_getElem? hx)
            have h2 := hM.1
            simp only at h1
            omega
          have ho := okZ_mem HV.out.each (List.mem_of_getElem? hx)
          have hlo := (okD_iff.1 ho).lo
          have hhi := (okD_iff.1 ho).hi
          have hpos := (okD_iff.1 ho).pos
          have hlen60 := (okD_iff.1 ho).len
          simp only at hlo hhi hpos hlen60
          have HM := Lib.hid hM
          have HML := Lib.hid hM.1
          have HOUT := Lib.hid (fun h => wt_out HV.out HLL.out hx hyy h)
          have HIN := Lib.hid (fun h => ((adm_is l m (ys.take j) y (f, f + M.length - 1)).1 h).2.2)
          have HINL := Lib.hid (fun h => (adm_is l m (ys.take j) y (f, f + M.length - 1)).1 h)
          have HYY := Lib.hid hyy
          have g1' := (HW.out.2.cell (p := ⟨w.heap.size, 0, none⟩) hlt1).trans g1
          have g2' := (HW.out.2.cell (p := ⟨w.heap.size, 1, none⟩) hlt1).trans g2
          have g3' := (HW.out.2.cell (p := ⟨w.heap.size, 2, none⟩) hlt1).trans g3
          have HT := Lib.hid (prd_next hx hyy)
          have hbd := prd_bd (ys.take (j + 1)) (okZ_take HV.out.each (j + 1))
          have hle := (part_le HV.out.each (j + 1)).2.2.2
          have hms := HV.out.sums
          rw [HT.out, ← HP.out] at hbd
          simp only at hbd
          have HT2 : Hid (P * wat f M y = prd (Z.take (j + 1)) (ys.take (j + 1))) := by
            unfold Hid
            rw [HT.out, ← HP.out]
          have HAD : Hid (∀ W, Below wr.heap.size wr W → Calls Try.prog 61 #[.agg #[.slice a1 n1 c1, .slice a2 n2 c2, .slice (some ⟨b, off, none⟩) n3 c3], .slice (some ⟨by_, oy, none⟩) j c] W fun e w' => e = .returned (.agg #[.int .i64 (adm l m (ys.take j) (f, f + M.length - 1)).1, .int .i64 (adm l m (ys.take j) (f, f + M.length - 1)).2]) ∧ Below W.heap.size W w') := fun W hW =>
            AdI.admitted_any a1 a2 (some ⟨b, off, none⟩) n1 c1 n2 c2 n3 c3 l m Z (some ⟨by_, oy, none⟩) j c (ys.take j) f M W ((H1.out.below HW.out.2).below hW) (holdsI_take ((HY1.out.below HW.out.2).below hW) j (by omega)) (by have := HKN.out; have := H13.out; omega) hx ⟨hlo, by omega⟩
          obtain ⟨A, hA⟩ : ∃ A, A = adm l m (ys.take j) (f, f + M.length - 1) := ⟨_, rfl⟩
          rw [← hA] at HAD HIN HINL
          have HOUT2 : Hid (¬ (A.1 ≤ y ∧ y ≤ A.2) → wt l m Z ys = 0) := fun h => HOUT.out (by rw [← hA]; exact h)
          clear hA HOUT hx hyy hM ho HT
          obtain ⟨A1, A2⟩ := A
          simp only at HIN HINL HOUT2 HAD
          have hjc : (j : Int) ≤ (c : Int) := by omega
          have bw : Below wr.heap.size wr wr.drew := (Below.refl wr.heap.size wr).drew
          have ba : Below wr.heap.size wr (wr.alloc (.cells #[.int .i64 0, .int .i64 0] 86)).drew := (below_alloc wr (.cells #[.int .i64 0, .int .i64 0] 86)).drew
          have NB0 := Lib.hid ((bx_new wr (.int .i64 0) (.int .i64 0) 86).below ((Below.refl (wr.alloc (.cells #[.int .i64 0, .int .i64 0] 86)).heap.size _).drew))
          have s1 := (ba.cell (p := ⟨w.heap.size, 0, none⟩) (World.block_lt_of_cell? wr _ g1')).trans g1'
          have s2 := (ba.cell (p := ⟨w.heap.size, 1, none⟩) (World.block_lt_of_cell? wr _ g2')).trans g2'
          have s3 := (ba.cell (p := ⟨w.heap.size, 2, none⟩) (World.block_lt_of_cell? wr _ g3')).trans g3'
          go_upto_region 7 with fail
          go_cut [9] from 28 to 32 (fun s9 wc => ∃ gb, s9 = .pointer (some ⟨gb, 0, none⟩) ∧ Hid (Bx wc gb (.int .i64 A1) (.int .i64 A2) ∧ Below wr.heap.size wr wc))
          case first =>
            go_region_held3 (fun w' => w'.cell? ⟨w.heap.size, 0, none⟩ = some (.slice a1 n1 c1) ∧ w'.cell? ⟨w.heap.size, 1, none⟩ = some (.slice a2 n2 c2) ∧ w'.cell? ⟨w.heap.size, 2, none⟩ = some (.slice (some ⟨b, off, none⟩) n3 c3))
              (first | go_keep | (exact ⟨by first | assumption | exact cell_off _ _ t1 (by have h1 := World.block_lt_of_cell? wr _ g1'; have h2 := bq.size; simp only at h1 h2; omega), by first | assumption | exact cell_off _ _ t2 (by have h1 := World.block_lt_of_cell? wr _ g1'; have h2 := bq.size; simp only at h1 h2; omega), by first | assumption | exact cell_off _ _ t3 (by have h1 := World.block_lt_of_cell? wr _ g1'; have h2 := bq.size; simp only at h1 h2; omega)⟩))
              (first
                | (go_at_call 61; with_reducible refine (HAD.out _ bw).mono ?_; rintro e v ⟨rfl, bv⟩; have bq := bw.trans (bv.mono bw.size); have t1 := (bq.cell (p := ⟨w.heap.size, 0, none⟩) (World.block_lt_of_cell? wr _ g1')).trans g1'; have t2 := (bq.cell (p := ⟨w.heap.size, 1, none⟩) (World.block_lt_of_cell? wr _ g2')).trans g2'; have t3 := (bq.cell (p := ⟨w.heap.size, 2, none⟩) (World.block_lt_of_cell? wr _ g3')).trans g3'; have NN := bx_new v (.int .i64 0) (.int .i64 0) 86; have m0 := NN.c0; have m1 := NN.c1; have m2 := NN.f0; have m3 := NN.f1; have HNN := Lib.hid NN; clear NN)
                | (go_at_call 61; with_reducible refine (HAD.out _ ba).mono ?_; rintro e v ⟨rfl, bv⟩; have bq := ba.trans (bv.mono ba.size); have t1 := (bq.cell (p := ⟨w.heap.size, 0, none⟩) (World.block_lt_of_cell? wr _ g1')).trans g1'; have t2 := (bq.cell (p := ⟨w.heap.size, 1, none⟩) (World.block_lt_of_cell? wr _ g2')).trans g2'; have t3 := (bq.cell (p := ⟨w.heap.size, 2, none⟩) (World.block_lt_of_cell? wr _ g3')).trans g3'; have NN := NB0.out.below bv; have m0 := NN.c0; have m1 := NN.c1; have m2 := NN.f0; have m3 := NN.f1; have HNN := Lib.hid NN; clear NN))
            all_goals go_wp2_with fail
            all_goals go_meet
            all_goals first
              | exact ⟨_, rfl, bx_new _ _ _ _, bq.trans ((below_alloc v _).mono bq.size)⟩
              | exact ⟨_, rfl, bx_put HNN.out _ _, (bq.setCell (p := ⟨_, 0, none⟩) (by first | exact Nat.le_refl _ | exact bq.size) _).setCell (p := ⟨_, 1, none⟩) (by first | exact Nat.le_refl _ | exact bq.size) _⟩
          case rest =>
            obtain ⟨gb, rfl, HC⟩ := hcut
            have bb := HC.out.2
            have p0 := HC.out.1.c0
            have p1 := HC.out.1.c1
            have e1' := (bb.cell (p := ⟨b, off + j * 2, none⟩) (World.block_lt_of_cell? wr _ e1)).trans e1
            have e2' := (bb.cell (p := ⟨b, off + j * 2 + 1, none⟩) (World.block_lt_of_cell? wr _ e2)).trans e2
            have g3'' := (bb.cell (p := ⟨w.heap.size, 2, none⟩) (World.block_lt_of_cell? wr _ g3')).trans g3'
            have HM2 := Lib.hid (HM.out.below bb)
            have HWC := Lib.hid (And.intro (HW.out.1.trans (bb.mono HW.out.1.size)) (HW.out.2.trans (bb.mono HW.out.2.size)))
            clear e1 e2 e3 g1' g2' g3' s1 s2 s3 bw ba NB0 bb HC HAD
            by_cases hin : A1 ≤ y ∧ y ≤ A2
            · obtain ⟨i1, i2⟩ := hin
              have i3 : ¬ y < A1 := by omega
              have i4 : ¬ A2 < y := by omega
              have hyr := HINL.out ⟨i1, i2⟩
              have hyb : -1000000000 ≤ y ∧ y ≤ 1000000000 := by have := HML.out; omega
              have HF2 : Hid (fits l m (ys.take (j + 1))) := by
                unfold Hid
                rw [List.take_add_one, HYY.out]
                exact fits_app.2 ⟨HF.out, HIN.out ⟨i1, i2⟩⟩
              obtain ⟨u, hu⟩ : ∃ u, u = wat f M y := ⟨_, rfl⟩
              rw [← hu] at hbd HT2
              have hw : IntKind.i64.wrap (P * u) = P * u := by rw [IntKind.wrap_i64]; omega
              have HU := Lib.hid hu
              clear hyr hu HIN HINL HOUT2
              go_wp2_with fail
              refine (WwI.weightAt_any f q jz cz M y _ hsz (by omega) hyb HM2.out).mono ?_
              rintro e W6 ⟨rfl, b6⟩
              rw [← HU.out]
              have HW6 := Lib.hid (And.intro (HWC.out.1.trans (b6.mono HWC.out.1.size)) (HWC.out.2.trans (b6.mono HWC.out.2.size)))
              clear b6 p0 p1 e1' e2' g3''
              go_wp2_with fail
              exact ⟨⟨j + 1, P * u, by omega, by go_num, rfl, HT2, HF2, HW6⟩, by simp [intOf]; omega⟩
            · have HZ := Lib.hid (HOUT2.out hin)
              have HWE := Lib.hid HWC.out.1
              have hres : Hid (r = (0, true)) := by unfold Hid; rw [HN.out, HZ.out]
              by_cases i3 : y < A1
              · clear hin
                go_wp2_with fail
                go_ret2
                exact ⟨by rw [hres.out]; rfl, HWE.out⟩
              · have i4 : A2 < y := by omega
                clear hin
                go_wp2_with fail
                go_ret2
                exact ⟨by rw [hres.out]; rfl, HWE.out⟩
        · obtain rfl : j = k := by omega
          have hjj : ¬ (j : Int) < (n3 : Int) := by have := HKN.out; omega
          have hjj2 : ¬ (j : Int) < (j : Int) := by omega
          have e1 : Z.take j = Z := List.take_of_length_le (by rw [hl3.out, HKN.out]; exact Nat.le_refl _)
          have e2 : ys.take j = ys := List.take_of_length_le (by rw [hyl.out]; exact Nat.le_refl _)
          have HE := Lib.hid (show r = (P, true) by
            have h1 := HP.out
            have h2 := HF.out
            rw [e1, e2] at h1
            rw [e2] at h2
            rw [HN.out, wt_all HV.out HLL.out h2, h1])
          have HWE := Lib.hid HW.out.1
          clear e1 e2
          go_wp2_with fail
          go_ret2
          exact ⟨by rw [HE.out]; rfl, HWE.out⟩
    · have HN := Lib.hid (HR.out.trans (dwP_no fun _ e => by rw [hyl.out, hl3.out] at e; exact hkn e))
      have hkni : ¬ (k : Int) = (n3 : Int) := by omega
      clear hg
      go_wp2_with fail
      go_ret2
      exact ⟨by rw [HN.out]; rfl, HB1.out⟩
end Go.Proofs.Ytfbgekhkbbhggaa.DwI
