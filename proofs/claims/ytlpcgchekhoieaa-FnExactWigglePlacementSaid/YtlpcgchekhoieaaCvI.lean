/- IsValidCurve: the program. -/
import Derived.Test.YtlpcgchekhoieaaCvM
namespace Go.Proofs.Ytlpcgchekhoieaa.CvI
open Go Go.RowKit Pairs Rec Keep GivesI Cu CvM
set_option linter.unusedVariables false
/-- A curve without its first k points. -/
theorem drop_holds {w : World} {b off n k : Nat} {L : List Dt} (h : HoldsD w (some ⟨b, off, none⟩) n L) (hk : k ≤ n) : HoldsD w (some ⟨b, off + k * 3, none⟩) (n - k) (L.drop k) := by
  obtain ⟨h1, h2⟩ := h
  refine ⟨by rw [List.length_drop]; omega, ?_⟩
  rcases h2 with h2 | ⟨b', off', ha, hbw, hc⟩
  · exact .inl (by omega)
  · injection ha with ha
    injection ha with e1 e2
    subst e1 e2
    refine .inr ⟨b, off + k * 3, rfl, hbw, fun i x hi => ?_⟩
    rw [List.getElem?_drop] at hi
    have := hc (k + i) x hi
    rw [show off + (k + i) * 3 = off + k * 3 + i * 3 by omega] at this
    exact this
set_option maxRecDepth 100000 in
set_option maxHeartbeats 4000000 in
theorem valid_any (a : Option Addr) (n c : Nat) (L : List Dt) (w : World) (hn : n ≤ 1048576) (hc : n ≤ c) (h : HoldsD w a n L) :
    Calls Try.prog 17 #[.slice a n c] w fun e w' => e = .returned (.bool (cv L)) ∧ Below w.heap.size w w' := by
  have HL := Lib.hid h.1
  have H := Lib.hid h
  obtain ⟨r, hr⟩ : ∃ r, r = cv L := ⟨_, rfl⟩
  rw [← hr]
  have HR := Lib.hid hr
  clear hr h
  go_enter Try.func17, Try.ntmps17
  by_cases h2 : n < 2
  · have h2' : (n : Int) < 2 := by omega
    have HF := Lib.hid (HR.out.trans (cv_not fun o => by have := o.lo; rw [HL.out] at this; omega))
    go_wp2_with fail
    go_ret
    exact ⟨by rw [HF.out]; rfl, Below.refl _ _⟩
  have h2' : ¬ (n : Int) < 2 := by omega
  by_cases h40 : 40 < n
  · have h40' : (40 : Int) < (n : Int) := by omega
    have HF := Lib.hid (HR.out.trans (cv_not fun o => by have := o.len; rw [HL.out] at this; omega))
    go_wp2_with fail
    go_ret
    exact ⟨by rw [HF.out]; rfl, Below.refl _ _⟩
  have h40' : ¬ (40 : Int) < (n : Int) := by omega
  go_wp2_with fail
  refine (FuncT.contains_any 58 #[] (fun q => !okP q) a n c L _ hn H.out (fun args W => FuncT.call_enter Try.func58 (by kernel_rfl) rfl args W) (fun x y z wr _ hbr => clo_any x y z wr)).mono ?_
  rintro e w1 ⟨rfl, b1⟩
  have HB := Lib.hid b1
  replace H := Lib.hid (H.out.below b1)
  have HAL := Lib.hid (any_not L)
  clear b1
  generalize (L.any fun q => !okP q) = v at *
  cases v with
  | true =>
    have HF := Lib.hid (HR.out.trans (cv_not fun o => by
      have h1 : L.all okP = true := List.all_eq_true.2 o.all
      have := HAL.out
      rw [h1] at this
      cases this))
    go_wp2_with fail
    go_ret
    exact ⟨by rw [HF.out]; rfl, HB.out⟩
  | false =>
    have HALL : Hid (∀ i, i < n → okP (pt L i) = true) := fun i hi => by
      have h1 : L.all okP = true := by have := HAL.out; cases hq : L.all okP with
        | true => rfl
        | false => rw [hq] at this; cases this
      exact List.all_eq_true.1 h1 _ (pt_mem (by rw [HL.out]; exact hi))
    obtain ⟨b, off, x, y, z, rfl, hx, e1, e2, e3⟩ := H.out.at 0 (by omega)
    have HT := Lib.hid (drop_holds H.out (k := 1) (by omega))
    have HU0 : Hid (∀ i, i + 1 < 1 → 1 ≤ (pt L (i + 1)).1 - (pt L i).1 ∧ (pt L (i + 1)).1 - (pt L i).1 ≤ 50) := fun i hi => absurd hi (by omega)
    clear hx e1 e2 e3 HAL
    go_wp2_with fail
    obtain ⟨m, hm⟩ : ∃ m, n - 1 = m := ⟨_, rfl⟩
    rw [hm, show off + 1 * 3 = off + 3 by omega] at HT
    rw [hm]
    have hmn : m + 1 = n := by omega
    have HM := Lib.hid hmn
    clear hm hmn
    go_loopw [24] (fun s24 wr => ∃ i : Nat, i ≤ m ∧ s24 = .int .i64 i ∧ Hid (∀ j, j + 1 < i + 1 → 1 ≤ (pt L (j + 1)).1 - (pt L j).1 ∧ (pt L (j + 1)).1 - (pt L j).1 ≤ 50) ∧ Hid (Below w1.heap.size w1 wr)) (fun s24 _ => m - (intOf s24).toNat)
    case atStart => exact ⟨0, Nat.zero_le _, rfl, HU0, Below.refl _ _⟩
    case round =>
      clear HU0
      obtain ⟨i, hi, rfl, HS, HW⟩ := hrel
      by_cases hlt : i < m
      · have him : (i : Int) < (m : Int) := by omega
        have hi0 : (0 : Int) ≤ (i : Int) := by omega
        have hin : (i : Int) < (n : Int) := by have := HM.out; omega
        have HW0 := HW.out
        obtain ⟨b1, off1, x1, y1, z1, hb1, hx1, e1, e2, e3⟩ := (HT.out.below HW0).at i hlt
        injection hb1 with hb1
        injection hb1 with hb1 ho1
        subst hb1 ho1
        obtain ⟨b1, off1, x0, y0, z0, hb1, hx0, g1, g2, g3⟩ := (H.out.below HW0).at i (by have := HM.out; omega)
        injection hb1 with hb1
        injection hb1 with hb1 ho1
        subst hb1 ho1
        rw [List.getElem?_drop, Nat.add_comm 1 i] at hx1
        have HP1 := Lib.hid (pt_of hx1)
        have HP0 := Lib.hid (pt_of hx0)
        have hy1 := (okP_iff.1 (HALL.out (i + 1) (by have := HM.out; omega))).y
        have hy0 := (okP_iff.1 (HALL.out i (by have := HM.out; omega))).y
        rw [HP1.out] at hy1
        rw [HP0.out] at hy0
        simp only at hy1 hy0
        have hbz := below_alloc wr (.cells #[.int .i64 x1, .int .i64 y1, .int .i64 z1] 75)
        obtain ⟨f1, f2, f3⟩ := box3 wr (.int .i64 x1) (.int .i64 y1) (.int .i64 z1) 75
        replace g1 := (hbz.cell (World.block_lt_of_cell? wr _ g1)).trans g1
        have HW2 := Lib.hid (HW0.trans (hbz.mono HW0.size))
        clear hx1 hx0 hbz g2 g3 f2 f3 HW HW0
        have k1 := cell_regrown f1
        have k2 := cell_regrown g1
        have q1 : IntKind.i64.wrap (x1 - x0) = x1 - x0 := by rw [IntKind.wrap_i64]; omega
        go_wp2_with fail
        generalize wr.alloc (.cells #[.int .i64 x1, .int .i64 y1, .int .i64 z1] 75) = W2 at *
        refine wp_region_quiet_below (by kernel_rfl) (by kernel_rfl) ?_
        repeat (go_big_quiet_step (fail))
        refine wpQuiet_nil ?_
        intro _ hw'
        obtain ⟨⟨dq, osq⟩, hw''⟩ := hw'
        subst hw''
        have hbq := below_regrown W2 dq osq
        have HW3 := Lib.hid (HW2.out.trans (hbq.mono HW2.out.size))
        clear k1 k2 hbq HW2 e1 e2 e3 f1 g1 q1
        generalize Sort.grow (redrawn W2 dq) osq = W3 at *
        have HE := Lib.hid (show (pt L (i + 1)).1 - (pt L i).1 = x1 - x0 by rw [HP1.out, HP0.out])
        by_cases hs1 : x1 - x0 < 1
        · have HF := Lib.hid (HR.out.trans (cv_not fun o => by have h1 := o.st i (by rw [HL.out]; have := HM.out; omega); rw [HE.out] at h1; omega))
          go_wp2_with fail
          go_ret
          exact ⟨by rw [HF.out]; rfl, HB.out.trans (HW3.out.mono HB.out.size)⟩
        · by_cases hs2 : 50 < x1 - x0
          · have HF := Lib.hid (HR.out.trans (cv_not fun o => by have h1 := o.st i (by rw [HL.out]; have := HM.out; omega); rw [HE.out] at h1; omega))
            go_wp2_with fail
            go_ret
            exact ⟨by rw [HF.out]; rfl, HB.out.trans (HW3.out.mono HB.out.size)⟩
          · have HS2 : Hid (∀ j, j + 1 < i + 1 + 1 → 1 ≤ (pt L (j + 1)).1 - (pt L j).1 ∧ (pt L (j + 1)).1 - (pt L j).1 ≤ 50) := fun j hj => by
              by_cases e : j = i
              · subst e
                rw [HE.out]
                omega
              · exact HS.out j (by omega)
            go_wp2_with fail
            exact ⟨⟨i + 1, by omega, by go_num, HS2, HW3⟩, by simp [intOf]; omega⟩
      · obtain rfl : i = m := by omega
        have hii : ¬ (i : Int) < (i : Int) := by omega
        have HU := Lib.hid (show cv L = decide ((pt L (L.length - 1)).1 - (pt L 0).1 < 400) from Upto.is ⟨fun j hj => HALL.out j (by rw [HL.out] at hj; exact hj), fun j hj => HS.out j (by rw [HL.out] at hj; have := HM.out; omega)⟩ (by rw [HL.out]; omega) (by rw [HL.out]; omega))
        rw [HL.out] at HU
        have HY0 := Lib.hid (okP_iff.1 (HALL.out 0 (by omega))).y
        have HY1 := Lib.hid (okP_iff.1 (HALL.out (n - 1) (by omega))).y
        have HH := Lib.hid (H.out.below HW.out)
        have HB2 := Lib.hid (HB.out.trans (HW.out.mono HB.out.size))
        clear HS HW HT
        go_wp2_with fail
        refine (years_any (some ⟨b, off, none⟩) n c L wr hn (by omega) HH.out).mono ?_
        rintro e w5 ⟨rfl, b5⟩
        generalize (pt L 0).1 = t0 at *
        generalize (pt L (n - 1)).1 = t1 at *
        have hy0 := HY0.out
        have hy1 := HY1.out
        have hbz := below_alloc w5 (.cells #[.int .i64 t0, .int .i64 t1] 81)
        have f1 := box_first w5 (.int .i64 t0) (.int .i64 t1) 81
        have f2 := box_second w5 (.int .i64 t0) (.int .i64 t1) 81
        have HB5 := Lib.hid (HB2.out.trans ((b5.trans (hbz.mono b5.size)).mono HB2.out.size))
        have q1 : wrap64 (t1 - t0) = t1 - t0 := by unfold wrap64; omega
        have HF := Lib.hid (HR.out.trans HU.out)
        clear b5 hbz HU
        go_wp2_with fail
        go_ret
        exact ⟨by rw [HF.out]; rfl, HB5.out⟩
end Go.Proofs.Ytlpcgchekhoieaa.CvI
