/- The model's l12Weight. -/
import Derived.Test.YtfbgekhkbbhggaaWtS
namespace Go.Proofs.Ytfbgekhkbbhggaa.WgtS
open Go Go.RowKit Pairs Rec Keep GivesI Zh Dr DvM ChM ChE Find2 GoodM AtM WtS
set_option linter.unusedVariables false
/-- Beginnings of the product. -/
theorem prd_next {Z : List Zh.Pt} {ys : List Int} {k : Nat} {x : Zh.Pt} {y : Int} (hx : Z[k]? = some x) (hy : ys[k]? = some y) : prd (Z.take (k + 1)) (ys.take (k + 1)) = prd (Z.take k) (ys.take k) * wat x.1 x.2 y := by
  have h1 := (List.getElem?_eq_some_iff.1 hx).1
  have h2 := (List.getElem?_eq_some_iff.1 hy).1
  rw [List.take_add_one, List.take_add_one, hx, hy]
  exact prd_app _ _ _ _ (by rw [List.length_take, List.length_take]; omega)
set_option maxRecDepth 100000 in
set_option maxHeartbeats 8000000 in
theorem weight_any (a1 a2 a3 : Option Addr) (n1 c1 n2 c2 n3 c3 : Nat) (l m : List (Int × Int)) (Z : List Zh.Pt) (p : Option Addr) (k c : Nat) (ys : List Int) (w : World) (h : Arg w a1 n1 a2 n2 a3 n3 l m Z) (hv : Vd l m Z) (hy : HoldsI w p k ys) (hk : k = n3) :
    Calls Try.prog 60 #[.agg #[.slice a1 n1 c1, .slice a2 n2 c2, .slice a3 n3 c3], .slice p k c] w fun e w' => e = .returned (.int .i64 (wt l m Z ys)) ∧ Below w.heap.size w w' := by
  have hb := below_alloc w (.cells #[.slice a1 n1 c1, .slice a2 n2 c2, .slice a3 n3 c3] 37)
  obtain ⟨f1, f2, f3⟩ := box3 w (.slice a1 n1 c1) (.slice a2 n2 c2) (.slice a3 n3 c3) 37
  have hlt : w.heap.size < (w.alloc (.cells #[.slice a1 n1 c1, .slice a2 n2 c2, .slice a3 n3 c3] 37)).heap.size := by simp
  have H := Lib.hid (h.below hb)
  have HY := Lib.hid (hy.below hb)
  have HB := Lib.hid hb
  have HV := Lib.hid hv
  have s1 := h.s1
  have s2 := h.s2
  have s3 := h.s3
  have hl1 := Lib.hid h.h1.1
  have hl3 := Lib.hid h.h3.1
  have hyl := Lib.hid hy.1
  have hk1 : k = n1 := by have := hv.len; have := h.h1.1; have := h.h3.1; omega
  have HK := Lib.hid hk
  have HK1 := Lib.hid hk1
  clear h hy hb hv hk hk1
  obtain ⟨r, hr⟩ : ∃ r, r = wt l m Z ys := ⟨_, rfl⟩
  rw [← hr]
  have HR := Lib.hid hr
  clear hr
  go_enter Try.func60, Try.ntmps60
  go_wp2_with fail
  generalize w.alloc (.cells #[.slice a1 n1 c1, .slice a2 n2 c2, .slice a3 n3 c3] 37) = W at *
  refine (respects_any a1 a2 n1 c1 n2 c2 l m p k c ys W s1 s2 H.out.h1 H.out.h2 HY.out HV.out.good HK1.out).mono ?_
  rintro e w1 ⟨rfl, b1⟩
  have g3 := (b1.cell (p := ⟨w.heap.size, 2, none⟩) hlt).trans f3
  have H1 := Lib.hid (H.out.below b1)
  have HY1 := Lib.hid (HY.out.below b1)
  have HB1 := Lib.hid (HB.out.trans (b1.mono HB.out.size))
  have hlt1 := Nat.lt_of_lt_of_le hlt b1.size
  clear b1 f1 f2 f3 hlt H HY HB
  cases hrs : resp l m ys with
  | false =>
    have HN := Lib.hid (show r = 0 by have := HR.out; unfold wt at this; rw [hrs] at this; simpa using this)
    go_wp2_with fail
    go_ret
    exact ⟨by rw [HN.out]; rfl, HB1.out⟩
  | true =>
    have HN := Lib.hid (show r = prd Z ys by have := HR.out; unfold wt at this; rw [hrs] at this; simpa using this)
    clear hrs
    go_wp2_with fail
    go_loopw [5, 6] (fun s5 s6 wr => ∃ (j : Nat) (P : Int), j ≤ k ∧ s6 = .int .i64 j ∧ s5 = .int .i64 P ∧ Hid (P = prd (Z.take j) (ys.take j)) ∧ Hid (Below w.heap.size w wr ∧ Below w1.heap.size w1 wr)) (fun _ s6 _ => k - (intOf s6).toNat)
    case atStart => exact ⟨0, 1, Nat.zero_le _, rfl, rfl, rfl, HB1.out, Below.refl _ _⟩
    case round =>
      obtain ⟨j, P, hj, rfl, rfl, HP, HW⟩ := hrel
      by_cases hjk : j < k
      · have hji : (j : Int) < (k : Int) := by omega
        have hj0 : (0 : Int) ≤ (j : Int) := by omega
        have hjn : (j : Int) < (n3 : Int) := by have := HK.out; omega
        obtain ⟨b, off, f, M, q, jz, cz, rfl, hx, e1, e2, hM⟩ := (H1.out.h3.below HW.out.2).at j (by have := HK.out; omega)
        obtain ⟨by_, oy, y, rfl, hyy, e3⟩ := (HY1.out.below HW.out.2).at j hjk
        have hsz : jz ≤ 1048576 := by
          have h1 := H1.out.sm _ (List.mem_of_getElem? hx)
          have h2 := hM.1
          simp only at h1
          omega
        have ho := okZ_mem HV.out.each (List.mem_of_getElem? hx)
        have hlo := (okD_iff.1 ho).lo
        have hhi := (okD_iff.1 ho).hi
        have hpos := (okD_iff.1 ho).pos
        have HM := Lib.hid hM
        have HT := Lib.hid (prd_next hx hyy)
        have hbd := prd_bd (ys.take (j + 1)) (okZ_take HV.out.each (j + 1))
        have hle := (part_le HV.out.each (j + 1)).2.2.2
        have hms := HV.out.sums
        have g3' := (HW.out.2.cell (p := ⟨w.heap.size, 2, none⟩) hlt1).trans g3
        rw [HT.out, ← HP.out] at hbd
        have HT2 : Hid (P * wat f M y = prd (Z.take (j + 1)) (ys.take (j + 1))) := by
          unfold Hid
          rw [HT.out, ← HP.out]
        have cA : ∀ d os, Calls Try.prog 87 #[.agg #[.int .i64 f, .slice q jz cz], .int .i64 y] (Sort.grow (redrawn wr d) os) fun e w'' => e = .returned (.int .i64 (wat f M y)) ∧ ∃ p : Regrown, w'' = Sort.grow (redrawn wr p.d) p.os := fun d os => Calls.regrown_of (l10At_wide f q jz cz M y _ hsz (by simp only at hlo hhi hpos; omega) (HM.out.below (below_regrown wr d os)))
        simp only at hbd
        obtain ⟨u, hu⟩ : ∃ u, u = wat f M y := ⟨_, rfl⟩
        rw [← hu] at cA hbd HT2
        have hw : IntKind.i64.wrap (P * u) = P * u := by rw [IntKind.wrap_i64]; omega
        have k1 := cell_regrown g3'
        have k2 := cell_regrown e1
        have k3 := cell_regrown e2
        have k4 := cell_regrown e3
        clear hx hyy hM ho hlo hhi hpos hle hms hu HT
        go_wp2_with fail
        refine wp_region_quiet_below (by kernel_rfl) (by kernel_rfl) ?_
        repeat (go_big_quiet_step ((go_at_call 87; exact cA _ _)))
        refine wpQuiet_nil ?_
        intro _ hw'
        obtain ⟨⟨dq, osq⟩, hw''⟩ := hw'
        subst hw''
        have HBQ := Lib.hid (below_regrown wr dq osq)
        clear k1 k2 k3 k4 cA e1 e2 e3 g3'
        generalize Sort.grow (redrawn wr dq) osq = W5 at *
        have HW5 := Lib.hid (And.intro (HW.out.1.trans (HBQ.out.mono HW.out.1.size)) (HW.out.2.trans (HBQ.out.mono HW.out.2.size)))
        generalize P * u = P' at *
        go_wp2_with fail
        exact ⟨⟨j + 1, P', by omega, by go_num, rfl, HT2, HW5⟩, by simp [intOf]; omega⟩
      · obtain rfl : j = k := by omega
        have hjj : ¬ (j : Int) < (j : Int) := by omega
        have e1 : Z.take j = Z := List.take_of_length_le (by rw [hl3.out, HK.out]; exact Nat.le_refl _)
        have e2 : ys.take j = ys := List.take_of_length_le (by rw [hyl.out]; exact Nat.le_refl _)
        have HF := Lib.hid (show r = P by have := HP.out; rw [e1, e2] at this; rw [HN.out, this])
        go_wp2_with fail
        go_ret
        exact ⟨by rw [HF.out]; rfl, HW.out.1⟩
end Go.Proofs.Ytfbgekhkbbhggaa.WgtS
