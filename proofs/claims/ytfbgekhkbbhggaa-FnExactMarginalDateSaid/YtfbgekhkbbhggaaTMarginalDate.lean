/- FnExactMarginalDate: at every argument MarginalDate answers as its model does, shares no memory, and leaves its arguments as they were. No condition. -/
import Derived.Test.YtfbgekhkbbhggaaChE
import Derived.Test.YtfbgekhkbbhggaaDr
import Derived.Test.YtfbgekhkbbhggaaWaS
import Derived.Test.YtfbgekhkbbhggaaGood2
import Derived.Test.YtfbgekhkbbhggaaQsw
import Derived.Test.YtfbgekhkbbhggaaRdI
import Derived.BigQuiet
import Derived.Lib.QuietBelow
import Derived.Test.YtfbgekhkbbhggaaRdM
import Derived.Test.YtfbgekhkbbhggaaVdI
import Derived.Test.YtfbgekhkbbhggaaExI
import Derived.WalkLawsBesides
import Derived.Test.YtfbgekhkbbhggaaVdS
import Derived.Test.YtfbgekhkbbhggaaRdS
import Derived.Test.YtfbgekhkbbhggaaDrS
namespace Go.Proofs.Ytfbgekhkbbhggaa.WtS
open Go Go.RowKit Pairs Rec Keep GivesI Zh Dr DvM ChM ChE Find2 GoodM AtM
set_option linter.unusedVariables false
theorem resp_next {l m : List (Int × Int)} {r : Nat} {x : Int × Int} (h : m[r]? = some x) (ys : List Int) : resp l (m.take (r + 1)) ys = (resp l (m.take r) ys && decide (ys.getD (pos l x.2) 0 ≤ ys.getD (pos l x.1) 0)) := by
  unfold resp
  rw [List.take_add_one, h, List.all_append]
  simp
theorem resp_bad {l m : List (Int × Int)} {x : Int × Int} (h : x ∈ m) {ys : List Int} (hb : ys.getD (pos l x.1) 0 < ys.getD (pos l x.2) 0) : resp l m ys = false := by
  unfold resp
  rw [Bool.eq_false_iff, ne_eq, List.all_eq_true]
  intro hh
  have := of_decide_eq_true (hh x h)
  omega
set_option maxRecDepth 100000 in
set_option maxHeartbeats 8000000 in
theorem respects_any (a1 a2 : Option Addr) (n1 c1 n2 c2 : Nat) (l m : List (Int × Int)) (p : Option Addr) (k c : Nat) (ys : List Int) (w : World) (s1 : n1 ≤ 1048576) (s2 : n2 ≤ 1048576) (h1 : Holds w a1 n1 l) (h2 : Holds w a2 n2 m) (hy : HoldsI w p k ys) (hg : good l m = true) (hk : k = n1) :
    Calls Try.prog 106 #[.agg #[.slice a1 n1 c1, .slice a2 n2 c2], .slice p k c] w fun e w' => e = .returned (.bool (resp l m ys)) ∧ Below w.heap.size w w' := by
  have hb := below_alloc w (.cells #[.slice a1 n1 c1, .slice a2 n2 c2] 34)
  have f1 := box_first w (.slice a1 n1 c1) (.slice a2 n2 c2) 34
  have f2 := box_second w (.slice a1 n1 c1) (.slice a2 n2 c2) 34
  have hlt : w.heap.size < (w.alloc (.cells #[.slice a1 n1 c1, .slice a2 n2 c2] 34)).heap.size := by simp
  have H1 := Lib.hid (h1.below hb)
  have H2 := Lib.hid (h2.below hb)
  have HY := Lib.hid (hy.below hb)
  have HB := Lib.hid hb
  have HG := Lib.hid (GoodE.good_is hg)
  have hl1 := Lib.hid h1.1
  have hl2 := Lib.hid h2.1
  clear h1 h2 hy hb hg
  go_enter Try.func106, Try.ntmps106
  go_wp2_with fail
  generalize w.alloc (.cells #[.slice a1 n1 c1, .slice a2 n2 c2] 34) = W at *
  go_loopw [5] (fun s5 wr => ∃ (r : Nat), r ≤ n2 ∧ s5 = .int .i64 r ∧ Hid (resp l (m.take r) ys = true) ∧ Hid (Below w.heap.size w wr ∧ Below W.heap.size W wr)) (fun s5 _ => n2 - (intOf s5).toNat)
  case atStart => exact ⟨0, Nat.zero_le _, rfl, rfl, HB.out, Below.refl _ _⟩
  case round =>
    obtain ⟨r, hr, rfl, HP, HR⟩ := hrel
    have g1 := (HR.out.2.cell (p := ⟨w.heap.size, 0, none⟩) hlt).trans f1
    have g2 := (HR.out.2.cell (p := ⟨w.heap.size, 1, none⟩) hlt).trans f2
    by_cases hrn : r < n2
    · have hrr : (r : Int) < (n2 : Int) := by omega
      have hr0 : (0 : Int) ≤ (r : Int) := by omega
      obtain ⟨b2, o2, x, y, rfl, hm, e4, e5⟩ := (H2.out.below HR.out.2).at r hrn
      obtain ⟨hne, ⟨u1, hu1⟩, v1, hv1⟩ := HG.out.rel (x, y) (List.mem_of_getElem? hm)
      obtain ⟨i, hi⟩ := GoodE.isAt_of_mem hu1
      obtain ⟨j, hj⟩ := GoodE.isAt_of_mem hv1
      have hil := (isAt_nb hi).1
      have hjl := (isAt_nb hj).1
      rw [hl1.out] at hil hjl
      have hfi := find_some hi
      have hfj := find_some hj
      have hpi : pos l x = i := by unfold pos; rw [hfi]; simp
      have hpj : pos l y = j := by unfold pos; rw [hfj]; simp
      have HN := Lib.hid (resp_next (l := l) hm ys)
      have HBAD := Lib.hid (fun h => resp_bad (l := l) (List.mem_of_getElem? hm) (ys := ys) h)
      simp only [hpi, hpj] at HN HBAD
      have hba := below_alloc wr (.cells #[.int .i64 x, .int .i64 y] 125)
      have t0 := box_first wr (.int .i64 x) (.int .i64 y) 125
      have t1 := box_second wr (.int .i64 x) (.int .i64 y) 125
      have q1 := (hba.cell (p := ⟨w.heap.size, 0, none⟩) (World.block_lt_of_cell? wr _ g1)).trans g1
      have q2 := (hba.cell (p := ⟨w.heap.size, 1, none⟩) (World.block_lt_of_cell? wr _ g2)).trans g2
      have HR3 := Lib.hid (And.intro (HR.out.1.trans (hba.mono HR.out.1.size)) (HR.out.2.trans (hba.mono HR.out.2.size)))
      obtain ⟨by_, oy, u, rfl, hu, e1⟩ := (HY.out.below HR3.out.2).at i (by omega)
      obtain ⟨by', oy', v, hbb, hv, e2⟩ := (HY.out.below HR3.out.2).at j (by omega)
      injection hbb with hbb
      injection hbb with hbb hoo
      subst hbb hoo
      have gu : ys.getD i 0 = u := by rw [List.getD_eq_getElem?_getD, hu]; rfl
      have gv : ys.getD j 0 = v := by rw [List.getD_eq_getElem?_getD, hv]; rfl
      simp only [gu, gv] at HN HBAD
      have hik : i < k := by omega
      have hjk : j < k := by omega
      clear hm hne hu1 hv1 hu hv gu gv hi hj hba hpi hpj u1 v1
      go_wp2_with fail
      generalize wr.alloc (.cells #[.int .i64 x, .int .i64 y] 125) = V at *
      have cX : ∀ d os, Calls Try.prog 66 #[.agg #[.slice a1 n1 c1, .slice (some ⟨b2, o2, none⟩) n2 c2], .int .i64 x] (Sort.grow (redrawn V d) os) fun e w'' => e = .returned (.int .i64 (i : Int)) ∧ ∃ p : Regrown, w'' = Sort.grow (redrawn V p.d) p.os := fun d os => by
        have := Calls.regrown_of (l2Find_any a1 (some ⟨b2, o2, none⟩) n1 c1 n2 c2 l x _ (by omega) ((H1.out.below HR3.out.2).below (below_regrown V d os)))
        rwa [hfi] at this
      have cY : ∀ d os, Calls Try.prog 66 #[.agg #[.slice a1 n1 c1, .slice (some ⟨b2, o2, none⟩) n2 c2], .int .i64 y] (Sort.grow (redrawn V d) os) fun e w'' => e = .returned (.int .i64 (j : Int)) ∧ ∃ p : Regrown, w'' = Sort.grow (redrawn V p.d) p.os := fun d os => by
        have := Calls.regrown_of (l2Find_any a1 (some ⟨b2, o2, none⟩) n1 c1 n2 c2 l y _ (by omega) ((H1.out.below HR3.out.2).below (below_regrown V d os)))
        rwa [hfj] at this
      have k1 := cell_regrown q1
      have k2 := cell_regrown q2
      have k3 := cell_regrown t0
      have k4 := cell_regrown t1
      have k5 := cell_regrown e1
      have k6 := cell_regrown e2
      have hik' : (i : Int) < (k : Int) := by omega
      have hjk' : (j : Int) < (k : Int) := by omega
      have hi0 : (0 : Int) ≤ (i : Int) := by omega
      have hj0 : (0 : Int) ≤ (j : Int) := by omega
      refine wp_region_quiet_below (by kernel_rfl) (by kernel_rfl) ?_
      repeat (go_big_quiet_step ((go_at_call 66; (first | with_reducible exact cX _ _ | with_reducible exact cY _ _))))
      refine wpQuiet_nil ?_
      intro _ hw'
      obtain ⟨⟨dq, osq⟩, hw''⟩ := hw'
      subst hw''
      have HBQ := Lib.hid (below_regrown V dq osq)
      clear k1 k2 k3 k4 k5 k6 cX cY t0 t1 q1 q2 e1 e2 hfi hfj
      generalize Sort.grow (redrawn V dq) osq = W5 at *
      have HR5 := Lib.hid (And.intro (HR3.out.1.trans (HBQ.out.mono HR3.out.1.size)) (HR3.out.2.trans (HBQ.out.mono HR3.out.2.size)))
      by_cases hlt2 : u < v
      · have HF := Lib.hid (HBAD.out hlt2)
        go_wp2_with fail
        go_ret
        exact ⟨by rw [HF.out]; rfl, HR5.out.1⟩
      · have HP2 : Hid (resp l (m.take (r + 1)) ys = true) := by
          unfold Hid
          rw [HN.out, HP.out]
          simp
          omega
        go_wp2_with fail
        go_roundw
        case rel =>
          first | exact ⟨r + 1, by omega, by go_num, HP2, HR5⟩ | exact ⟨r + 1, by omega, by omega, HP2⟩
        case measure => simp [intOf]; omega
    · obtain rfl : r = n2 := by omega
      have ht : m.take r = m := List.take_of_length_le (by rw [hl2.out]; exact Nat.le_refl _)
      have HF := Lib.hid (show resp l m ys = true by have := HP.out; rwa [ht] at this)
      have hrr : ¬ (r : Int) < (r : Int) := by omega
      go_wp2_with fail
      go_ret
      exact ⟨by rw [HF.out]; rfl, HR.out.1⟩
theorem l10At_wide (f : Int) (p : Option Addr) (n c : Nat) (M : List Int) (y : Int) (w : World) (hn : n ≤ 1048576) (hf : -1000000 ≤ f ∧ f ≤ 1000000) (h : HoldsI w p n M) :
    Calls Try.prog 87 #[.agg #[.int .i64 f, .slice p n c], .int .i64 y] w fun e w' => e = .returned (.int .i64 (wat f M y)) ∧ Below w.heap.size w w' := by
  by_cases hy : -1000000000 ≤ y ∧ y ≤ 1000000000
  · exact WaS.l10At_any f p n c M y w hn (by omega) hy h
  have hb := below_alloc w (.cells #[.int .i64 f, .slice p n c] 50)
  have f1 := box_first w (.int .i64 f) (.slice p n c) 50
  have f2 := box_second w (.int .i64 f) (.slice p n c) 50
  have hl := h.1
  have HO := Lib.hid (AtM.wat_out (f := f) (M := M) (y := y) (by rw [hl]; omega))
  clear h hl
  go_enter Try.func87, Try.ntmps87
  go_wp2_with fail
  refine (Good2.l1In_false y f (f + n - 1) (by omega) _).mono ?_
  rintro e w1 ⟨rfl, rfl⟩
  go_wp2_with fail
  go_ret
  exact ⟨by rw [HO.out]; rfl, hb⟩
end Go.Proofs.Ytfbgekhkbbhggaa.WtS

namespace Go.Proofs.Ytfbgekhkbbhggaa.WgtS
open Go Go.RowKit Pairs Rec Keep GivesI Zh Dr DvM ChM ChE Find2 GoodM AtM WtS
set_option linter.unusedVariables false
/-- Beginnings of the product. -/
theorem prd_next {Z : List Zh.Pt} {ys : List Int} {k : Nat} {x : Zh.Pt} {y : Int} (hx : Z[k]? = some x) (hy : ys[k]? = some y) : prd (Z.take (k + 1)) (ys.take (k + 1)) = prd (Z.take k) (ys.take k) * wat x.1 x.2 y := by
  have h1 := (List.getElem?_eq_some_iff.1 hx).1
  have h2 := (List.getElem?_eq_some_iff.1 hy).1
  rw [List.take_add_one, List.take_add_one, hx, hy]
  exact prd_app _ _ _ _ (by rw [List.length_take, List.length_take]; omega)
set_option maxRecDepth 100000 in
set_option maxHeartbeats 8000000 in
theorem weight_any (a1 a2 a3 : Option Addr) (n1 c1 n2 c2 n3 c3 : Nat) (l m : List (Int × Int)) (Z : List Zh.Pt) (p : Option Addr) (k c : Nat) (ys : List Int) (w : World) (h : Arg w a1 n1 a2 n2 a3 n3 l m Z) (hv : Vd l m Z) (hy : HoldsI w p k ys) (hk : k = n3) :
    Calls Try.prog 60 #[.agg #[.slice a1 n1 c1, .slice a2 n2 c2, .slice a3 n3 c3], .slice p k c] w fun e w' => e = .returned (.int .i64 (wt l m Z ys)) ∧ Below w.heap.size w w' := by
  have hb := below_alloc w (.cells #[.slice a1 n1 c1, .slice a2 n2 c2, .slice a3 n3 c3] 37)
  obtain ⟨f1, f2, f3⟩ := box3 w (.slice a1 n1 c1) (.slice a2 n2 c2) (.slice a3 n3 c3) 37
  have hlt : w.heap.size < (w.alloc (.cells #[.slice a1 n1 c1, .slice a2 n2 c2, .slice a3 n3 c3] 37)).heap.size := by simp
  have H := Lib.hid (h.below hb)
  have HY := Lib.hid (hy.below hb)
  have HB := Lib.hid hb
  have HV := Lib.hid hv
  have s1 := h.s1
  have s2 := h.s2
  have s3 := h.s3
  have hl1 := Lib.hid h.h1.1
  have hl3 := Lib.hid h.h3.1
  have hyl := Lib.hid hy.1
  have hk1 : k = n1 := by have := hv.len; have := h.h1.1; have := h.h3.1; omega
  have HK := Lib.hid hk
  have HK1 := Lib.hid hk1
  clear h hy hb hv hk hk1
  obtain ⟨r, hr⟩ : ∃ r, r = wt l m Z ys := ⟨_, rfl⟩
  rw [← hr]
  have HR := Lib.hid hr
  clear hr
  go_enter Try.func60, Try.ntmps60
  go_wp2_with fail
  generalize w.alloc (.cells #[.slice a1 n1 c1, .slice a2 n2 c2, .slice a3 n3 c3] 37) = W at *
  refine (respects_any a1 a2 n1 c1 n2 c2 l m p k c ys W s1 s2 H.out.h1 H.out.h2 HY.out HV.out.good HK1.out).mono ?_
  rintro e w1 ⟨rfl, b1⟩
  have g3 := (b1.cell (p := ⟨w.heap.size, 2, none⟩) hlt).trans f3
  have H1 := Lib.hid (H.out.below b1)
  have HY1 := Lib.hid (HY.out.below b1)
  have HB1 := Lib.hid (HB.out.trans (b1.mono HB.out.size))
  have hlt1 := Nat.lt_of_lt_of_le hlt b1.size
  clear b1 f1 f2 f3 hlt H HY HB
  cases hrs : resp l m ys with
  | false =>
    have HN := Lib.hid (show r = 0 by have := HR.out; unfold wt at this; rw [hrs] at this; simpa using this)
    go_wp2_with fail
    go_ret
    exact ⟨by rw [HN.out]; rfl, HB1.out⟩
  | true =>
    have HN := Lib.hid (show r = prd Z ys by have := HR.out; unfold wt at this; rw [hrs] at this; simpa using this)
    clear hrs
    go_wp2_with fail
    go_loopw [5, 6] (fun s5 s6 wr => ∃ (j : Nat) (P : Int), j ≤ k ∧ s6 = .int .i64 j ∧ s5 = .int .i64 P ∧ Hid (P = prd (Z.take j) (ys.take j)) ∧ Hid (Below w.heap.size w wr ∧ Below w1.heap.size w1 wr)) (fun _ s6 _ => k - (intOf s6).toNat)
    case atStart => exact ⟨0, 1, Nat.zero_le _, rfl, rfl, rfl, HB1.out, Below.refl _ _⟩
    case round =>
      obtain ⟨j, P, hj, rfl, rfl, HP, HW⟩ := hrel
      by_cases hjk : j < k
      · have hji : (j : Int) < (k : Int) := by omega
        have hj0 : (0 : Int) ≤ (j : Int) := by omega
        have hjn : (j : Int) < (n3 : Int) := by have := HK.out; omega
        obtain ⟨b, off, f, M, q, jz, cz, rfl, hx, e1, e2, hM⟩ := (H1.out.h3.below HW.out.2).at j (by have := HK.out; omega)
        obtain ⟨by_, oy, y, rfl, hyy, e3⟩ := (HY1.out.below HW.out.2).at j hjk
        have hsz : jz ≤ 1048576 := by
          have h1 := H1.out.sm _ (List.mem_of_getElem? hx)
          have h2 := hM.1
          simp only at h1
          omega
        have ho := okZ_mem HV.out.each (List.mem_of_getElem? hx)
        have hlo := (okD_iff.1 ho).lo
        have hhi := (okD_iff.1 ho).hi
        have hpos := (okD_iff.1 ho).pos
        have HM := Lib.hid hM
        have HT := Lib.hid (prd_next hx hyy)
        have hbd := prd_bd (ys.take (j + 1)) (okZ_take HV.out.each (j + 1))
        have hle := (part_le HV.out.each (j + 1)).2.2.2
        have hms := HV.out.sums
        have g3' := (HW.out.2.cell (p := ⟨w.heap.size, 2, none⟩) hlt1).trans g3
        rw [HT.out, ← HP.out] at hbd
        have HT2 : Hid (P * wat f M y = prd (Z.take (j + 1)) (ys.take (j + 1))) := by
          unfold Hid
          rw [HT.out, ← HP.out]
        have cA : ∀ d os, Calls Try.prog 87 #[.agg #[.int .i64 f, .slice q jz cz], .int .i64 y] (Sort.grow (redrawn wr d) os) fun e w'' => e = .returned (.int .i64 (wat f M y)) ∧ ∃ p : Regrown, w'' = Sort.grow (redrawn wr p.d) p.os := fun d os => Calls.regrown_of (l10At_wide f q jz cz M y _ hsz (by simp only at hlo hhi hpos; omega) (HM.out.below (below_regrown wr d os)))
        simp only at hbd
        obtain ⟨u, hu⟩ : ∃ u, u = wat f M y := ⟨_, rfl⟩
        rw [← hu] at cA hbd HT2
        have hw : IntKind.i64.wrap (P * u) = P * u := by rw [IntKind.wrap_i64]; omega
        have k1 := cell_regrown g3'
        have k2 := cell_regrown e1
        have k3 := cell_regrown e2
        have k4 := cell_regrown e3
        clear hx hyy hM ho hlo hhi hpos hle hms hu HT
        go_wp2_with fail
        refine wp_region_quiet_below (by kernel_rfl) (by kernel_rfl) ?_
        repeat (go_big_quiet_step ((go_at_call 87; exact cA _ _)))
        refine wpQuiet_nil ?_
        intro _ hw'
        obtain ⟨⟨dq, osq⟩, hw''⟩ := hw'
        subst hw''
        have HBQ := Lib.hid (below_regrown wr dq osq)
        clear k1 k2 k3 k4 cA e1 e2 e3 g3'
        generalize Sort.grow (redrawn wr dq) osq = W5 at *
        have HW5 := Lib.hid (And.intro (HW.out.1.trans (HBQ.out.mono HW.out.1.size)) (HW.out.2.trans (HBQ.out.mono HW.out.2.size)))
        generalize P * u = P' at *
        go_wp2_with fail
        exact ⟨⟨j + 1, P', by omega, by go_num, rfl, HT2, HW5⟩, by simp [intOf]; omega⟩
      · obtain rfl : j = k := by omega
        have hjj : ¬ (j : Int) < (j : Int) := by omega
        have e1 : Z.take j = Z := List.take_of_length_le (by rw [hl3.out, HK.out]; exact Nat.le_refl _)
        have e2 : ys.take j = ys := List.take_of_length_le (by rw [hyl.out]; exact Nat.le_refl _)
        have HF := Lib.hid (show r = P by have := HP.out; rw [e1, e2] at this; rw [HN.out, this])
        go_wp2_with fail
        go_ret
        exact ⟨by rw [HF.out]; rfl, HW.out.1⟩
end Go.Proofs.Ytfbgekhkbbhggaa.WgtS

namespace Go.Proofs.Ytfbgekhkbbhggaa.YnS
open Go Go.RowKit Pairs Rec Keep GivesI Zh Dr DvM ChM ChE
set_option linter.unusedVariables false
/-- The years under way: the first j are not there yet. -/
def Yl (Z : List Zh.Pt) (n j : Nat) : List Int := List.replicate j 0 ++ (dig Z n).drop j
theorem yl_len {Z : List Zh.Pt} {n j : Nat} (h : j ≤ Z.length) : (Yl Z n j).length = Z.length := by
  unfold Yl
  rw [List.length_append, List.length_replicate, List.length_drop, dig_len]
  omega
theorem dig_at : ∀ {Z : List Zh.Pt} {n i : Nat} {x : Zh.Pt}, Z[i]? = some x → (dig Z n)[i]? = some (x.1 + ((n / (cnt (Z.drop (i + 1))).toNat % x.2.length : Nat) : Int))
  | [], _, _, _, h => by simp at h
  | y :: Z, n, 0, x, h => by
    obtain rfl : y = x := by simpa using h
    rfl
  | y :: Z, n, i + 1, x, h => by
    have := dig_at (Z := Z) (n := n) (i := i) (x := x) (by simpa using h)
    show (dig Z n)[i]? = _
    rw [this]
    rfl
theorem yl_set {Z : List Zh.Pt} {n i : Nat} {x : Zh.Pt} (h : Z[i]? = some x) : (Yl Z n (i + 1)).set i (x.1 + ((n / (cnt (Z.drop (i + 1))).toNat % x.2.length : Nat) : Int)) = Yl Z n i := by
  have hi := (List.getElem?_eq_some_iff.1 h).1
  have hd := dig_at (n := n) h
  apply List.ext_getElem?
  intro j
  unfold Yl
  by_cases e : j = i
  · subst e
    rw [List.getElem?_set_self (by rw [List.length_append, List.length_replicate]; omega), List.getElem?_append_right (by rw [List.length_replicate]; exact Nat.le_refl _), List.length_replicate, Nat.sub_self, List.getElem?_drop]
    exact hd.symm
  · rw [List.getElem?_set_ne (Ne.symm e)]
    by_cases hj : j < i
    · rw [List.getElem?_append_left (by rw [List.length_replicate]; omega), List.getElem?_append_left (by rw [List.length_replicate]; omega), List.getElem?_replicate, List.getElem?_replicate, if_pos (by omega), if_pos hj]
    · rw [List.getElem?_append_right (by rw [List.length_replicate]; omega), List.getElem?_append_right (by rw [List.length_replicate]; omega), List.length_replicate, List.length_replicate, List.getElem?_drop, List.getElem?_drop]
      congr 1
      omega
theorem ints_set (L : List Int) (j : Nat) (x : Int) : (ints L).set j (.int .i64 x) = ints (L.set j x) := RdI.ints_set L j x
theorem zeros_is (n : Nat) (Z : List Zh.Pt) (k : Nat) (h : Z.length = k) : (List.replicate k (Value.int .i64 0)) = ints (Yl Z n k) := by
  unfold Yl
  rw [List.drop_of_length_le (by rw [dig_len, h]; exact Nat.le_refl _), List.append_nil]
  unfold ints
  rw [List.map_replicate]
theorem made_zeros (k : Nat) : (madeCells (Value.int .i64 0).cells (k * 1)).toList = List.replicate k (Value.int .i64 0) := by
  rw [Nat.mul_one]
  exact toList_madeCells_one _ _
def YnAns (Z : List Zh.Pt) (n : Nat) (w : World) (e : Ending) (w' : World) : Prop := ∃ g : Nat, e = .returned (.slice (some ⟨g, 0, none⟩) Z.length Z.length) ∧ w'.ownsRow w.heap.size 3 1 (.slice (some ⟨g, 0, none⟩) Z.length Z.length) Z.length (ints (dig Z n)) ∧ Below w.heap.size w w'
set_option maxRecDepth 100000 in
set_option maxHeartbeats 8000000 in
theorem years_any (a1 a2 a3 : Option Addr) (n1 c1 n2 c2 n3 c3 : Nat) (l m : List (Int × Int)) (Z : List Zh.Pt) (n : Nat) (w : World) (h : Arg w a1 n1 a2 n2 a3 n3 l m Z) (hz : okZ Z = true) (hn : n ≤ 1048576) :
    Calls Try.prog 64 #[.agg #[.slice a1 n1 c1, .slice a2 n2 c2, .slice a3 n3 c3], .int .i64 n] w (YnAns Z n w) := by
  obtain ⟨i0, hi, hy0, hy1, hy2⟩ := info_parts IntT.infoI
  have hb := below_alloc w (.cells #[.slice a1 n1 c1, .slice a2 n2 c2, .slice a3 n3 c3] 37)
  obtain ⟨f1, f2, f3⟩ := box3 w (.slice a1 n1 c1) (.slice a2 n2 c2) (.slice a3 n3 c3) 37
  have hlt : w.heap.size < (w.alloc (.cells #[.slice a1 n1 c1, .slice a2 n2 c2, .slice a3 n3 c3] 37)).heap.size := by simp
  have H := Lib.hid (h.below hb)
  have HB := Lib.hid hb
  have s3 := h.s3
  have HL := Lib.hid h.h3.1
  have HZ := Lib.hid hz
  obtain ⟨B, hB⟩ : ∃ B, (w.alloc (.cells #[.slice a1 n1 c1, .slice a2 n2 c2, .slice a3 n3 c3] 37)).heap.size = B := ⟨_, rfl⟩
  have HBB := Lib.hid hB
  have HBW := Lib.hid (show w.heap.size ≤ B by rw [← hB]; simp)
  clear h hb hB hz
  unfold YnAns
  rw [HL.out]
  go_enter Try.func64, Try.ntmps64
  go_wp2_with (at_make; refine wpList_make_full _ rfl _ _ 41 rfl B 3 i0 (.int .i64 0) 1 Try.underlying41 hi hy0 hy1 .i64 .i64 _ _ n3 rfl rfl (by omega) (by omega) (by rw [hy2]; omega) (by unfold maxLen; omega) (by rw [HBB.out]; exact Nat.le_refl _) ?_; intro w1 hown hgrow; have g3 := (World.cell?_of_block (hgrow.block w.heap.size hlt (by intro e; cases e))).trans f3; have HOG := Lib.hid (And.intro hown hgrow); clear hown hgrow)
  have hown := HOG.out.1
  have hgrow := HOG.out.2
  rw [HBB.out] at hown
  have hB1 : w.heap.size + 1 = B := by rw [← HBB.out]; simp
  rw [hB1]
  have hz0 : n3 * 1 = n3 := by omega
  have HO : Hid (w1.ownsRow B 3 1 (.slice (some ⟨B, 0, none⟩) n3 n3) n3 (ints (Yl Z n n3)) ∧ Below w.heap.size w w1 ∧ Below B (w.alloc (.cells #[.slice a1 n1 c1, .slice a2 n2 c2, .slice a3 n3 c3] 37)) w1) := by
    refine ⟨?_, HB.out.grown hgrow HB.out.size (fun k hk => by cases hk), ?_⟩
    · rw [← zeros_is n Z n3 HL.out, ← made_zeros n3]
      exact hown
    · rw [← HBB.out]
      exact (Below.refl _ _).grown hgrow (Nat.le_refl _) (fun k hk => by cases hk)
  clear hown hgrow HOG
  have HB1 := Lib.hid hB1
  clear hB1
  go_loopw [1, 6] (fun s1 s6 wr => ∃ j : Nat, j ≤ n3 ∧ s6 = .int .i64 ((j : Int) - 1) ∧ s1 = .int .i64 (n / (cnt (Z.drop j)).toNat : Nat) ∧ Hid (wr.ownsRow B 3 1 (.slice (some ⟨B, 0, none⟩) n3 n3) n3 (ints (Yl Z n j)) ∧ Below w.heap.size w wr ∧ Below B (w.alloc (.cells #[.slice a1 n1 c1, .slice a2 n2 c2, .slice a3 n3 c3] 37)) wr)) (fun _ s6 _ => (intOf s6 + 1).toNat)
  case atStart =>
    refine ⟨n3, Nat.le_refl _, rfl, ?_, HO⟩
    rw [List.drop_of_length_le (by rw [HL.out]; exact Nat.le_refl _)]
    show Value.int .i64 (n : Int) = .int .i64 ((n / 1 : Nat) : Int)
    rw [Nat.div_one]
  case round =>
    obtain ⟨j, hj, rfl, rfl, HR⟩ := hrel
    clear HO
    have hBA : Below (w.alloc (.cells #[.slice a1 n1 c1, .slice a2 n2 c2, .slice a3 n3 c3] 37)).heap.size (w.alloc (.cells #[.slice a1 n1 c1, .slice a2 n2 c2, .slice a3 n3 c3] 37)) wr := by
      rw [HBB.out]; exact HR.out.2.2
    have q3 := (hBA.cell (p := ⟨w.heap.size, 2, none⟩) hlt).trans f3
    rcases Nat.eq_zero_or_pos j with h0 | hjp
    · subst h0
      have hneg : ¬ (0 : Int) ≤ ((0 : Nat) : Int) - 1 := by omega
      have HE := Lib.hid (show ints (Yl Z n 0) = ints (dig Z n) by unfold Yl; simp)
      clear hBA
      go_wp2_with fail
      go_ret
      exact ⟨B, rfl, by rw [← HE.out]; exact ownsRow_base HR.out.1 HBW.out, HR.out.2.1⟩
    · obtain ⟨i, rfl⟩ : ∃ i, j = i + 1 := ⟨j - 1, by omega⟩
      obtain ⟨b, off, f, M, q, jz, cz, rfl, hx, e1, e2, hM⟩ := (H.out.h3.below hBA).at i (by omega)
      have hod := okZ_mem HZ.out (List.mem_of_getElem? hx)
      have hlo := (okD_iff.1 hod).lo
      have hhi := (okD_iff.1 hod).hi
      have hlen := (okD_iff.1 hod).len
      have hpos := (okD_iff.1 hod).pos
      simp only at hlo hhi hlen hpos
      have hjz : M.length = jz := hM.1
      rw [hjz] at hhi hlen hpos
      have HSET := Lib.hid (yl_set (n := n) hx)
      have HDIV := Lib.hid (show n / (cnt (Z.drop (i + 1))).toNat / jz = n / (cnt (Z.drop i)).toNat by
        have h1 : Z.drop i = (f, M) :: Z.drop (i + 1) := by
          rw [List.drop_eq_getElem_cons (List.getElem?_eq_some_iff.1 hx).1]
          congr 1
          exact (List.getElem?_eq_some_iff.1 hx).2
        rw [h1, cnt_nat _ _ (okZ_drop HZ.out (i + 1)), Nat.div_div_eq_div_mul]
        show n / ((cnt (Z.drop (i + 1))).toNat * jz) = n / (M.length * (cnt (Z.drop (i + 1))).toNat)
        rw [hjz, Nat.mul_comm])
      obtain ⟨N, hN⟩ : ∃ N, N = n / (cnt (Z.drop (i + 1))).toNat := ⟨_, rfl⟩
      have hNn : N ≤ n := by rw [hN]; exact Nat.div_le_self _ _
      rw [← hN] at HDIV HSET
      rw [← hN]
      simp only at HSET
      rw [hjz] at HSET
      have hii : ((i + 1 : Nat) : Int) - 1 = (i : Int) := by omega
      have hi0 : (0 : Int) ≤ (i : Int) := by omega
      have hin : (i : Int) < (n3 : Int) := by omega
      have hk0 : ¬ (jz : Int) = 0 := by omega
      have hmod : 0 ≤ (N : Int) % (jz : Int) ∧ (N : Int) % (jz : Int) < (jz : Int) := ⟨Int.emod_nonneg _ hk0, Int.emod_lt_of_pos _ (by omega)⟩
      have hwr : IntKind.i64.wrap (f + (N : Int) % (jz : Int)) = f + (N : Int) % (jz : Int) := by rw [IntKind.wrap_i64]; omega
      obtain ⟨v0, hv0⟩ : ∃ v0, wr.cell? ⟨B, i, none⟩ = some v0 := by
        have h1 := HR.out.1.1
        refine ⟨(ints (Yl Z n (i + 1)))[i], ?_⟩
        rw [HR.out.1.cellAt i (by omega), List.getElem?_eq_getElem (by omega)]
      have hf0 := HR.out.1.frozenAt i
      rw [hii]
      clear hM hx hod hBA hN hii
      go_wp2_with fail
      have k1 := cell_regrown q3
      have k2 := cell_regrown e1
      refine Qsw.region_at_p 13 (by kernel_rfl) (by kernel_rfl) ?_
      simp only [List.take_succ_cons, List.take_zero, List.drop_succ_cons, List.drop_zero]
      repeat (go_big_quiet_step (fail))
      refine wpQuiet_nil ?_
      intro _ hw'
      obtain ⟨⟨dq, osq⟩, hw''⟩ := hw'
      subst hw''
      have HBQ := Lib.hid (below_regrown wr dq osq)
      have hgx : B < wr.heap.size := World.block_lt_of_cell? wr _ hv0
      clear k1 k2 q3 e1 e2
      replace hv0 := (HBQ.out.cell (p := ⟨B, i, none⟩) hgx).trans hv0
      replace hf0 := (HBQ.out.frozen (p := ⟨B, i, none⟩) hgx).trans hf0
      have HR2 := Lib.hid (And.intro (ownsRow_below HR.out.1 HBQ.out) (And.intro (HR.out.2.1.trans (HBQ.out.mono HR.out.2.1.size)) (HR.out.2.2.trans (HBQ.out.mono (by omega)))))
      generalize Sort.grow (redrawn wr dq) osq = w6 at *
      have HD2 : Hid ((N : Int) / (jz : Int) = ((n / (cnt (Z.drop i)).toNat : Nat) : Int)) := by
        unfold Hid
        rw [← HDIV.out]
        rfl
      have hdv : 0 ≤ (N : Int) / (jz : Int) ∧ (N : Int) / (jz : Int) ≤ (N : Int) := ⟨Int.ediv_nonneg (by omega) (by omega), Int.ediv_le_self _ (by omega)⟩
      have hwd : IntKind.i64.wrap ((N : Int) / (jz : Int)) = (N : Int) / (jz : Int) := by rw [IntKind.wrap_i64]; omega
      clear hdv
      go_wp2_with fail
      refine ⟨⟨i, by omega, rfl, by rw [HD2.out], ?_, ?_, ?_⟩, by simp [intOf]⟩
      · have h1 := (HR2.out.1.stored i (.int .i64 (f + (N : Int) % (jz : Int)))).1
        rw [ints_set] at h1
        have h2 := HSET.out
        rw [show ((N % jz : Nat) : Int) = (N : Int) % (jz : Int) from rfl] at h2
        rw [h2] at h1
        exact h1
      · exact HR2.out.2.1.setCell (p := ⟨B, i, none⟩) HBW.out _
      · exact HR2.out.2.2.setCell (p := ⟨B, i, none⟩) (Nat.le_refl _) _
end Go.Proofs.Ytfbgekhkbbhggaa.YnS

namespace Go.Proofs.Ytfbgekhkbbhggaa.MnS
open Go Go.RowKit Pairs Rec Keep GivesI Zh Dr DvM ChM ChE
set_option linter.unusedVariables false
set_option maxRecDepth 100000 in
set_option maxHeartbeats 8000000 in
theorem many_any (a1 a2 a3 : Option Addr) (n1 c1 n2 c2 n3 c3 : Nat) (l m : List (Int × Int)) (Z : List Zh.Pt) (w : World) (h : Arg w a1 n1 a2 n2 a3 n3 l m Z) (hv : Vd l m Z) :
    Calls Try.prog 63 #[.agg #[.slice a1 n1 c1, .slice a2 n2 c2, .slice a3 n3 c3]] w fun e w' => e = .returned (.int .i64 (cnt Z)) ∧ Below w.heap.size w w' := by
  have hb := below_alloc w (.cells #[.slice a1 n1 c1, .slice a2 n2 c2, .slice a3 n3 c3] 37)
  obtain ⟨f1, f2, f3⟩ := box3 w (.slice a1 n1 c1) (.slice a2 n2 c2) (.slice a3 n3 c3) 37
  have H := Lib.hid (h.below hb)
  have HB := Lib.hid hb
  have HL := Lib.hid h.h3.1
  have HV := Lib.hid hv
  have s3 := h.s3
  clear h hb hv
  go_enter Try.func63, Try.ntmps63
  go_wp2_with fail
  generalize w.alloc (.cells #[.slice a1 n1 c1, .slice a2 n2 c2, .slice a3 n3 c3] 37) = W at *
  go_loopw [3, 4] (fun s3 s4 wr => ∃ (j : Nat) (C : Int), j ≤ n3 ∧ s4 = .int .i64 j ∧ s3 = .int .i64 C ∧ Hid (C = cnt (Z.take j)) ∧ wr = W) (fun _ s4 _ => n3 - (intOf s4).toNat)
  case atStart => exact ⟨0, 1, Nat.zero_le _, rfl, rfl, rfl, rfl⟩
  case round =>
    obtain ⟨j, C, hj, rfl, rfl, HC, rfl⟩ := hrel
    by_cases hjn : j < n3
    · obtain ⟨b, off, f, M, q, jz, cz, rfl, hx, e1, e2, hM⟩ := H.out.h3.at j hjn
      have hlen := (okD_iff.1 (okZ_mem HV.out.each (List.mem_of_getElem? hx))).len
      simp only at hlen
      have hjz : M.length = jz := hM.1
      rw [hjz] at hlen
      have hle := part_le HV.out.each (j + 1)
      have hle0 := part_le HV.out.each j
      have hmany := HV.out.many
      have HT : Hid (C * (jz : Int) = cnt (Z.take (j + 1))) := by
        unfold Hid
        rw [(take_next hx).1, ← HC.out]
        show C * (jz : Int) = C * (M.length : Int)
        rw [hjz]
      rw [← HC.out] at hle0
      rw [← HT.out] at hle
      have hwr : IntKind.i64.wrap (C * (jz : Int)) = C * (jz : Int) := by rw [IntKind.wrap_i64]; omega
      have hji : (j : Int) < (n3 : Int) := by omega
      have hj0 : (0 : Int) ≤ (j : Int) := by omega
      clear hx hM hjz hle hle0 hmany
      go_wp2_with fail
      exact ⟨⟨j + 1, C * (jz : Int), by omega, by go_num, rfl, HT, trivial⟩, by simp [intOf]; omega⟩
    · obtain rfl : j = n3 := by omega
      have hjj : ¬ (j : Int) < (j : Int) := by omega
      have HE := Lib.hid (show C = cnt Z by rw [HC.out, List.take_of_length_le (by rw [HL.out]; exact Nat.le_refl _)])
      go_wp2_with fail
      go_ret
      exact ⟨by rw [← HE.out]; rfl, HB.out⟩
end Go.Proofs.Ytfbgekhkbbhggaa.MnS

namespace Go.Proofs.Ytfbgekhkbbhggaa.CnM
open DvM ChM ChE GoodM
set_option linter.unusedVariables false
/-- The sum of the weights. -/
def sw (L : List (List Int × Int)) : Int := (L.map (·.2)).sum
theorem sw_app (L : List (List Int × Int)) (x : List Int × Int) : sw (L ++ [x]) = sw L + x.2 := by
  unfold sw
  rw [List.map_append, List.sum_append]
  simp
theorem sw_next {L : List (List Int × Int)} {n : Nat} {x : List Int × Int} (h : L[n]? = some x) : sw (L.take (n + 1)) = sw (L.take n) + x.2 := by
  rw [List.take_add_one, h]
  exact sw_app _ _
theorem sw_bd {m : Int} (hm : 0 ≤ m) : ∀ L : List (List Int × Int), (∀ x ∈ L, 0 ≤ x.2 ∧ x.2 ≤ m) → 0 ≤ sw L ∧ sw L ≤ m * L.length
  | [], _ => by simp [sw]
  | x :: L, h => by
    have ih := sw_bd hm L (fun y hy => h y (List.mem_cons_of_mem _ hy))
    have h1 := h x List.mem_cons_self
    have e : sw (x :: L) = x.2 + sw L := rfl
    rw [e, List.length_cons, show ((L.length + 1 : Nat) : Int) = (L.length : Int) + 1 from rfl, Int.mul_add, Int.mul_one]
    omega
/-- Those with a weight. -/
def ps (L : List (List Int × Int)) : List (List Int × Int) := L.filter fun x => decide (0 < x.2)
theorem ps_next {L : List (List Int × Int)} {n : Nat} {x : List Int × Int} (h : L[n]? = some x) : ps (L.take (n + 1)) = ps (L.take n) ++ (if 0 < x.2 then [x] else []) := by
  unfold ps
  rw [List.take_add_one, h, List.filter_append]
  congr 1
  show [x].filter _ = _
  rw [List.filter_cons]
  simp
theorem sw_ps : ∀ L : List (List Int × Int), (∀ x ∈ L, 0 ≤ x.2) → sw (ps L) = sw L
  | [], _ => rfl
  | x :: L, h => by
    have ih := sw_ps L (fun y hy => h y (List.mem_cons_of_mem _ hy))
    have h1 := h x List.mem_cons_self
    unfold ps
    rw [List.filter_cons]
    have e : sw (x :: L) = x.2 + sw L := rfl
    by_cases h2 : 0 < x.2
    · rw [if_pos (by simpa using h2)]
      show x.2 + sw (ps L) = _
      rw [ih, e]
    · rw [if_neg (by simpa using h2)]
      show sw (ps L) = _
      rw [ih, e]
      omega
theorem al_bd {l m : List (Int × Int)} {Z : List Pt} (h : Vd l m Z) : ∀ x ∈ al l m Z, 0 ≤ x.2 ∧ x.2 ≤ sms Z := by
  intro x hx
  unfold al at hx
  obtain ⟨t, _, rfl⟩ := List.mem_map.1 hx
  exact wt_bd t h.each
theorem al_many {l m : List (Int × Int)} {Z : List Pt} (h : Vd l m Z) : (al l m Z).length ≤ 5000 := by
  rw [al_len h.each]
  have := h.many
  omega
theorem sw_le : ∀ {L : List (List Int × Int)} (n : Nat), (∀ x ∈ L, 0 ≤ x.2) → 0 ≤ sw (L.take n) ∧ sw (L.take n) ≤ sw L
  | [], n, _ => by simp [sw]
  | x :: L, 0, h => by
    have e : sw (x :: L) = x.2 + sw L := rfl
    have h1 := h x List.mem_cons_self
    have ih := sw_le (L := L) 0 (fun y hy => h y (List.mem_cons_of_mem _ hy))
    rw [List.take_zero] at *
    have e0 : sw ([] : List (List Int × Int)) = 0 := rfl
    rw [e0] at *
    rw [e]
    omega
  | x :: L, n + 1, h => by
    have e : sw (x :: L) = x.2 + sw L := rfl
    have h1 := h x List.mem_cons_self
    have ih := sw_le (L := L) n (fun y hy => h y (List.mem_cons_of_mem _ hy))
    rw [List.take_succ_cons, e]
    have e2 : sw (x :: L.take n) = x.2 + sw (L.take n) := rfl
    rw [e2]
    omega
/-- The sum of all weights is within the product of the sums. -/
theorem prods_sum (l m : List (Int × Int)) : ∀ Z : List Pt, okZ Z = true → ((prods Z).map (prd Z)).sum = sms Z
  | [], _ => by simp [prods, prd, sms]
  | x :: Z, h => by
    obtain ⟨h1, h2⟩ := okZ_cons.1 h
    have ih := prods_sum l m Z h2
    unfold prods
    rw [map_flat]
    have e : ∀ ys : List Int, ((ys.flatMap fun y => ((prods Z).map (y :: ·)).map (prd (x :: Z)))).sum = (ys.map (AtM.wat x.1 x.2)).sum * sms Z := by
      intro ys
      induction ys with
      | nil => simp
      | cons y ys ihy =>
        rw [List.flatMap_cons, List.sum_append, ihy, List.map_cons, List.sum_cons, Int.add_mul, List.map_map]
        congr 1
        have e2 : ∀ ts : List (List Int), (ts.map (prd (x :: Z) ∘ fun t => y :: t)).sum = AtM.wat x.1 x.2 y * (ts.map (prd Z)).sum := by
          intro ts
          induction ts with
          | nil => simp
          | cons t ts iht =>
            rw [List.map_cons, List.sum_cons, iht, List.map_cons, List.sum_cons, Int.mul_add]
            rfl
        rw [e2, ih]
    rw [e, AtM.map_wat]
    rfl
theorem wt_le {l m : List (Int × Int)} {Z : List Pt} (h : okZ Z = true) (t : List Int) : wt l m Z t ≤ prd Z t := by
  unfold wt
  split
  · exact Int.le_refl _
  · exact (prd_bd t h).1
theorem sum_le {f g : List Int → Int} (h : ∀ t, f t ≤ g t) : ∀ L : List (List Int), (L.map f).sum ≤ (L.map g).sum
  | [] => by simp
  | t :: L => by
    rw [List.map_cons, List.map_cons, List.sum_cons, List.sum_cons]
    have := h t
    have := sum_le h L
    omega
theorem sw_al {l m : List (Int × Int)} {Z : List Pt} (h : Vd l m Z) : sw (al l m Z) ≤ 1000000000000000 := by
  have h1 := h.sums
  rw [← prods_sum l m Z h.each] at h1
  have h2 := sum_le (f := wt l m Z) (g := prd Z) (wt_le h.each) (prods Z)
  unfold sw al
  rw [List.map_map]
  have e : ((fun x : List Int × Int => x.2) ∘ fun t => (t, wt l m Z t)) = wt l m Z := rfl
  rw [e]
  omega
/-- What CountDatings answers. -/
def cnP (l m : List (Int × Int)) (Z : List Pt) : Int × Int × Bool := if vd l m Z = true then (((dts l m Z).length : Int), sw (dts l m Z), true) else (0, 0, false)
theorem cnP_no {l m : List (Int × Int)} {Z : List Pt} (h : vd l m Z = false) : cnP l m Z = (0, 0, false) := by
  unfold cnP
  rw [h]
  rfl
theorem cnP_yes {l m : List (Int × Int)} {Z : List Pt} (h : vd l m Z = true) : cnP l m Z = (((dts l m Z).length : Int), sw (dts l m Z), true) := by
  unfold cnP
  rw [if_pos h]
end Go.Proofs.Ytfbgekhkbbhggaa.CnM

namespace Go.Proofs.Ytfbgekhkbbhggaa.CeM
open DvM ChM ChE GoodM GoodE Find2 CnM
set_option linter.unusedVariables false
/-- What a dating adds. -/
def ef (i k : Nat) (x : List Int × Int) : Int := if x.1.getD i 0 < x.1.getD k 0 then x.2 else 0
def es (i k : Nat) (L : List (List Int × Int)) : Int := (L.map (ef i k)).sum
theorem es_next {i k : Nat} {L : List (List Int × Int)} {n : Nat} {x : List Int × Int} (h : L[n]? = some x) : es i k (L.take (n + 1)) = es i k (L.take n) + ef i k x := by
  unfold es
  rw [List.take_add_one, h, List.map_append, List.sum_append]
  simp
theorem ef_bd {i k : Nat} {x : List Int × Int} (h : 0 ≤ x.2) : 0 ≤ ef i k x ∧ ef i k x ≤ x.2 := by
  unfold ef
  split <;> omega
theorem es_bd {i k : Nat} : ∀ {L : List (List Int × Int)}, (∀ x ∈ L, 0 ≤ x.2) → 0 ≤ es i k L ∧ es i k L ≤ sw L
  | [], _ => by simp [es, sw]
  | x :: L, h => by
    have e1 : es i k (x :: L) = ef i k x + es i k L := rfl
    have e2 : sw (x :: L) = x.2 + sw L := rfl
    have h1 := ef_bd (i := i) (k := k) (h x List.mem_cons_self)
    have ih := es_bd (i := i) (k := k) (L := L) (fun y hy => h y (List.mem_cons_of_mem _ hy))
    rw [e1, e2]
    omega
theorem es_ps {i k : Nat} : ∀ L : List (List Int × Int), (∀ x ∈ L, 0 ≤ x.2) → es i k (ps L) = es i k L
  | [], _ => rfl
  | x :: L, h => by
    have ih := es_ps (i := i) (k := k) L (fun y hy => h y (List.mem_cons_of_mem _ hy))
    have h1 := ef_bd (i := i) (k := k) (h x List.mem_cons_self)
    have e1 : es i k (x :: L) = ef i k x + es i k L := rfl
    unfold ps
    rw [List.filter_cons]
    by_cases h2 : 0 < x.2
    · rw [if_pos (by simpa using h2)]
      show ef i k x + es i k (ps L) = _
      rw [ih, e1]
    · rw [if_neg (by simpa using h2)]
      show es i k (ps L) = _
      rw [ih, e1]
      omega
/-- What ChanceOfOrder answers. -/
def ceP (l m : List (Int × Int)) (Z : List Pt) (a b : Int) : Int × Int × Bool :=
  if vd l m Z = true ∧ (isAt l a).isSome = true ∧ (isAt l b).isSome = true then (es (pos l a) (pos l b) (dts l m Z), sw (dts l m Z), true) else (0, 0, false)
theorem ceP_no {l m : List (Int × Int)} {Z : List Pt} {a b : Int} (h : vd l m Z = true → (isAt l a).isSome = true → (isAt l b).isSome = true → False) : ceP l m Z a b = (0, 0, false) := by
  unfold ceP
  rw [if_neg fun e => h e.1 e.2.1 e.2.2]
theorem ceP_yes {l m : List (Int × Int)} {Z : List Pt} {a b : Int} (h1 : vd l m Z = true) (h2 : (isAt l a).isSome = true) (h3 : (isAt l b).isSome = true) : ceP l m Z a b = (es (pos l a) (pos l b) (dts l m Z), sw (dts l m Z), true) := by
  unfold ceP
  rw [if_pos ⟨h1, h2, h3⟩]
theorem pos_is {l : List (Int × Int)} {n : Int} {i : Nat} (h : isAt l n = some i) : pos l n = i := by
  unfold pos
  rw [find_some h]
  simp
/-- The program's place is the model's. -/
theorem pl_is {l : List (Int × Int)} (hA : Asc l) {n : Int} {i : Nat} (h : isAt l n = some i) : pl l n = i := by
  obtain ⟨hi, hn⟩ := isAt_nb h
  have hx := List.getElem?_eq_getElem hi
  rw [nb_of hx] at hn
  refine pl_eq (by omega) (fun j x hj hjx => ?_) (fun x hx2 => ?_)
  · obtain ⟨d, rfl⟩ : ∃ d, i = j + d + 1 := ⟨i - j - 1, by omega⟩
    have := hA.lt d j x _ hjx hx
    omega
  · rw [hx] at hx2
    injection hx2 with hx2
    rw [← hx2]
    omega
theorem dts_len {l m : List (Int × Int)} {Z : List Pt} (h : Vd l m Z) : ∀ x ∈ dts l m Z, x.1.length = Z.length := by
  intro x hx
  rw [dts_is h] at hx
  have h1 := (List.mem_filter.1 hx).1
  unfold al at h1
  obtain ⟨t, ht, rfl⟩ := List.mem_map.1 h1
  exact prods_len ht
theorem asc_of {l m : List (Int × Int)} (h : good l m = true) : Asc l := by
  have hg := good_is h
  intro i x y hx hy
  have hi := (List.getElem?_eq_some_iff.1 hx)
  have hj := (List.getElem?_eq_some_iff.1 hy)
  have := List.pairwise_iff_getElem.1 hg.asc i (i + 1) hi.1 hj.1 (by omega)
  rw [hi.2, hj.2] at this
  exact this
end Go.Proofs.Ytfbgekhkbbhggaa.CeM

namespace Go.Proofs.Ytfbgekhkbbhggaa.MgM
open DvM ChM ChE CnM CeM Find2 RdM
set_option linter.unusedVariables false
/-- The place of a dating's year in the row of weights. -/
def ix (i : Nat) (f : Int) (x : List Int × Int) : Nat := (x.1.getD i 0 - f).toNat
def ms (i : Nat) (f : Int) (W : List Int) (x : List Int × Int) : List Int := W.set (ix i f x) (W.getD (ix i f x) 0 + x.2)
/-- The weights of the years of context i. -/
def mg (i : Nat) (f : Int) (n : Nat) (L : List (List Int × Int)) : List Int := L.foldl (ms i f) (List.replicate n 0)
theorem mg_next {i : Nat} {f : Int} {n : Nat} {L : List (List Int × Int)} {j : Nat} {x : List Int × Int} (h : L[j]? = some x) : mg i f n (L.take (j + 1)) = ms i f (mg i f n (L.take j)) x := by
  unfold mg
  rw [List.take_add_one, h, List.foldl_append]
  rfl
theorem ms_len (i : Nat) (f : Int) (W : List Int) (x : List Int × Int) : (ms i f W x).length = W.length := by unfold ms; simp
theorem fold_len (i : Nat) (f : Int) : ∀ (L : List (List Int × Int)) (W : List Int), (L.foldl (ms i f) W).length = W.length
  | [], _ => rfl
  | x :: L, W => by rw [List.foldl_cons, fold_len i f L, ms_len]
theorem mg_len (i : Nat) (f : Int) (n : Nat) (L : List (List Int × Int)) : (mg i f n L).length = n := by
  unfold mg
  rw [fold_len, List.length_replicate]
theorem set_same (W : List Int) (k : Nat) : W.set k (W.getD k 0 + 0) = W := by
  apply List.ext_getElem?
  intro j
  by_cases e : k = j
  · subst e
    by_cases hk : k < W.length
    · rw [List.getElem?_set_self hk, List.getD_eq_getElem?_getD, List.getElem?_eq_getElem hk]
      simp
    · rw [List.getElem?_eq_none (by simpa using hk), List.getElem?_eq_none (by omega)]
  · rw [List.getElem?_set_ne e]
theorem fold_ps (i : Nat) (f : Int) : ∀ (L : List (List Int × Int)) (W : List Int), (∀ x ∈ L, 0 ≤ x.2) → (ps L).foldl (ms i f) W = L.foldl (ms i f) W
  | [], _, _ => rfl
  | x :: L, W, h => by
    have h1 := h x List.mem_cons_self
    have ih := fun W => fold_ps i f L W (fun y hy => h y (List.mem_cons_of_mem _ hy))
    unfold ps
    rw [List.filter_cons]
    by_cases h2 : 0 < x.2
    · rw [if_pos (by simpa using h2)]
      exact ih (ms i f W x)
    · rw [if_neg (by simpa using h2)]
      have e : ms i f W x = W := by
        unfold ms
        rw [show x.2 = 0 by omega]
        exact set_same W _
      show (ps L).foldl (ms i f) W = L.foldl (ms i f) (ms i f W x)
      rw [e]
      exact ih W
theorem mg_ps {i : Nat} {f : Int} {n : Nat} {L : List (List Int × Int)} (h : ∀ x ∈ L, 0 ≤ x.2) : mg i f n (ps L) = mg i f n L := fold_ps i f L _ h
theorem fold_bd (i : Nat) (f : Int) : ∀ (L : List (List Int × Int)) (W : List Int) (b : Int), 0 ≤ b → (∀ x ∈ L, 0 ≤ x.2) → (∀ v ∈ W, 0 ≤ v ∧ v ≤ b) → ∀ v ∈ L.foldl (ms i f) W, 0 ≤ v ∧ v ≤ b + sw L
  | [], W, b, _, _, hW => by
    intro v hv
    have h1 := hW v hv
    have e : sw ([] : List (List Int × Int)) = 0 := rfl
    rw [e]
    omega
  | x :: L, W, b, hb, h, hW => by
    have h1 := h x List.mem_cons_self
    have e : sw (x :: L) = x.2 + sw L := rfl
    rw [List.foldl_cons, e, ← Int.add_assoc]
    refine fold_bd i f L (ms i f W x) (b + x.2) (by omega) (fun y hy => h y (List.mem_cons_of_mem _ hy)) (fun v hv => ?_)
    unfold ms at hv
    rcases List.mem_or_eq_of_mem_set hv with h2 | h2
    · have := hW v h2
      omega
    · have h3 : 0 ≤ W.getD (ix i f x) 0 ∧ W.getD (ix i f x) 0 ≤ b := by
        rw [List.getD_eq_getElem?_getD]
        cases hh : W[ix i f x]? with
        | none => exact ⟨Int.le_refl _, hb⟩
        | some y => exact hW y (List.mem_of_getElem? hh)
      omega
theorem mg_bd {i : Nat} {f : Int} {n : Nat} {L : List (List Int × Int)} (h : ∀ x ∈ L, 0 ≤ x.2) : ∀ v ∈ mg i f n L, 0 ≤ v ∧ v ≤ sw L := by
  intro v hv
  have := fold_bd i f L (List.replicate n 0) 0 (Int.le_refl _) h (fun v hv => by rw [List.eq_of_mem_replicate hv]; omega) v hv
  omega
/-- The years of a dating lie in the distributions. -/
theorem al_year {l m : List (Int × Int)} {Z : List Pt} (h : okZ Z = true) {x : List Int × Int} (hx : x ∈ al l m Z) {i : Nat} {p : Pt} (hp : Z[i]? = some p) : ∃ y, x.1[i]? = some y ∧ p.1 ≤ y ∧ y ≤ p.1 + p.2.length - 1 := by
  unfold al at hx
  obtain ⟨t, ht, rfl⟩ := List.mem_map.1 hx
  rw [prods_is h] at ht
  obtain ⟨n, _, rfl⟩ := List.mem_map.1 ht
  have hd := YnS.dig_at (n := n) hp
  have hpos := (okD_iff.1 (okZ_mem h (List.mem_of_getElem? hp))).pos
  have hm := Nat.mod_lt (n / (cnt (Z.drop (i + 1))).toNat) hpos
  exact ⟨_, hd, by omega, by omega⟩
theorem dts_al {l m : List (Int × Int)} {Z : List Pt} (h : Vd l m Z) {x : List Int × Int} (hx : x ∈ dts l m Z) : x ∈ al l m Z := by
  rw [dts_is h] at hx
  exact (List.mem_filter.1 hx).1
/-- What MarginalDate answers. -/
def mdP (l m : List (Int × Int)) (Z : List Pt) (t : Int) : Option (Int × List Int) :=
  match isAt l t with
  | some i => if vd l m Z = true then red (Z.getD i (0, [])).1 (mg i (Z.getD i (0, [])).1 (Z.getD i (0, [])).2.length (dts l m Z)) else none
  | none => none
theorem mdP_no {l m : List (Int × Int)} {Z : List Pt} {t : Int} (h : vd l m Z = true → (isAt l t).isSome = true → False) : mdP l m Z t = none := by
  unfold mdP
  cases hi : isAt l t with
  | none => rfl
  | some i => exact if_neg fun e => h e (by rw [hi]; rfl)
theorem mdP_yes {l m : List (Int × Int)} {Z : List Pt} {t : Int} {i : Nat} {f : Int} {M : List Int} (h : vd l m Z = true) (hi : isAt l t = some i) (hz : Z[i]? = some (f, M)) : mdP l m Z t = red f (mg i f M.length (dts l m Z)) := by
  unfold mdP
  rw [hi]
  have e : Z.getD i (0, []) = (f, M) := by rw [List.getD_eq_getElem?_getD, hz]; rfl
  show (if vd l m Z = true then _ else none) = _
  rw [if_pos h, e]
end Go.Proofs.Ytfbgekhkbbhggaa.MgM

namespace Go.Proofs.Ytfbgekhkbbhggaa.PlI
open Go Go.RowKit Pairs Rec Keep GivesI Zh Dr DvM ChM ChE GoodM Find2 CeM
set_option linter.unusedVariables false
def plV (l m : List (Int × Int)) (Z : List Zh.Pt) (t : Int) : Nat := if vd l m Z = true then pl l t else 0
def plB (l m : List (Int × Int)) (Z : List Zh.Pt) (t : Int) : Bool := vd l m Z && (isAt l t).isSome
set_option maxRecDepth 100000 in
set_option maxHeartbeats 4000000 in
theorem placeOf_any (a1 a2 a3 : Option Addr) (n1 c1 n2 c2 n3 c3 : Nat) (l m : List (Int × Int)) (Z : List Zh.Pt) (t : Int) (w : World) (h : Arg w a1 n1 a2 n2 a3 n3 l m Z) :
    Calls Try.prog 68 #[.agg #[.slice a1 n1 c1, .slice a2 n2 c2, .slice a3 n3 c3], .int .i64 t] w fun e w' => e = .returned (.tuple #[.int .i64 (plV l m Z t : Nat), .bool (plB l m Z t)]) ∧ Below w.heap.size w w' := by
  have hb := below_alloc w (.cells #[.slice a1 n1 c1, .slice a2 n2 c2, .slice a3 n3 c3] 37)
  obtain ⟨f1, f2, f3⟩ := box3 w (.slice a1 n1 c1) (.slice a2 n2 c2) (.slice a3 n3 c3) 37
  have hlt : w.heap.size < (w.alloc (.cells #[.slice a1 n1 c1, .slice a2 n2 c2, .slice a3 n3 c3] 37)).heap.size := by simp
  have H := Lib.hid (h.below hb)
  have HB := Lib.hid hb
  clear h hb
  go_enter Try.func68, Try.ntmps68
  go_wp2_with fail
  generalize w.alloc (.cells #[.slice a1 n1 c1, .slice a2 n2 c2, .slice a3 n3 c3] 37) = W at *
  refine (VdI.valid_any a1 a2 a3 n1 c1 n2 c2 n3 c3 l m Z W H.out).mono ?_
  rintro e w1 ⟨rfl, b1⟩
  have g1 := (b1.cell (p := ⟨w.heap.size, 0, none⟩) hlt).trans f1
  have g2 := (b1.cell (p := ⟨w.heap.size, 1, none⟩) hlt).trans f2
  have H1 := Lib.hid (H.out.below b1)
  have HB1 := Lib.hid (HB.out.trans (b1.mono HB.out.size))
  clear b1 f1 f2 f3 hlt H HB
  cases hg : vd l m Z with
  | false =>
    have HE := Lib.hid (show plV l m Z t = 0 ∧ plB l m Z t = false by unfold plV plB; rw [hg]; exact ⟨rfl, rfl⟩)
    clear hg
    go_wp2_with fail
    go_ret2
    exact ⟨by rw [HE.out.1, HE.out.2]; rfl, HB1.out⟩
  | true =>
    have HE := Lib.hid (show plV l m Z t = pl l t ∧ plB l m Z t = (isAt l t).isSome by unfold plV plB; rw [hg]; exact ⟨rfl, rfl⟩)
    have HV := Lib.hid (vd_iff.1 hg)
    clear hg
    go_wp2_with fail
    refine (Avr.placeOfContext_any a1 a2 n1 c1 n2 c2 l t w1 H1.out.s1 H1.out.h1 (asc_of HV.out.good)).mono ?_
    rintro e w2 ⟨rfl, b2⟩
    have HB2 := Lib.hid (HB1.out.trans (b2.mono HB1.out.size))
    clear b2
    go_wp2_with fail
    go_ret2
    exact ⟨by rw [HE.out.1, HE.out.2]; rfl, HB2.out⟩
end Go.Proofs.Ytfbgekhkbbhggaa.PlI

namespace Go.Proofs.Ytfbgekhkbbhggaa.CnI
open Go Go.RowKit Pairs Rec Keep GivesI Zh Dr DvM ChM ChE DtT ExI CnM
set_option linter.unusedVariables false
theorem own_at {V : World} {B n d : Nat} {q : Option Addr} {L : List Dg} (h : OwnT V B (.slice q n d) n L) (i : Nat) (hi : i < n) :
    ∃ (g : Nat) (p : Option Addr) (k c : Nat) (ys : List Int) (z : Int), q = some ⟨g, 0, none⟩ ∧ L[i]? = some (ys, z) ∧ V.cell? ⟨g, i * 2, none⟩ = some (.slice p k c) ∧ V.cell? ⟨g, i * 2 + 1, none⟩ = some (.int .i64 z) ∧ V.ownsRow B 3 1 (.slice p k c) k (ints ys) := by
  have hl := h.len
  obtain ⟨vs, h1, h2⟩ := h
  have hx := List.getElem?_eq_getElem (l := L) (i := i) (by omega)
  obtain ⟨p, k, c, e1, e2, e3⟩ := h2.2 i L[i].1 L[i].2 hx
  have hlen : vs.length = n * 2 := h1.1
  have hs : ∃ g, q = some ⟨g, 0, none⟩ := by
    rcases h1.2 with ⟨_, h0⟩ | ⟨g, cap, cur, hv, _⟩
    · omega
    · injection hv with e
      exact ⟨g, e⟩
  obtain ⟨g, rfl⟩ := hs
  refine ⟨g, p, k, c, L[i].1, L[i].2, rfl, hx, ?_, ?_, e3⟩
  · rw [h1.cellAt _ (by omega)]; exact e1
  · rw [h1.cellAt _ (by omega)]; exact e2
set_option maxRecDepth 100000 in
set_option maxHeartbeats 8000000 in
theorem impl_any (a1 a2 a3 : Option Addr) (n1 c1 n2 c2 n3 c3 : Nat) (l m : List (Int × Int)) (Z : List Zh.Pt) (w : World) (h : Arg w a1 n1 a2 n2 a3 n3 l m Z) :
    Calls Try.prog 24 #[.agg #[.slice a1 n1 c1, .slice a2 n2 c2, .slice a3 n3 c3]] w fun e w' => e = .returned (.tuple #[.int .i64 (cnP l m Z).1, .int .i64 (cnP l m Z).2.1, .bool (cnP l m Z).2.2]) ∧ Below w.heap.size w w' := by
  have hb := below_alloc w (.cells #[.slice a1 n1 c1, .slice a2 n2 c2, .slice a3 n3 c3] 37)
  obtain ⟨f1, f2, f3⟩ := box3 w (.slice a1 n1 c1) (.slice a2 n2 c2) (.slice a3 n3 c3) 37
  have hlt : w.heap.size < (w.alloc (.cells #[.slice a1 n1 c1, .slice a2 n2 c2, .slice a3 n3 c3] 37)).heap.size := by simp
  have H := Lib.hid (h.below hb)
  have HB := Lib.hid hb
  clear h hb
  obtain ⟨r, hr⟩ : ∃ r, r = cnP l m Z := ⟨_, rfl⟩
  rw [← hr]
  have HR := Lib.hid hr
  clear hr
  go_enter Try.func24, Try.ntmps24
  go_wp2_with fail
  generalize w.alloc (.cells #[.slice a1 n1 c1, .slice a2 n2 c2, .slice a3 n3 c3] 37) = W at *
  refine (VdI.valid_any a1 a2 a3 n1 c1 n2 c2 n3 c3 l m Z W H.out).mono ?_
  rintro e w1 ⟨rfl, b1⟩
  have g1 := (b1.cell (p := ⟨w.heap.size, 0, none⟩) hlt).trans f1
  have g2 := (b1.cell (p := ⟨w.heap.size, 1, none⟩) hlt).trans f2
  have g3 := (b1.cell (p := ⟨w.heap.size, 2, none⟩) hlt).trans f3
  have H1 := Lib.hid (H.out.below b1)
  have HB1 := Lib.hid (HB.out.trans (b1.mono HB.out.size))
  clear b1 f1 f2 f3 hlt H HB
  cases hg : vd l m Z with
  | false =>
    have HN := Lib.hid (HR.out.trans (cnP_no hg))
    clear hg
    go_wp2_with fail
    go_ret3
    exact ⟨by rw [HN.out]; rfl, HB1.out⟩
  | true =>
    have HV := Lib.hid (vd_iff.1 hg)
    have HN := Lib.hid (HR.out.trans (cnP_yes hg))
    clear hg
    go_wp2_with fail
    refine (datings_any l m Z HV.out a1 a2 a3 n1 c1 n2 c2 n3 c3 w1 H1.out).mono ?_
    rintro e w2 ⟨q, n, d, rfl, o2, b2⟩
    have HB2 := Lib.hid (HB1.out.trans (b2.mono HB1.out.size))
    have hlen := o2.len
    have hlim : n ≤ 5000 := by
      have h1 := al_many HV.out
      have h2 := List.length_filter_le (fun x : List Int × Int => decide (0 < x.2)) (al l m Z)
      rw [hlen, dts_is HV.out]
      omega
    have HL := Lib.hid hlen
    have HO := Lib.hid o2
    have HSW := Lib.hid (show sw (dts l m Z) ≤ 1000000000000000 ∧ ∀ x ∈ dts l m Z, 0 ≤ x.2 by
      rw [dts_is HV.out]
      have h1 : ∀ x ∈ al l m Z, 0 ≤ x.2 := fun x hx => (al_bd HV.out x hx).1
      exact ⟨by have := sw_ps _ h1; unfold ps at this; rw [this]; exact sw_al HV.out, fun x hx => h1 x (List.mem_filter.1 hx).1⟩)
    clear b2 o2 hlen
    go_wp2_with fail
    go_loopw [6, 16] (fun s6 s16 wr => ∃ (j : Nat) (S : Int), j ≤ n ∧ s16 = .int .i64 j ∧ s6 = .int .i64 S ∧ Hid (S = sw ((dts l m Z).take j)) ∧ Hid (Below w.heap.size w wr ∧ Below w2.heap.size w2 wr)) (fun _ s16 _ => n - (intOf s16).toNat)
    case atStart => exact ⟨0, 0, Nat.zero_le _, rfl, rfl, rfl, HB2.out, Below.refl _ _⟩
    case round =>
      obtain ⟨j, S, hj, rfl, rfl, HS, HW⟩ := hrel
      by_cases hjn : j < n
      · obtain ⟨g, p, k, c, ys, z, rfl, hx, e1, e2, e3⟩ := own_at (HO.out.below HW.out.2) j hjn
        have hnx := sw_next hx
        have hb1 := sw_le (L := dts l m Z) (j + 1) HSW.out.2
        have hb0 := HSW.out.1
        rw [hnx, ← HS.out] at hb1
        simp only at hb1
        have HS2 : Hid (S + z = sw ((dts l m Z).take (j + 1))) := by unfold Hid; rw [hnx, ← HS.out]
        have hwr : IntKind.i64.wrap (S + z) = S + z := by rw [IntKind.wrap_i64]; omega
        have hji : (j : Int) < (n : Int) := by omega
        have hj0 : (0 : Int) ≤ (j : Int) := by omega
        have hba := below_alloc wr (.cells #[.slice p k c, .int .i64 z] 94)
        have HW2 := Lib.hid (And.intro (HW.out.1.trans (hba.mono HW.out.1.size)) (HW.out.2.trans (hba.mono HW.out.2.size)))
        clear hx e3 hnx hb1 hb0 hba
        go_wp2_with fail
        exact ⟨⟨j + 1, S + z, by omega, by go_num, rfl, HS2, HW2⟩, by simp [intOf]; omega⟩
      · obtain rfl : j = n := by omega
        have hjj : ¬ (j : Int) < (j : Int) := by omega
        have HE := Lib.hid (show r = ((j : Int), S, true) by
          rw [HN.out, HS.out, List.take_of_length_le (by rw [← HL.out]; exact Nat.le_refl _), ← HL.out])
        go_wp2_with fail
        go_ret3
        exact ⟨by rw [HE.out]; rfl, HW.out.1⟩
end Go.Proofs.Ytfbgekhkbbhggaa.CnI

namespace Go.Proofs.Ytfbgekhkbbhggaa.Zm
open Go.RowKit Pairs Rec Keep GivesI Zh Dr
set_option linter.unusedVariables false
/-- A row of n cells that may be written, whatever they hold. -/
def Free (w : World) (g n : Nat) : Prop := ∀ j, j < n → (∃ v, w.cell? ⟨g, j, none⟩ = some v) ∧ w.frozen? ⟨g, j, none⟩ = false
theorem Free.below {w w' : World} {g n : Nat} (h : Free w g n) (hb : Below w.heap.size w w') : Free w' g n := fun j hj => by
  obtain ⟨⟨v, hv⟩, hf⟩ := h j hj
  have hlt := World.block_lt_of_cell? w _ hv
  exact ⟨⟨v, (hb.cell (p := ⟨g, j, none⟩) hlt).trans hv⟩, (hb.frozen (p := ⟨g, j, none⟩) hlt).trans hf⟩
theorem Free.set {w : World} {g n : Nat} (h : Free w g n) (a : Addr) (u : Value) : Free (w.setCell a u) g n := fun j hj => by
  obtain ⟨⟨v, hv⟩, hf⟩ := h j hj
  refine ⟨?_, by rw [World.frozen?_setCell]; exact hf⟩
  by_cases e : a = ⟨g, j, none⟩
  · subst e
    exact ⟨u, World.cell?_setCell_same _ _ _ hv⟩
  · exact ⟨v, (World.cell?_setCell_other _ _ _ _ e).trans hv⟩
theorem Free.of_row {w : World} {B g n : Nat} {ys : List Value} (h : w.ownsRow B 3 1 (.slice (some ⟨g, 0, none⟩) n n) n ys) : Free w g n := fun j hj => by
  have hlen : ys.length = n * 1 := h.1
  refine ⟨⟨ys[j], ?_⟩, h.frozenAt j⟩
  rw [h.cellAt j (by omega), List.getElem?_eq_getElem (by omega)]
def Frees (w w' : World) : Prop := ∀ g m, Free w g m → Free w' g m
set_option maxRecDepth 100000 in
set_option maxHeartbeats 1000000 in
/-- markIntS on such a row: nothing but the row is turned. -/
theorem markI_any (g n c : Nat) (k : Int) (hk0 : 0 ≤ k) (hk1 : k ≤ 10000000) (hz : n ≤ 1048576) (w : World) (h : Free w g n) :
    Calls Try.prog 33 #[.slice (some ⟨g, 0, none⟩) n c, .int .i64 k] w fun e w' => e = .returned (.int .i64 (k + n)) ∧ Kept (fun b => b = g) w w' ∧ Frees w w' := by
  have HF := Lib.hid h
  clear h
  go_enter Try.func33, Try.ntmps33
  go_wp2_with fail
  go_loopw [1, 5] (fun s1 s5 wr => ∃ j : Nat, j ≤ n ∧ s5 = .int .i64 j ∧ s1 = .int .i64 (k + j) ∧ Hid (Kept (fun b => b = g) w wr ∧ Frees w wr)) (fun _ s5 _ => n - (intOf s5).toNat)
  case atStart => exact ⟨0, Nat.zero_le _, rfl, by simp, Kept.refl _ _, fun _ _ h => h⟩
  case round =>
    obtain ⟨j, hj, rfl, rfl, HR⟩ := hrel
    by_cases hlt : j < n
    · have hi : (j : Int) < (n : Int) := by omega
      obtain ⟨⟨v0, hv0⟩, hf0⟩ := HR.out.2 g n HF.out j hlt
      have HR2 : Hid (Kept (fun b => b = g) w (wr.setCell ⟨g, j, none⟩ (.int .i64 (k + j))) ∧ Frees w (wr.setCell ⟨g, j, none⟩ (.int .i64 (k + j)))) := ⟨HR.out.1.setCell (g := g) rfl _, fun g' m h => (HR.out.2 g' m h).set _ _⟩
      go_wp2_with fail
      exact ⟨⟨j + 1, by omega, by go_num, by go_num, HR2⟩, by simp [intOf]; omega⟩
    · obtain rfl : j = n := by omega
      have HE := Lib.hid HR.out
      go_wp2_with fail
      go_ret
      exact ⟨rfl, HE.out⟩
/-- What a marking of distributions needs: the row, and rows of members of their own blocks, from B on and ahead of D. -/
def MkP (B D : Nat) (w : World) (g n : Nat) (L : List Pt) : Prop :=
  L.length = n ∧ B ≤ g ∧ g < D ∧ Free w g (n * 2) ∧ ∀ (i : Nat) (x : Pt), L[i]? = some x → ∃ gi : Nat, gi ≠ g ∧ B ≤ gi ∧ gi < D ∧ w.cell? ⟨g, i * 2 + 1, none⟩ = some (.slice (some ⟨gi, 0, none⟩) x.2.length x.2.length) ∧ Free w gi x.2.length
theorem mkP_of {B : Nat} {w : World} {g n : Nat} {L : List Pt} (h : ZhT.OwnP B w g n L n) (hl : L.length = n) : MkP B w.heap.size w g n L := by
  refine ⟨hl, h.lt.1, h.lt.2, h.facts, fun i x hx => ?_⟩
  obtain ⟨ys, h1, h2⟩ := h
  have hlen : ys.length = n * 2 := h1.1
  have hil := (List.getElem?_eq_some_iff.1 hx).1
  obtain ⟨e1, gi, e2, e3, e4⟩ := h2 i x (by omega) hx
  exact ⟨gi, e3, (e4.lt gi rfl).1, (e4.lt gi rfl).2, by rw [h1.cellAt _ (by omega)]; exact e2, Free.of_row e4⟩
theorem MkP.below {B D : Nat} {w w' : World} {g n : Nat} {L : List Pt} (h : MkP B D w g n L) (hb : Below w.heap.size w w') : MkP B D w' g n L :=
  ⟨h.1, h.2.1, h.2.2.1, h.2.2.2.1.below hb, fun i x hx => by
    obtain ⟨gi, h1, h2, h3, h4, h5⟩ := h.2.2.2.2 i x hx
    exact ⟨gi, h1, h2, h3, (hb.cell (p := ⟨g, i * 2 + 1, none⟩) (World.block_lt_of_cell? w _ h4)).trans h4, h5.below hb⟩⟩
theorem MkP.kept {B D : Nat} {w w' : World} {g n : Nat} {L : List Pt} {S : Nat → Prop} (h : MkP B D w g n L) (k : Kept S w w') (hS : ¬ S g) (hf : Frees w w') : MkP B D w' g n L :=
  ⟨h.1, h.2.1, h.2.2.1, hf _ _ h.2.2.2.1, fun i x hx => by
    obtain ⟨gi, h1, h2, h3, h4, h5⟩ := h.2.2.2.2 i x hx
    exact ⟨gi, h1, h2, h3, k.cell h4 hS, hf _ _ h5⟩⟩
theorem MkP.name {B D : Nat} {w : World} {g n : Nat} {L : List Pt} (h : MkP B D w g n L) (i : Nat) (u : Value) : MkP B D (w.setCell ⟨g, i * 2, none⟩ u) g n L :=
  ⟨h.1, h.2.1, h.2.2.1, h.2.2.2.1.set _ _, fun j x hx => by
    obtain ⟨gi, h1, h2, h3, h4, h5⟩ := h.2.2.2.2 j x hx
    exact ⟨gi, h1, h2, h3, (World.cell?_setCell_other _ _ _ _ (by intro e; have := congrArg Addr.off e; simp at this; omega)).trans h4, h5.set _ _⟩⟩
def MkAns (B D : Nat) (w : World) (e : Ending) (w' : World) : Prop := ∃ r : Nat, e = .returned (.int .i64 (r : Int)) ∧ Kept (fun b => B ≤ b ∧ b < D) w w'
set_option maxRecDepth 100000 in
set_option maxHeartbeats 2000000 in
theorem markP_any (B D g n c : Nat) (L : List Pt) (k0 : Nat) (hk0 : 1 ≤ k0) (hk1 : k0 ≤ 5000000) (hn : n ≤ 1048576) (hS : Sm L 1048576) (hT : ZhL.tot L ≤ 1048576) (w : World) (h : MkP B D w g n L) :
    Calls Try.prog 71 #[.slice (some ⟨g, 0, none⟩) n c, .int .i64 (k0 : Int)] w (MkAns B D w) := by
  have HL := Lib.hid h.1
  have HG := Lib.hid (And.intro h.2.1 h.2.2.1)
  have HS := Lib.hid hS
  have HT := Lib.hid hT
  have HM := Lib.hid h
  clear h hS hT
  go_enter Try.func71, Try.ntmps71
  go_wp2_with fail
  go_loopw [1, 5] (fun s1 s5 wr => ∃ i k : Nat, i ≤ n ∧ s5 = .int .i64 i ∧ s1 = .int .i64 (k : Int) ∧ Hid (k = k0 + i + ZhL.tot (L.take i)) ∧ Hid (MkP B D wr g n L ∧ Kept (fun b => B ≤ b ∧ b < D) w wr)) (fun _ s5 _ => n - (intOf s5).toNat)
  case atStart => exact ⟨0, k0, Nat.zero_le _, rfl, rfl, rfl, HM.out, Kept.refl _ _⟩
  case round =>
    obtain ⟨i, k, hi, rfl, rfl, HK0, HR⟩ := hrel
    by_cases hlt : i < n
    · have hk := HK0.out
      obtain ⟨x, hx⟩ : ∃ x, L[i]? = some x := ⟨L[i]'(by rw [HL.out]; exact hlt), List.getElem?_eq_getElem (by rw [HL.out]; exact hlt)⟩
      obtain ⟨gi, q1, q2, q3, q4, q5⟩ := HR.out.1.2.2.2.2 i x hx
      have htt : ZhL.tot (L.take (i + 1)) ≤ ZhL.tot L := ZhL.tot_le _ _
      have hnx := ZhL.tot_next hx
      have hTT := HT.out
      have hxl := HS.out x (List.mem_of_getElem? hx)
      have hki : k ≤ 9000000 := by omega
      have hk1' : 1 ≤ k := by omega
      have HK : Hid (k + 1 + x.2.length = k0 + (i + 1) + ZhL.tot (L.take (i + 1))) := by unfold Hid; omega
      have hii : (i : Int) < (n : Int) := by omega
      have hi0 : (0 : Int) ≤ (i : Int) := by omega
      have Q := Lib.hid (And.intro q1 (And.intro q2 q3))
      clear htt hnx hTT hk q1 q2 q3 q4 q5
      obtain ⟨⟨v0, hv0⟩, hf0⟩ := HR.out.1.2.2.2.1 (i * 2) (by omega)
      have HR3 : Hid (MkP B D (wr.setCell ⟨g, i * 2, none⟩ (.int .i64 (k : Int))) g n L ∧ Kept (fun b => B ≤ b ∧ b < D) w (wr.setCell ⟨g, i * 2, none⟩ (.int .i64 (k : Int)))) := ⟨HR.out.1.name i _, HR.out.2.setCell (g := g) HG.out _⟩
      obtain ⟨gj, p1, p2, p3, p4, p5⟩ := HR3.out.1.2.2.2.2 i x hx
      have P := Lib.hid (And.intro p1 (And.intro p2 (And.intro p3 p5)))
      clear p1 p2 p3 p5 hx
      go_wp2_with fail
      generalize wr.setCell ⟨g, i * 2, none⟩ (.int .i64 (k : Int)) = W3 at *
      clear p4 hv0 hf0
      refine (markI_any gj x.2.length x.2.length ((k : Int) + 1) (by omega) (by omega) hxl W3 P.out.2.2.2).mono ?_
      rintro e w4 ⟨rfl, q4, f4⟩
      have HR4 : Hid (MkP B D w4 g n L ∧ Kept (fun b => B ≤ b ∧ b < D) w w4) := ⟨HR3.out.1.kept q4 (fun e => P.out.1 e.symm) f4, HR3.out.2.trans (q4.mono fun b hb => by rw [hb]; exact ⟨P.out.2.1, P.out.2.2.1⟩)⟩
      clear q4 f4
      generalize x.2.length = xl at *
      have HKI : Hid ((k : Int) + 1 + (xl : Int) = ((k + 1 + xl : Nat) : Int)) := by unfold Hid; omega
      go_wp2_with fail
      exact ⟨⟨i + 1, k + 1 + xl, by omega, by go_num, by rw [HKI.out], HK, HR4⟩, by simp [intOf]; omega⟩
    · obtain rfl : i = n := by omega
      have hii : ¬ (i : Int) < (i : Int) := by omega
      have HE := Lib.hid HR.out.2
      go_wp2_with fail
      go_ret
      exact ⟨k, rfl, HE.out⟩
theorem Free.keptS {S : Nat → Prop} {w w' : World} {g n : Nat} (h : Free w g n) (k : Kept S w w') (hs : ¬ S g) : Free w' g n := fun j hj => by
  obtain ⟨⟨v, hv⟩, hf⟩ := h j hj
  refine ⟨⟨v, k.cell hv hs⟩, ?_⟩
  have hb := k.block g (World.block_lt_of_cell? w _ hv) hs
  unfold World.frozen? at *
  rw [hb]
  exact hf
theorem MkP.keptS {B D : Nat} {w w' : World} {g n : Nat} {L : List Pt} {S : Nat → Prop} (h : MkP B D w g n L) (k : Kept S w w') (hs : ∀ b, B ≤ b → b < D → ¬ S b) : MkP B D w' g n L :=
  ⟨h.1, h.2.1, h.2.2.1, h.2.2.2.1.keptS k (hs g h.2.1 h.2.2.1), fun i x hx => by
    obtain ⟨gi, h1, h2, h3, h4, h5⟩ := h.2.2.2.2 i x hx
    exact ⟨gi, h1, h2, h3, k.cell h4 (hs g h.2.1 h.2.2.1), h5.keptS k (hs gi h2 h3)⟩⟩
theorem row_type {V : World} {B s n : Nat} {T : TypeId} {v : Value} {xs : List Value} (h : V.ownsRow B T s v n xs) {b : Nat} (hb : v.ownBlock = some b) : ∃ cs z, V.heap[b]? = some (.cells cs T z) := by
  rcases h.2 with ⟨hv, _⟩ | ⟨g, cap, cur, hv, _, hh, _⟩
  · subst hv
    cases hb
  · subst hv
    have : g = b := by simpa [Value.ownBlock] using hb
    subst this
    exact ⟨_, _, hh⟩
theorem mkP_kept {B D : Nat} {w w' : World} {g n : Nat} {L : List Pt} {S : Nat → Prop} (h : MkP B D w g n L) (o : ZhT.OwnP B w g n L n) (k : Kept S w w')
    (hS : ∀ b, S b → ∃ T cs z, w.heap[b]? = some (.cells cs T z) ∧ T ≠ 50 ∧ T ≠ 3) : MkP B D w' g n L := by
  have key : ∀ {T s v m xs} {b : Nat}, w.ownsRow B T s v m xs → v.ownBlock = some b → (T = 50 ∨ T = 3) → ¬ S b := by
    intro T s v m xs b hr hb hT hs
    obtain ⟨T', cs, z, h1, h2, h3⟩ := hS b hs
    obtain ⟨cs', z', h4⟩ := row_type hr hb
    rw [h4] at h1
    injection h1 with h1
    injection h1 with _ e _
    subst e
    rcases hT with hT | hT
    · exact h2 hT
    · exact h3 hT
  obtain ⟨ys, o1, o2⟩ := o
  have hlen : ys.length = n * 2 := o1.1
  have hg : ¬ S g := key o1 rfl (.inl rfl)
  refine ⟨h.1, h.2.1, h.2.2.1, h.2.2.2.1.keptS k hg, fun i x hx => ?_⟩
  obtain ⟨gi, h1, h2, h3, h4, h5⟩ := h.2.2.2.2 i x hx
  have hil := (List.getElem?_eq_some_iff.1 hx).1
  have hL := h.1
  obtain ⟨e1, gj, e2, e3, e4⟩ := o2 i x (by omega) hx
  have e5 : w.cell? ⟨g, i * 2 + 1, none⟩ = some (.slice (some ⟨gj, 0, none⟩) x.2.length x.2.length) := by rw [o1.cellAt _ (by omega)]; exact e2
  have e6 : gi = gj := by
    rw [e5] at h4
    injection h4 with h4
    injection h4 with h4
    injection h4 with h4
    injection h4 with h4
    exact h4.symm
  have hgi : ¬ S gi := by rw [e6]; exact key e4 rfl (.inr rfl)
  exact ⟨gi, h1, h2, h3, k.cell h4 hg, h5.keptS k hgi⟩
/-- A dated record of one's own that is to be marked: its blocks lie from B on and ahead of D. -/
structure MkR (B D : Nat) (w : World) (g1 n1 g2 n2 g3 n3 : Nat) (l m : List (Int × Int)) (Z : List Pt) : Prop where
  own : OwnR w B g1 n1 g2 n2 g3 n3 l m Z
  l1 : g1 < D
  l2 : g2 < D
  mp : MkP B D w g3 n3 Z
theorem mkR_of {B : Nat} {w : World} {g1 n1 g2 n2 g3 n3 : Nat} {l m : List (Int × Int)} {Z : List Pt} (h : OwnR w B g1 n1 g2 n2 g3 n3 l m Z) (hZ : Z.length = n3) : MkR B w.heap.size w g1 n1 g2 n2 g3 n3 l m Z :=
  ⟨h, (h.rcd.ctx.lt g1 rfl).2, (h.rcd.rel.lt g2 rfl).2, mkP_of h.dat hZ⟩
theorem MkR.below {B D : Nat} {w w' : World} {g1 n1 g2 n2 g3 n3 : Nat} {l m : List (Int × Int)} {Z : List Pt} (h : MkR B D w g1 n1 g2 n2 g3 n3 l m Z) (b : Below w.heap.size w w') : MkR B D w' g1 n1 g2 n2 g3 n3 l m Z :=
  ⟨h.own.below b, h.l1, h.l2, h.mp.below b⟩
set_option maxRecDepth 100000 in
set_option maxHeartbeats 4000000 in
theorem markDR_any (B D g1 n1 g2 n2 g3 n3 : Nat) (l m : List (Int × Int)) (Z : List Pt) (w : World) (h : MkR B D w g1 n1 g2 n2 g3 n3 l m Z) (z1 : n1 ≤ 1048576) (z2 : n2 ≤ 1048576) (z3 : n3 ≤ 1048576) (hS : Sm Z 1048576) (hT : ZhL.tot Z ≤ 1048576) (hD : D ≤ w.heap.size) :
    Calls Try.prog 28 #[.agg #[.slice (some ⟨g1, 0, none⟩) n1 n1, .slice (some ⟨g2, 0, none⟩) n2 n2, .slice (some ⟨g3, 0, none⟩) n3 n3], .int .i64 1] w (MkAns B D w) := by
  have hb := below_alloc w (.cells #[.slice (some ⟨g1, 0, none⟩) n1 n1, .slice (some ⟨g2, 0, none⟩) n2 n2, .slice (some ⟨g3, 0, none⟩) n3 n3] 37)
  obtain ⟨f1, f2, f3⟩ := box3 w (.slice (some ⟨g1, 0, none⟩) n1 n1) (.slice (some ⟨g2, 0, none⟩) n2 n2) (.slice (some ⟨g3, 0, none⟩) n3 n3) 37
  have H := Lib.hid (h.below hb)
  have HB := Lib.hid hb
  have HD := Lib.hid hD
  have HS := Lib.hid hS
  have HT := Lib.hid hT
  have hB1 := Lib.hid (h.own.rcd.ctx.lt g1 rfl).1
  have hB2 := Lib.hid (h.own.rcd.rel.lt g2 rfl).1
  clear h hb hD hS hT
  go_enter Try.func28, Try.ntmps28
  go_wp2_with fail
  generalize w.alloc (.cells #[.slice (some ⟨g1, 0, none⟩) n1 n1, .slice (some ⟨g2, 0, none⟩) n2 n2, .slice (some ⟨g3, 0, none⟩) n3 n3] 37) = W at *
  refine (Mark2.markRecord_any B _ _ n1 n1 n2 n2 l m z1 z2 W (got_of_own H.out.own.rcd)).mono ?_
  rintro e w1 ⟨rfl, o1, q1⟩
  have hq : ∀ b, ((Value.slice (some ⟨g1, 0, none⟩) n1 n1).ownBlock = some b ∨ (Value.slice (some ⟨g2, 0, none⟩) n2 n2).ownBlock = some b) → B ≤ b ∧ b < D := by
    intro b hb
    rcases hb with hb | hb
    · have e : g1 = b := by simpa [Value.ownBlock] using hb
      rw [← e]; exact ⟨hB1.out, H.out.l1⟩
    · have e : g2 = b := by simpa [Value.ownBlock] using hb
      rw [← e]; exact ⟨hB2.out, H.out.l2⟩
  have hM := mkP_kept H.out.mp H.out.own.dat q1 (fun b hb => by
    rcases hb with hb | hb
    · obtain ⟨cs, z, h1⟩ := row_type H.out.own.rcd.ctx hb
      exact ⟨_, cs, z, h1, by decide, by decide⟩
    · obtain ⟨cs, z, h1⟩ := row_type H.out.own.rcd.rel hb
      exact ⟨_, cs, z, h1, by decide, by decide⟩)
  have f3 := q1.cell f3 (fun hs => by have h1 := (hq _ hs).2; have h2 := HD.out; simp only at h1; omega)
  have HM := Lib.hid hM
  have HK := Lib.hid ((Kept.of HB.out).trans (q1.mono hq))
  clear o1 q1 hq hM f1 f2
  have hk : (1 : Int) + 2 * (n1 : Int) + 2 * (n2 : Int) = ((1 + 2 * n1 + 2 * n2 : Nat) : Int) := by omega
  rw [hk]
  have hk1 : 1 + 2 * n1 + 2 * n2 ≤ 5000000 := by omega
  have hk2 : 1 ≤ 1 + 2 * n1 + 2 * n2 := by omega
  clear hk
  generalize 1 + 2 * n1 + 2 * n2 = K at *
  go_wp2_with fail
  refine (markP_any B D g3 n3 n3 Z K hk2 hk1 z3 HS.out HT.out w1 HM.out).mono ?_
  rintro e w2 ⟨r, rfl, q2⟩
  have HK2 := Lib.hid (HK.out.trans q2)
  clear q2 f3
  go_wp2_with fail
  go_ret
  exact ⟨r, rfl, HK2.out⟩
/-- What a function that makes a list and a number leaves. -/
def ResL (A : List Int) (z : Int) (ok : Bool) (w : World) (e : Ending) (w' : World) : Prop :=
  ∃ (p : Option Addr) (k d : Nat), e = .returned (.tuple #[.slice p k d, .int .i64 z, .bool ok]) ∧ w'.ownsRow w.heap.size 3 1 (.slice p k d) k (ints A) ∧ k ≤ 1048576 ∧ Below w.heap.size w w'
theorem pairsKept {S : Nat → Prop} {w0 w w' : World} {p : Option Addr} {n : Nat} {l : List (Int × Int)} (h0 : Holds w0 p n l) (h : Holds w p n l) (k : Kept S w w') (hs : ∀ b, b < w0.heap.size → ¬ S b) : Holds w' p n l := by
  refine ⟨h.1, ?_⟩
  rcases h0.2 with h2 | ⟨b, off, ha, hbw, _⟩
  · exact .inl h2
  · rcases h.2 with h3 | ⟨b', off', ha', hbw', hc⟩
    · exact .inl h3
    · have e : b' = b := by
        rw [ha] at ha'
        injection ha' with e
        injection e with e1 e2
        exact e1.symm
      have hn : ¬ S b' := by rw [e]; exact hs b hbw
      exact .inr ⟨b', off', ha', Nat.lt_of_lt_of_le hbw' k.size, fun i x hi => ⟨k.cell (hc i x hi).1 hn, k.cell (hc i x hi).2 hn⟩⟩
theorem distsKept {S : Nat → Prop} {w0 w w' : World} {p : Option Addr} {n : Nat} {Z : List Pt} (h0 : HoldsZ w0 p n Z) (h : HoldsZ w p n Z) (b0 : Below w0.heap.size w0 w) (k : Kept S w w') (hs : ∀ b, b < w0.heap.size → ¬ S b) : HoldsZ w' p n Z := by
  refine ⟨h.1, ?_⟩
  rcases h0.2 with h2 | ⟨b, off, ha, hbw, hc⟩
  · exact .inl h2
  · have hn : ¬ S b := hs b hbw
    refine .inr ⟨b, off, ha, Nat.lt_of_lt_of_le (Nat.lt_of_lt_of_le hbw b0.size) k.size, fun i x hi => ?_⟩
    obtain ⟨e1, q, j, c, e2, e3⟩ := hc i x hi
    exact ⟨k.cell ((b0.cell (p := ⟨b, _, none⟩) hbw).trans e1) hn, q, j, c, k.cell ((b0.cell (p := ⟨b, _, none⟩) hbw).trans e2) hn, Di.heldKept e3 (e3.below b0) k hs⟩
theorem argKept {S : Nat → Prop} {w0 w w' : World} {a1 : Option Addr} {n1 : Nat} {a2 : Option Addr} {n2 : Nat} {a3 : Option Addr} {n3 : Nat} {l m : List (Int × Int)} {Z : List Pt} (h0 : Arg w0 a1 n1 a2 n2 a3 n3 l m Z) (h : Arg w a1 n1 a2 n2 a3 n3 l m Z) (b0 : Below w0.heap.size w0 w) (k : Kept S w w') (hs : ∀ b, b < w0.heap.size → ¬ S b) : Arg w' a1 n1 a2 n2 a3 n3 l m Z :=
  ⟨h.s1, h.s2, h.s3, pairsKept h0.h1 h.h1 k hs, pairsKept h0.h2 h.h2 k hs, distsKept h0.h3 h.h3 b0 k hs, h.sm⟩
end Go.Proofs.Ytfbgekhkbbhggaa.Zm

namespace Go.Proofs.Ytfbgekhkbbhggaa.MgI
open Go Go.RowKit Pairs Rec Keep GivesI Zh Dr DvM ChM ChE GoodM Find2 DtT ExI CnM CnI CeM PlI MgM RdM Di ShI
set_option linter.unusedVariables false
theorem own_put {V : World} {B : Nat} {v : Value} {n : Nat} {L : List Dg} (h : OwnT V B v n L) {a : Addr} (ha : a.block < B) (u : Value) : OwnT (V.setCell a u) B v n L := by
  obtain ⟨vs, k1, k2⟩ := h
  exact ⟨vs, ownsRow_setCell_below k1 ha u, k2.map fun _ _ _ _ h => ownsRow_setCell_below h ha u⟩
set_option maxRecDepth 100000 in
set_option maxHeartbeats 8000000 in
theorem impl_any (a1 a2 a3 : Option Addr) (n1 c1 n2 c2 n3 c3 : Nat) (l m : List (Int × Int)) (Z : List Zh.Pt) (t : Int) (w : World) (h : Arg w a1 n1 a2 n2 a3 n3 l m Z) :
    Calls Try.prog 26 #[.agg #[.slice a1 n1 c1, .slice a2 n2 c2, .slice a3 n3 c3], .int .i64 t] w (ResZ (mdP l m Z t).isSome ((mdP l m Z t).getD (0, [])).1 ((mdP l m Z t).getD (0, [])).2 w) := by
  obtain ⟨i0, hi, hy0, hy1, hy2⟩ := info_parts IntT.infoI
  have hb := below_alloc2 w (.cells #[.slice a1 n1 c1, .slice a2 n2 c2, .slice a3 n3 c3] 37) (.cells #[.int .i64 0, .slice none 0 0] 50)
  have hb1 := below_alloc (w.alloc (.cells #[.slice a1 n1 c1, .slice a2 n2 c2, .slice a3 n3 c3] 37)) (.cells #[.int .i64 0, .slice none 0 0] 50)
  obtain ⟨f1, f2, f3⟩ := box3 w (.slice a1 n1 c1) (.slice a2 n2 c2) (.slice a3 n3 c3) 37
  have hlt0 : w.heap.size < (w.alloc (.cells #[.slice a1 n1 c1, .slice a2 n2 c2, .slice a3 n3 c3] 37)).heap.size := by simp
  have f1 := (hb1.cell (p := ⟨w.heap.size, 0, none⟩) hlt0).trans f1
  have f2 := (hb1.cell (p := ⟨w.heap.size, 1, none⟩) hlt0).trans f2
  have f3 := (hb1.cell (p := ⟨w.heap.size, 2, none⟩) hlt0).trans f3
  have BX := bx_new (w.alloc (.cells #[.slice a1 n1 c1, .slice a2 n2 c2, .slice a3 n3 c3] 37)) (.int .i64 0) (.slice none 0 0) 50
  rw [show (w.alloc (.cells #[.slice a1 n1 c1, .slice a2 n2 c2, .slice a3 n3 c3] 37)).heap.size = w.heap.size + 1 by simp] at BX
  have H := Lib.hid (h.below hb)
  have HB := Lib.hid hb
  have HBX := Lib.hid BX
  have HL3 := Lib.hid h.h3.1
  have s3 := h.s3
  clear h hb hb1 hlt0 BX
  obtain ⟨r, hr⟩ : ∃ r, r = mdP l m Z t := ⟨_, rfl⟩
  rw [← hr]
  have HR := Lib.hid hr
  clear hr
  go_enter Try.func26, Try.ntmps26
  go_wp2_with fail
  generalize (w.alloc (.cells #[.slice a1 n1 c1, .slice a2 n2 c2, .slice a3 n3 c3] 37)).alloc (.cells #[.int .i64 0, .slice none 0 0] 50) = W at *
  have hlt := World.block_lt_of_cell? W _ f1
  refine (placeOf_any a1 a2 a3 n1 c1 n2 c2 n3 c3 l m Z t W H.out).mono ?_
  rintro e w1 ⟨rfl, b1⟩
  have g1 := (b1.cell (p := ⟨w.heap.size, 0, none⟩) hlt).trans f1
  have g2 := (b1.cell (p := ⟨w.heap.size, 1, none⟩) hlt).trans f2
  have g3 := (b1.cell (p := ⟨w.heap.size, 2, none⟩) hlt).trans f3
  have H1 := Lib.hid (H.out.below b1)
  have HB1 := Lib.hid (HB.out.trans (b1.mono HB.out.size))
  have HBX1 := Lib.hid (HBX.out.below b1)
  have hlt1 := Nat.lt_of_lt_of_le hlt b1.size
  clear b1 f1 f2 f3 hlt H HB HBX
  have y0 := HBX1.out.c0
  have y1 := HBX1.out.c1
  have y2 := HBX1.out.f0
  have y3 := HBX1.out.f1
  by_cases hall : vd l m Z = true ∧ (isAt l t).isSome = true
  · obtain ⟨hg, ha⟩ := hall
    have HV := Lib.hid (vd_iff.1 hg)
    obtain ⟨i, hia⟩ := Option.isSome_iff_exists.1 ha
    have hn13 : n1 = n3 := by have h1 := HV.out.len; have h2 := H1.out.h1.1; rw [HL3.out] at h1; omega
    have hin := (isAt_nb hia).1
    rw [H1.out.h1.1, hn13] at hin
    have hp1 : plV l m Z t = i := by unfold plV; rw [if_pos hg]; exact pl_is (asc_of HV.out.good) hia
    have hb1 : plB l m Z t = true := by unfold plB; rw [hg, ha]; rfl
    obtain ⟨b, off, f, M, q, jz, cz, rfl, hx, e1, e2, hM⟩ := H1.out.h3.at i hin
    have HN := Lib.hid (HR.out.trans (mdP_yes hg hia hx))
    have hod := okZ_mem HV.out.each (List.mem_of_getElem? hx)
    have hlo := (okD_iff.1 hod).lo
    have hhi := (okD_iff.1 hod).hi
    have hlen := (okD_iff.1 hod).len
    have hpos := (okD_iff.1 hod).pos
    simp only at hlo hhi hlen hpos
    have hjz : M.length = jz := hM.1
    have HX := Lib.hid hx
    rw [hjz] at hhi hlen hpos HN
    rw [hp1, hb1]
    have HYR := Lib.hid (fun x (hxx : x ∈ dts l m Z) => al_year HV.out.each (dts_al HV.out hxx) hx)
    have HJZ := Lib.hid hjz
    have hii : (i : Int) < (n3 : Int) := by omega
    have hi0 : (0 : Int) ≤ (i : Int) := by omega
    clear hg ha hia hp1 hb1 hn13 hx hM hod hjz
    have hBB := Lib.hid (show w.heap.size + 2 ≤ w1.heap.size by have := HBX1.out.lt; omega)
    go_wp2_with (at_make; refine wpList_make_full _ rfl _ _ 41 rfl w1.heap.size 3 i0 (.int .i64 0) 1 Try.underlying41 hi hy0 hy1 .i64 .i64 _ _ jz rfl rfl (by omega) (by omega) (by rw [hy2]; omega) (by unfold maxLen; omega) (Nat.le_refl _) ?_; intro w5 hown hgrow; have g1 := (World.cell?_of_block (hgrow.block w.heap.size hlt1 (by intro e; cases e))).trans g1; have g2 := (World.cell?_of_block (hgrow.block w.heap.size hlt1 (by intro e; cases e))).trans g2; have g3 := (World.cell?_of_block (hgrow.block w.heap.size hlt1 (by intro e; cases e))).trans g3; have HOG := Lib.hid (And.intro hown hgrow); clear hown hgrow)
    have hown := HOG.out.1
    have hB5 : Below w1.heap.size w1 w5 := (Below.refl _ _).grown HOG.out.2 (Nat.le_refl _) (fun k hk => by cases hk)
    have HO5 : Hid (w5.ownsRow w1.heap.size 3 1 (.slice (some ⟨w1.heap.size, 0, none⟩) jz jz) jz (ints (List.replicate jz 0))) := by
      unfold Hid
      have e : ints (List.replicate jz 0) = List.replicate jz (Value.int .i64 0) := by unfold ints; rw [List.map_replicate]
      rw [e, ← YnS.made_zeros jz]
      exact hown
    have hs5 : w1.heap.size + 1 ≤ w5.heap.size := (HO5.out.lt w1.heap.size rfl).2
    have H5 := Lib.hid (H1.out.below hB5)
    have HB5 := Lib.hid hB5
    clear hown HOG hB5
    refine (datings_any l m Z HV.out a1 a2 (some ⟨b, off, none⟩) n1 c1 n2 c2 n3 c3 w5 H5.out).mono ?_
    rintro e w2 ⟨qq, n, d, rfl, o2, b2⟩
    have hlenn := o2.len
    have hlim : n ≤ 5000 := by
      have h1 := al_many HV.out
      have h2 := List.length_filter_le (fun x : List Int × Int => decide (0 < x.2)) (al l m Z)
      rw [hlenn, dts_is HV.out]
      omega
    have HL := Lib.hid hlenn
    have HO := Lib.hid (o2.base hs5)
    have HR2 := Lib.hid (ownsRow_below HO5.out b2)
    have HB6 := Lib.hid (HB5.out.trans (b2.mono (by omega)))
    have HDL := Lib.hid (dts_len HV.out)
    have HSW := Lib.hid (show sw (dts l m Z) ≤ 1000000000000000 ∧ ∀ x ∈ dts l m Z, 0 ≤ x.2 by
      rw [dts_is HV.out]
      have h1 : ∀ x ∈ al l m Z, 0 ≤ x.2 := fun x hx => (al_bd HV.out x hx).1
      exact ⟨by have := sw_ps _ h1; unfold ps at this; rw [this]; exact sw_al HV.out, fun x hx => h1 x (List.mem_filter.1 hx).1⟩)
    clear b2 o2 hlenn
    go_wp2_with fail
    go_loopw [38] (fun s38 wr => ∃ (j : Nat), j ≤ n ∧ s38 = .int .i64 j ∧ Hid (wr.ownsRow w1.heap.size 3 1 (.slice (some ⟨w1.heap.size, 0, none⟩) jz jz) jz (ints (mg i f jz ((dts l m Z).take j))) ∧ OwnT wr (w1.heap.size + 1) (.slice qq n d) n (dts l m Z) ∧ Below w1.heap.size w1 wr)) (fun s38 _ => n - (intOf s38).toNat)
    case atStart => exact ⟨0, Nat.zero_le _, rfl, HR2.out, HO.out, HB6.out⟩
    case round =>
      obtain ⟨j, hj, rfl, HW⟩ := hrel
      by_cases hjn : j < n
      · obtain ⟨g, pp, kk, cc, ys, zz, rfl, hx, x1, x2, x3⟩ := own_at HW.out.2.1 j hjn
        have hmem := List.mem_of_getElem? hx
        have hysl := HDL.out _ hmem
        have hkl : kk = n3 := by have h1 := x3.1; rw [ints_len] at h1; rw [HL3.out] at hysl; simp only at hysl; omega
        obtain ⟨y, hyy, hya, hyb⟩ := HYR.out _ hmem
        simp only at hyy hya hyb
        rw [HJZ.out] at hyb
        have HH := GivesI.holds_own x3
        obtain ⟨by_, oy, y', rfl, hy', x4⟩ := HH.at i (by omega)
        obtain rfl : y' = y := by rw [hyy] at hy'; injection hy' with hy'; exact hy'.symm
        have gy : ys.getD i 0 = y' := by rw [List.getD_eq_getElem?_getD, hyy]; rfl
        obtain ⟨at', hat⟩ : ∃ at' : Nat, y' - f = (at' : Int) := ⟨(y' - f).toNat, by omega⟩
        have hatn : at' < jz := by omega
        have hix : ix i f (ys, zz) = at' := by unfold ix; rw [gy]; omega
        have hml := mg_len i f jz ((dts l m Z).take j)
        have hvv := List.getElem?_eq_getElem (l := mg i f jz ((dts l m Z).take j)) (i := at') (by omega)
        obtain ⟨v, hv⟩ : ∃ v, (mg i f jz ((dts l m Z).take j))[at']? = some v := ⟨_, hvv⟩
        have hvb := mg_bd (i := i) (f := f) (n := jz) (L := (dts l m Z).take j) (fun x hx => HSW.out.2 x (List.mem_of_mem_take hx)) v (List.mem_of_getElem? hv)
        have hnx := sw_next hx
        have hs1 := sw_le (L := dts l m Z) (j + 1) HSW.out.2
        have hz0 := HSW.out.2 _ hmem
        have hs0 := HSW.out.1
        rw [hnx] at hs1
        simp only at hs1 hz0
        have HMG := Lib.hid (show mg i f jz ((dts l m Z).take (j + 1)) = (mg i f jz ((dts l m Z).take j)).set at' (v + zz) by
          rw [mg_next hx]
          unfold ms
          rw [hix, List.getD_eq_getElem?_getD, hv]
          rfl)
        have z3 : wr.cell? ⟨w1.heap.size, at', none⟩ = some (.int .i64 v) := by
          rw [HW.out.1.cellAt at' (by omega)]
          exact GivesI.ints_at hv
        have z4 := HW.out.1.frozenAt at'
        have hws : IntKind.i64.wrap (y' - f) = (at' : Int) := by rw [IntKind.wrap_i64]; omega
        have hwa : IntKind.i64.wrap (v + zz) = v + zz := by rw [IntKind.wrap_i64]; omega
        have hat1 : (at' : Int) < (jz : Int) := by omega
        have hat0 : ¬ (at' : Int) < 0 := by omega
        have hik : (i : Int) < (kk : Int) := by omega
        have hji : (j : Int) < (n : Int) := by omega
        have hj0 : (0 : Int) ≤ (j : Int) := by omega
        have hba := below_alloc wr (.cells #[.slice (some ⟨by_, oy, none⟩) kk cc, .int .i64 zz] 94)
        have z0 := box_first wr (.slice (some ⟨by_, oy, none⟩) kk cc) (.int .i64 zz) 94
        have z1 := box_second wr (.slice (some ⟨by_, oy, none⟩) kk cc) (.int .i64 zz) 94
        have x4' := (hba.cell (p := ⟨by_, oy + i, none⟩) (World.block_lt_of_cell? wr _ x4)).trans x4
        have z3' := (hba.cell (p := ⟨w1.heap.size, at', none⟩) (World.block_lt_of_cell? wr _ z3)).trans z3
        have z4' := (hba.frozen (p := ⟨w1.heap.size, at', none⟩) (World.block_lt_of_cell? wr _ z3)).trans z4
        have hsz := HW.out.2.2.size
        have HBA := Lib.hid (And.intro (ownsRow_below HW.out.1 hba) (And.intro (HW.out.2.1.below hba) (HW.out.2.2.trans (hba.mono hsz))))
        clear hkl hx x3 hmem hysl hyy hya hyb HH hy' gy hix hml hvv hv hnx hs1 hs0 hz0 hvb hba x4 z3 z4 hsz hat hatn
        go_wp2_with fail
        generalize wr.alloc (.cells #[.slice (some ⟨by_, oy, none⟩) kk cc, .int .i64 zz] 94) = V at *
        have k1 := cell_regrown z0
        have k2 := cell_regrown z1
        have k3 := cell_regrown x4'
        have k4 := cell_regrown z3'
        refine Qsw.region_at_p 14 (by kernel_rfl) (by kernel_rfl) ?_
        simp only [List.take_succ_cons, List.take_zero, List.drop_succ_cons, List.drop_zero]
        repeat (go_big_quiet_step (fail))

        refine wpQuiet_nil ?_
        intro _ hw'
        obtain ⟨⟨dq, osq⟩, hw''⟩ := hw'
        subst hw''
        have HBQ := Lib.hid (below_regrown V dq osq)
        have hgx := World.block_lt_of_cell? V _ z3'
        have z5 := (HBQ.out.cell (p := ⟨w1.heap.size, at', none⟩) hgx).trans z3'
        have z6 := (HBQ.out.frozen (p := ⟨w1.heap.size, at', none⟩) hgx).trans z4'
        have HBC := Lib.hid (And.intro (ownsRow_below HBA.out.1 HBQ.out) (And.intro (HBA.out.2.1.below HBQ.out) (HBA.out.2.2.trans (HBQ.out.mono HBA.out.2.2.size))))
        clear k1 k2 k3 k4 z0 z1 x4' z3' z4'
        generalize Sort.grow (redrawn V dq) osq = W5 at *
        have HF : Hid ((W5.setCell ⟨w1.heap.size, at', none⟩ (.int .i64 (v + zz))).ownsRow w1.heap.size 3 1 (.slice (some ⟨w1.heap.size, 0, none⟩) jz jz) jz (ints (mg i f jz ((dts l m Z).take (j + 1)))) ∧ OwnT (W5.setCell ⟨w1.heap.size, at', none⟩ (.int .i64 (v + zz))) (w1.heap.size + 1) (.slice (some ⟨g, 0, none⟩) n d) n (dts l m Z) ∧ Below w1.heap.size w1 (W5.setCell ⟨w1.heap.size, at', none⟩ (.int .i64 (v + zz)))) := by
          refine ⟨?_, own_put HBC.out.2.1 (a := ⟨w1.heap.size, at', none⟩) (Nat.lt_succ_self _) _, HBC.out.2.2.setCell (p := ⟨w1.heap.size, at', none⟩) (Nat.le_refl _) _⟩
          have h1 := (HBC.out.1.stored at' (.int .i64 (v + zz))).1
          rw [RdI.ints_set] at h1
          rw [HMG.out]
          exact h1
        go_wp2_with fail
        exact ⟨⟨j + 1, by omega, by go_num, HF⟩, by simp [intOf]; omega⟩
      · obtain rfl : j = n := by omega
        have hjj : ¬ (j : Int) < (j : Int) := by omega
        have HT : Hid ((dts l m Z).take j = dts l m Z) := List.take_of_length_le (by rw [← HL.out]; exact Nat.le_refl _)
        have HM2 := Lib.hid (show wr.ownsRow w1.heap.size 3 1 (.slice (some ⟨w1.heap.size, 0, none⟩) jz jz) jz (ints (mg i f jz (dts l m Z))) by have := HW.out.1; rwa [HT.out] at this)
        have HMB := Lib.hid (show ∀ x ∈ mg i f jz (dts l m Z), 0 ≤ x ∧ x ≤ 4611686018427387904 by
          intro x hx
          have h1 := mg_bd (i := i) (f := f) (n := jz) HSW.out.2 x hx
          have h2 := HSW.out.1
          omega)
        have HBX4 := Lib.hid (HBX1.out.below HW.out.2.2)
        have HBW := Lib.hid HW.out.2.2
        clear y0 y1 y2 y3
        go_wp2_with fail
        refine (RdI.reduced_any f (some ⟨w1.heap.size, 0, none⟩) jz jz (mg i f jz (dts l m Z)) wr (by omega) (by omega) (Nat.le_refl _) (GivesI.holds_own HM2.out) HMB.out).mono ?_
        rintro e w9 ⟨p3, k3, d3, rfl, o3, hk3, b3⟩
        rw [← HN.out] at o3
        rw [← HN.out]
        obtain ⟨y0, y1, y2, y3, ylt⟩ := HBX4.out.below b3
        have HBF := Lib.hid (HB1.out.trans ((HBW.out.trans (b3.mono HBW.out.size)).mono HB1.out.size))
        have HO3 := Lib.hid o3
        have hsz := HBW.out.size
        clear o3 b3
        go_wp2_with fail
        try simp only [Exit.inBlock, Exit.then]
        have O4 := ownsRow_setCell_below (ownsRow_setCell_below HO3.out (a := ⟨w.heap.size + 1, 0, none⟩) (by show w.heap.size + 1 < wr.heap.size; have := hBB.out; omega) (.int .i64 (r.getD (0, [])).1)) (a := ⟨w.heap.size + 1, 1, none⟩) (by show w.heap.size + 1 < wr.heap.size; have := hBB.out; omega) (.slice p3 k3 d3)
        have B4 := (HBF.out.setCell (p := ⟨w.heap.size + 1, 0, none⟩) (by show w.heap.size ≤ w.heap.size + 1; omega) (.int .i64 (r.getD (0, [])).1)).setCell (p := ⟨w.heap.size + 1, 1, none⟩) (by show w.heap.size ≤ w.heap.size + 1; omega) (.slice p3 k3 d3)
        have hbp := bx_put (w := w9) ⟨y0, y1, y2, y3, ylt⟩ (.int .i64 (r.getD (0, [])).1) (.slice p3 k3 d3)
        have c0 := hbp.c0
        have c1 := hbp.c1
        refine bodyPost_ret (v := .tuple #[.agg #[.int .i64 (r.getD (0, [])).1, .slice p3 k3 d3], .bool r.isSome]) (by simp [results, Try.results26, go_sem, c0, c1]) rfl ⟨p3, k3, d3, rfl, ownsRow_base O4 (by have := hBB.out; omega), hk3, B4⟩
  · have HN := Lib.hid (HR.out.trans (mdP_no fun h1 h2 => hall ⟨h1, h2⟩))
    have hbb : plB l m Z t = false := by
      unfold plB
      cases h1 : vd l m Z with
      | false => rfl
      | true =>
        cases h2 : (isAt l t).isSome with
        | false => rfl
        | true => exact absurd ⟨h1, h2⟩ hall
    rw [hbb]
    generalize plV l m Z t = va at *
    clear hall hbb
    go_wp2_with fail
    try simp only [Exit.inBlock, Exit.then]
    have hbp := bx_put HBX1.out (.int .i64 0) (.slice none 0 0)
    have c0 := hbp.c0
    have c1 := hbp.c1
    have B4 := (HB1.out.setCell (p := ⟨w.heap.size + 1, 0, none⟩) (by show w.heap.size ≤ w.heap.size + 1; omega) (.int .i64 0)).setCell (p := ⟨w.heap.size + 1, 1, none⟩) (by show w.heap.size ≤ w.heap.size + 1; omega) (.slice none 0 0)
    refine bodyPost_ret (v := .tuple #[.agg #[.int .i64 0, .slice none 0 0], .bool false]) (by simp [results, Try.results26, go_sem, c0, c1]) rfl ⟨none, 0, 0, by rw [HN.out]; rfl, by rw [HN.out]; exact World.ownsRow_nil _ _ _ _, by omega, B4⟩
end Go.Proofs.Ytfbgekhkbbhggaa.MgI

namespace Go.Proofs.Ytfbgekhkbbhggaa.MgS
open Go Go.RowKit Pairs Rec Keep GivesI Zh Dr DvM ChM ChE GoodM Find2 CnM CeM MgM RdM Di ShI
set_option linter.unusedVariables false
set_option maxRecDepth 100000 in
set_option maxHeartbeats 8000000 in
theorem spec_any (a1 a2 a3 : Option Addr) (n1 c1 n2 c2 n3 c3 : Nat) (l m : List (Int × Int)) (Z : List Zh.Pt) (t : Int) (w : World) (h : Arg w a1 n1 a2 n2 a3 n3 l m Z) :
    Calls Try.prog 25 #[.agg #[.slice a1 n1 c1, .slice a2 n2 c2, .slice a3 n3 c3], .int .i64 t] w (ResZ (mdP l m Z t).isSome ((mdP l m Z t).getD (0, [])).1 ((mdP l m Z t).getD (0, [])).2 w) := by
  obtain ⟨i0, hi, hy0, hy1, hy2⟩ := info_parts IntT.infoI
  have hb := below_alloc2 w (.cells #[.slice a1 n1 c1, .slice a2 n2 c2, .slice a3 n3 c3] 37) (.cells #[.int .i64 0, .slice none 0 0] 50)
  have hb1 := below_alloc (w.alloc (.cells #[.slice a1 n1 c1, .slice a2 n2 c2, .slice a3 n3 c3] 37)) (.cells #[.int .i64 0, .slice none 0 0] 50)
  obtain ⟨f1, f2, f3⟩ := box3 w (.slice a1 n1 c1) (.slice a2 n2 c2) (.slice a3 n3 c3) 37
  have hlt0 : w.heap.size < (w.alloc (.cells #[.slice a1 n1 c1, .slice a2 n2 c2, .slice a3 n3 c3] 37)).heap.size := by simp
  have f1 := (hb1.cell (p := ⟨w.heap.size, 0, none⟩) hlt0).trans f1
  have f2 := (hb1.cell (p := ⟨w.heap.size, 1, none⟩) hlt0).trans f2
  have f3 := (hb1.cell (p := ⟨w.heap.size, 2, none⟩) hlt0).trans f3
  have BX := bx_new (w.alloc (.cells #[.slice a1 n1 c1, .slice a2 n2 c2, .slice a3 n3 c3] 37)) (.int .i64 0) (.slice none 0 0) 50
  rw [show (w.alloc (.cells #[.slice a1 n1 c1, .slice a2 n2 c2, .slice a3 n3 c3] 37)).heap.size = w.heap.size + 1 by simp] at BX
  have H := Lib.hid (h.below hb)
  have HB := Lib.hid hb
  have HBX := Lib.hid BX
  have HL3 := Lib.hid h.h3.1
  have s3 := h.s3
  clear h hb hb1 hlt0 BX
  obtain ⟨r, hr⟩ : ∃ r, r = mdP l m Z t := ⟨_, rfl⟩
  rw [← hr]
  have HR := Lib.hid hr
  clear hr
  go_enter Try.func25, Try.ntmps25
  go_wp2_with fail
  generalize (w.alloc (.cells #[.slice a1 n1 c1, .slice a2 n2 c2, .slice a3 n3 c3] 37)).alloc (.cells #[.int .i64 0, .slice none 0 0] 50) = W at *
  have hlt := World.block_lt_of_cell? W _ f1
  refine (VdS.good_any a1 a2 a3 n1 c1 n2 c2 n3 c3 l m Z W H.out).mono ?_
  rintro e w0 ⟨rfl, b1⟩
  have g1 := (b1.cell (p := ⟨w.heap.size, 0, none⟩) hlt).trans f1
  have g2 := (b1.cell (p := ⟨w.heap.size, 1, none⟩) hlt).trans f2
  have g3 := (b1.cell (p := ⟨w.heap.size, 2, none⟩) hlt).trans f3
  have H1 := Lib.hid (H.out.below b1)
  have HB1 := Lib.hid (HB.out.trans (b1.mono HB.out.size))
  have HBX1 := Lib.hid (HBX.out.below b1)
  have hlt1 := Nat.lt_of_lt_of_le hlt b1.size
  clear b1 f1 f2 f3 hlt H HB HBX
  have y0 := HBX1.out.c0
  have y1 := HBX1.out.c1
  have y2 := HBX1.out.f0
  have y3 := HBX1.out.f1
  cases hg : vd l m Z with
  | false =>
    have HN := Lib.hid (HR.out.trans (mdP_no fun h1 _ => by rw [hg] at h1; cases h1))
    clear hg
    go_wp2_with fail
    try simp only [Exit.inBlock, Exit.then]
    have hbp := bx_put HBX1.out (.int .i64 0) (.slice none 0 0)
    have c0 := hbp.c0
    have c1 := hbp.c1
    have B4 := (HB1.out.setCell (p := ⟨w.heap.size + 1, 0, none⟩) (by show w.heap.size ≤ w.heap.size + 1; omega) (.int .i64 0)).setCell (p := ⟨w.heap.size + 1, 1, none⟩) (by show w.heap.size ≤ w.heap.size + 1; omega) (.slice none 0 0)
    refine bodyPost_ret (v := .tuple #[.agg #[.int .i64 0, .slice none 0 0], .bool false]) (by simp [results, Try.results25, go_sem, c0, c1]) rfl ⟨none, 0, 0, by rw [HN.out]; rfl, by rw [HN.out]; exact World.ownsRow_nil _ _ _ _, by omega, B4⟩
  | true =>
    have HV := Lib.hid (vd_iff.1 hg)
    go_wp2_with fail
    refine (l2Find_any a1 a2 n1 c1 n2 c2 l t w0 (by have := H1.out.s1; omega) H1.out.h1).mono ?_
    rintro e w1 ⟨rfl, b1⟩
    have g1 := (b1.cell (p := ⟨w.heap.size, 0, none⟩) hlt1).trans g1
    have g2 := (b1.cell (p := ⟨w.heap.size, 1, none⟩) hlt1).trans g2
    have g3 := (b1.cell (p := ⟨w.heap.size, 2, none⟩) hlt1).trans g3
    have H1 := Lib.hid (H1.out.below b1)
    have HB1 := Lib.hid (HB1.out.trans (b1.mono HB1.out.size))
    have HBX1 := Lib.hid (HBX1.out.below b1)
    have hlt1 := Nat.lt_of_lt_of_le hlt1 b1.size
    clear b1 y0 y1 y2 y3
    have y0 := HBX1.out.c0
    have y1 := HBX1.out.c1
    have y2 := HBX1.out.f0
    have y3 := HBX1.out.f1
    cases hia : isAt l t with
    | none =>
      have HN := Lib.hid (HR.out.trans (mdP_no fun _ h2 => by rw [hia] at h2; cases h2))
      rw [find_none hia]
      clear hia
      clear hg
      go_wp2_with fail
      try simp only [Exit.inBlock, Exit.then]
      have hbp := bx_put HBX1.out (.int .i64 0) (.slice none 0 0)
      have c0 := hbp.c0
      have c1 := hbp.c1
      have B4 := (HB1.out.setCell (p := ⟨w.heap.size + 1, 0, none⟩) (by show w.heap.size ≤ w.heap.size + 1; omega) (.int .i64 0)).setCell (p := ⟨w.heap.size + 1, 1, none⟩) (by show w.heap.size ≤ w.heap.size + 1; omega) (.slice none 0 0)
      refine bodyPost_ret (v := .tuple #[.agg #[.int .i64 0, .slice none 0 0], .bool false]) (by simp [results, Try.results25, go_sem, c0, c1]) rfl ⟨none, 0, 0, by rw [HN.out]; rfl, by rw [HN.out]; exact World.ownsRow_nil _ _ _ _, by omega, B4⟩
    | some i =>
      rw [find_some hia]
      have hin := (isAt_nb hia).1
      rw [← HV.out.len, HL3.out] at hin
      have hii : (i : Int) < (n3 : Int) := by omega
      have hi0 : (0 : Int) ≤ (i : Int) := by omega
      have hni : ¬ (i : Int) < 0 := by omega
      go_wp2_with fail
      refine (l2Find_any a1 a2 n1 c1 n2 c2 l t w1 (by have := H1.out.s1; omega) H1.out.h1).mono ?_
      rintro e w2 ⟨rfl, b1⟩
      rw [find_some hia]
      have g1 := (b1.cell (p := ⟨w.heap.size, 0, none⟩) hlt1).trans g1
      have g2 := (b1.cell (p := ⟨w.heap.size, 1, none⟩) hlt1).trans g2
      have g3 := (b1.cell (p := ⟨w.heap.size, 2, none⟩) hlt1).trans g3
      have H1 := Lib.hid (H1.out.below b1)
      have HB1 := Lib.hid (HB1.out.trans (b1.mono HB1.out.size))
      have HBX1 := Lib.hid (HBX1.out.below b1)
      have hlt1 := Nat.lt_of_lt_of_le hlt1 b1.size
      clear b1 y0 y1 y2 y3
      obtain ⟨b, off, f, M, q, jz, cz, rfl, hx, e1, e2, hM⟩ := H1.out.h3.at i hin
      have HN := Lib.hid (HR.out.trans (mdP_yes hg hia hx))
      have hod := okZ_mem HV.out.each (List.mem_of_getElem? hx)
      have hlo := (okD_iff.1 hod).lo
      have hhi := (okD_iff.1 hod).hi
      have hlen := (okD_iff.1 hod).len
      have hpos := (okD_iff.1 hod).pos
      simp only at hlo hhi hlen hpos
      have hjz : M.length = jz := hM.1
      rw [hjz] at hhi hlen hpos HN
      have HX := Lib.hid hx
      have HYR := Lib.hid (fun x (hxx : x ∈ al l m Z) => al_year HV.out.each hxx hx)
      have HJZ := Lib.hid hjz
      have hcp := (pos_of_okZ HV.out.each).1
      have hcm := HV.out.many
      obtain ⟨N, hN⟩ : ∃ N : Nat, cnt Z = (N : Int) := ⟨(cnt Z).toNat, by omega⟩
      have HCN := Lib.hid hN
      have hNm : N ≤ 5000 := by omega
      have HAL := Lib.hid (show (al l m Z).length = N by rw [al_len HV.out.each, hN]; simp)
      have HNN := Lib.hid (show (cnt Z).toNat = N by rw [hN]; simp)
      have HSW := Lib.hid (show sw (al l m Z) ≤ 1000000000000000 ∧ ∀ x ∈ al l m Z, 0 ≤ x.2 from ⟨sw_al HV.out, fun x hx => (al_bd HV.out x hx).1⟩)
      clear hcp hcm hN hg hia hx hM hod hjz
      have hBB := Lib.hid (show w.heap.size + 2 ≤ w2.heap.size by have := HBX1.out.lt; omega)
      have HG := Lib.hid (And.intro g1 (And.intro g2 g3))
      go_wp2_with (at_make; refine wpList_make_full _ rfl _ _ 41 rfl w2.heap.size 3 i0 (.int .i64 0) 1 Try.underlying41 hi hy0 hy1 .i64 .i64 _ _ jz rfl rfl (by omega) (by omega) (by rw [hy2]; omega) (by unfold maxLen; omega) (Nat.le_refl _) ?_; intro w5 hown hgrow; have g1 := (World.cell?_of_block (hgrow.block w.heap.size hlt1 (by intro e; cases e))).trans g1; have g2 := (World.cell?_of_block (hgrow.block w.heap.size hlt1 (by intro e; cases e))).trans g2; have g3 := (World.cell?_of_block (hgrow.block w.heap.size hlt1 (by intro e; cases e))).trans g3; have HOG := Lib.hid (And.intro hown hgrow); clear hown hgrow)
      have hown := HOG.out.1
      have hB5 : Below w2.heap.size w2 w5 := (Below.refl _ _).grown HOG.out.2 (Nat.le_refl _) (fun k hk => by cases hk)
      have HO5 : Hid (w5.ownsRow w2.heap.size 3 1 (.slice (some ⟨w2.heap.size, 0, none⟩) jz jz) jz (ints (List.replicate jz 0))) := by
        unfold Hid
        have e : ints (List.replicate jz 0) = List.replicate jz (Value.int .i64 0) := by unfold ints; rw [List.map_replicate]
        rw [e, ← YnS.made_zeros jz]
        exact hown
      have HB5 := Lib.hid hB5
      clear hown HOG hB5
      go_loopw [8] (fun s8 wr => ∃ (j : Nat), j ≤ N ∧ s8 = .int .i64 j ∧ Hid (wr.ownsRow w2.heap.size 3 1 (.slice (some ⟨w2.heap.size, 0, none⟩) jz jz) jz (ints (mg i f jz ((al l m Z).take j))) ∧ Below w2.heap.size w2 wr)) (fun s8 _ => N - (intOf s8).toNat)
      case atStart => exact ⟨0, Nat.zero_le _, rfl, HO5.out, HB5.out⟩
      case round =>
        obtain ⟨j, hj, rfl, HW⟩ := hrel
        clear g1 g2 g3
        have q1 := (HW.out.2.cell (p := ⟨w.heap.size, 0, none⟩) hlt1).trans HG.out.1
        have q2 := (HW.out.2.cell (p := ⟨w.heap.size, 1, none⟩) hlt1).trans HG.out.2.1
        have q3 := (HW.out.2.cell (p := ⟨w.heap.size, 2, none⟩) hlt1).trans HG.out.2.2
        go_wp2_with fail
        refine (MnS.many_any a1 a2 (some ⟨b, off, none⟩) n1 c1 n2 c2 n3 c3 l m Z wr (H1.out.below HW.out.2) HV.out).mono ?_
        rintro e w3 ⟨rfl, b3⟩
        rw [HCN.out]
        have q1 := (b3.cell (p := ⟨w.heap.size, 0, none⟩) (World.block_lt_of_cell? wr _ q1)).trans q1
        have q2 := (b3.cell (p := ⟨w.heap.size, 1, none⟩) (World.block_lt_of_cell? wr _ q2)).trans q2
        have q3 := (b3.cell (p := ⟨w.heap.size, 2, none⟩) (World.block_lt_of_cell? wr _ q3)).trans q3
        have HW3 := Lib.hid (And.intro (ownsRow_below HW.out.1 b3) (HW.out.2.trans (b3.mono HW.out.2.size)))
        clear b3
        by_cases hjn : j < N
        · have hx := al_at (l := l) (m := m) HV.out.each (n := j) (by rw [HNN.out]; exact hjn)
          have hmem := List.mem_of_getElem? hx
          obtain ⟨y, hyy, hya, hyb⟩ := HYR.out _ hmem
          simp only at hyy hya hyb
          rw [HJZ.out] at hyb
          have gy : (dig Z j).getD i 0 = y := by rw [List.getD_eq_getElem?_getD, hyy]; rfl
          obtain ⟨at', hat⟩ : ∃ at' : Nat, y - f = (at' : Int) := ⟨(y - f).toNat, by omega⟩
          have hatn : at' < jz := by omega
          have hix : ix i f (dig Z j, wt l m Z (dig Z j)) = at' := by unfold ix; rw [gy]; omega
          have hml := mg_len i f jz ((al l m Z).take j)
          have hvv := List.getElem?_eq_getElem (l := mg i f jz ((al l m Z).take j)) (i := at') (by omega)
          obtain ⟨v, hv⟩ : ∃ v, (mg i f jz ((al l m Z).take j))[at']? = some v := ⟨_, hvv⟩
          have hvb := mg_bd (i := i) (f := f) (n := jz) (L := (al l m Z).take j) (fun x hx => HSW.out.2 x (List.mem_of_mem_take hx)) v (List.mem_of_getElem? hv)
          have hnx := sw_next hx
          have hs1 := sw_le (L := al l m Z) (j + 1) HSW.out.2
          have hz0 := HSW.out.2 _ hmem
          have hs0 := HSW.out.1
          rw [hnx] at hs1
          simp only at hs1 hz0
          have HMG := Lib.hid (show mg i f jz ((al l m Z).take (j + 1)) = (mg i f jz ((al l m Z).take j)).set at' (v + wt l m Z (dig Z j)) by
            rw [mg_next hx]
            unfold ms
            rw [hix, List.getD_eq_getElem?_getD, hv]
            rfl)
          have HVV := Lib.hid hv
          have HYY := Lib.hid hyy
          have hws : IntKind.i64.wrap (y - f) = (at' : Int) := by rw [IntKind.wrap_i64]; omega
          have hat1 : (at' : Int) < (jz : Int) := by omega
          have hat0 : ¬ (at' : Int) < 0 := by omega
          have hji : (j : Int) < (N : Int) := by omega
          have hzl : i < Z.length := by rw [HL3.out]; exact hin
          have hil : (i : Int) < (Z.length : Int) := by omega
          obtain ⟨b9, off9, f9, M9, q9, jz9, cz9, hbb, hx9, e7, e8, hM9⟩ := (H1.out.h3.below HW3.out.2).at i hin
          injection hbb with hbb
          injection hbb with hbb hoo
          subst hbb hoo
          rw [HX.out] at hx9
          injection hx9 with hx9
          injection hx9 with hf9 hm9
          subst hf9
          clear hx hmem hyy hya hyb gy hix hml hvv hv hnx hM9 hm9 hat hatn
          go_wp2_with fail
          refine (YnS.years_any a1 a2 (some ⟨b, off, none⟩) n1 c1 n2 c2 n3 c3 l m Z j w3 (H1.out.below HW3.out.2) HV.out.each (by omega)).mono ?_
          rintro e w4 ⟨gv, rfl, ov, b4⟩
          have q1 := (b4.cell (p := ⟨w.heap.size, 0, none⟩) (World.block_lt_of_cell? w3 _ q1)).trans q1
          have q2 := (b4.cell (p := ⟨w.heap.size, 1, none⟩) (World.block_lt_of_cell? w3 _ q2)).trans q2
          have q3 := (b4.cell (p := ⟨w.heap.size, 2, none⟩) (World.block_lt_of_cell? w3 _ q3)).trans q3
          have e7 := (b4.cell (p := ⟨b, off + i * 2, none⟩) (World.block_lt_of_cell? w3 _ e7)).trans e7
          have HW4 := Lib.hid (And.intro (ownsRow_below HW3.out.1 b4) (HW3.out.2.trans (b4.mono HW3.out.2.size)))
          have HOV := Lib.hid (GivesI.holds_own ov)
          have e9 : w4.cell? ⟨gv, i, none⟩ = some (.int .i64 y) := by
            rw [ov.cellAt i (by omega)]
            exact GivesI.ints_at HYY.out
          clear b4 ov e8
          go_wp2_with fail
          have k3 := cell_regrown q3
          have k4 := cell_regrown e7
          have k5 := cell_regrown e9
          refine wp_region_quiet_below (by kernel_rfl) (by kernel_rfl) ?_
          repeat (go_big_quiet_step (fail))
          refine wpQuiet_nil ?_
          intro _ hw'
          obtain ⟨⟨dq, osq⟩, hw''⟩ := hw'
          subst hw''
          have HBQ := Lib.hid (below_regrown w4 dq osq)
          have q1 := (HBQ.out.cell (p := ⟨w.heap.size, 0, none⟩) (World.block_lt_of_cell? w4 _ q1)).trans q1
          have q2 := (HBQ.out.cell (p := ⟨w.heap.size, 1, none⟩) (World.block_lt_of_cell? w4 _ q2)).trans q2
          have q3 := (HBQ.out.cell (p := ⟨w.heap.size, 2, none⟩) (World.block_lt_of_cell? w4 _ q3)).trans q3
          have HW5 := Lib.hid (And.intro (ownsRow_below HW4.out.1 HBQ.out) (HW4.out.2.trans (HBQ.out.mono HW4.out.2.size)))
          have HOV5 := Lib.hid (HOV.out.below HBQ.out)
          clear k3 k4 k5 e7 e9
          generalize Sort.grow (redrawn w4 dq) osq = W5 at *
          have z3 : W5.cell? ⟨w2.heap.size, at', none⟩ = some (.int .i64 v) := by
            rw [HW5.out.1.cellAt at' (by omega)]
            exact GivesI.ints_at HVV.out
          have z4 := HW5.out.1.frozenAt at'
          have cW : ∀ d os, Calls Try.prog 60 #[.agg #[.slice a1 n1 c1, .slice a2 n2 c2, .slice (some ⟨b, off, none⟩) n3 c3], .slice (some ⟨gv, 0, none⟩) Z.length Z.length] (Sort.grow (redrawn W5 d) os) fun e w'' => e = .returned (.int .i64 (wt l m Z (dig Z j))) ∧ ∃ p : Regrown, w'' = Sort.grow (redrawn W5 p.d) p.os := fun d os => Calls.regrown_of (WgtS.weight_any a1 a2 (some ⟨b, off, none⟩) n1 c1 n2 c2 n3 c3 l m Z (some ⟨gv, 0, none⟩) Z.length Z.length (dig Z j) _ ((H1.out.below HW5.out.2).below (below_regrown W5 d os)) HV.out (HOV5.out.below (below_regrown W5 d os)) HL3.out)
          obtain ⟨u, hu⟩ : ∃ u, u = wt l m Z (dig Z j) := ⟨_, rfl⟩
          rw [← hu] at cW HMG hz0 hs1
          clear hu
          have hwa : IntKind.i64.wrap (v + u) = v + u := by rw [IntKind.wrap_i64]; omega
          go_wp2_with fail
          have k1 := cell_regrown q1
          have k2 := cell_regrown q2
          have k3 := cell_regrown q3
          have k4 := cell_regrown z3
          refine Qsw.region_at_p 11 (by kernel_rfl) (by kernel_rfl) ?_
          simp only [List.take_succ_cons, List.take_zero, List.drop_succ_cons, List.drop_zero]
          repeat (go_big_quiet_step ((go_at_call 60; exact cW _ _)))
          refine wpQuiet_nil ?_
          intro _ hw'
          obtain ⟨⟨dr, osr⟩, hw''⟩ := hw'
          subst hw''
          have HBR := Lib.hid (below_regrown W5 dr osr)
          have hgx := World.block_lt_of_cell? W5 _ z3
          have z5 := (HBR.out.cell (p := ⟨w2.heap.size, at', none⟩) hgx).trans z3
          have z6 := (HBR.out.frozen (p := ⟨w2.heap.size, at', none⟩) hgx).trans z4
          have HW6 := Lib.hid (And.intro (ownsRow_below HW5.out.1 HBR.out) (HW5.out.2.trans (HBR.out.mono HW5.out.2.size)))
          clear k1 k2 k3 k4 cW z3 z4 q1 q2 q3
          generalize Sort.grow (redrawn W5 dr) osr = W6 at *
          have HF : Hid ((W6.setCell ⟨w2.heap.size, at', none⟩ (.int .i64 (v + u))).ownsRow w2.heap.size 3 1 (.slice (some ⟨w2.heap.size, 0, none⟩) jz jz) jz (ints (mg i f jz ((al l m Z).take (j + 1)))) ∧ Below w2.heap.size w2 (W6.setCell ⟨w2.heap.size, at', none⟩ (.int .i64 (v + u)))) := by
            refine ⟨?_, HW6.out.2.setCell (p := ⟨w2.heap.size, at', none⟩) (Nat.le_refl _) _⟩
            have h1 := (HW6.out.1.stored at' (.int .i64 (v + u))).1
            rw [RdI.ints_set] at h1
            rw [HMG.out]
            exact h1
          go_wp2_with fail
          exact ⟨⟨j + 1, by omega, by go_num, HF⟩, by simp [intOf]; omega⟩
        · obtain rfl : j = N := by omega
          have hjj : ¬ (j : Int) < (j : Int) := by omega
          have HT : Hid ((al l m Z).take j = al l m Z) := List.take_of_length_le (by rw [HAL.out]; exact Nat.le_refl _)
          have HMM : Hid (mg i f jz (al l m Z) = mg i f jz (dts l m Z)) := by
            unfold Hid
            rw [dts_is HV.out]
            exact (mg_ps HSW.out.2).symm
          have HM2 := Lib.hid (show w3.ownsRow w2.heap.size 3 1 (.slice (some ⟨w2.heap.size, 0, none⟩) jz jz) jz (ints (mg i f jz (dts l m Z))) by have := HW3.out.1; rwa [HT.out, HMM.out] at this)
          have HMB := Lib.hid (show ∀ x ∈ mg i f jz (dts l m Z), 0 ≤ x ∧ x ≤ 4611686018427387904 by
            intro x hx
            rw [← HMM.out] at hx
            have h1 := mg_bd (i := i) (f := f) (n := jz) HSW.out.2 x hx
            have h2 := HSW.out.1
            omega)
          have HBX4 := Lib.hid (HBX1.out.below HW3.out.2)
          have HBW := Lib.hid HW3.out.2
          have hil : (i : Int) < (n3 : Int) := by omega
          obtain ⟨b9, off9, f9, M9, q9, jz9, cz9, hbb, hx9, e7, e8, hM9⟩ := (H1.out.h3.below HW3.out.2).at i hin
          injection hbb with hbb
          injection hbb with hbb hoo
          subst hbb hoo
          rw [HX.out] at hx9
          injection hx9 with hx9
          injection hx9 with hf9 hm9
          subst hf9
          clear hM9 hm9 e8
          go_wp2_with fail
          refine (RdS.make_any f (some ⟨w2.heap.size, 0, none⟩) jz jz (mg i f jz (dts l m Z)) w3 (by omega) (by omega) (GivesI.holds_own HM2.out) HMB.out).mono ?_
          rintro e w9 ⟨p3, k3, d3, rfl, o3, hk3, b3⟩
          rw [← HN.out] at o3
          rw [← HN.out]
          obtain ⟨y0, y1, y2, y3, ylt⟩ := HBX4.out.below b3
          have HBF := Lib.hid (HB1.out.trans ((HBW.out.trans (b3.mono HBW.out.size)).mono HB1.out.size))
          have HO3 := Lib.hid o3
          have hsz := HBW.out.size
          clear o3 b3
          go_wp2_with fail
          try simp only [Exit.inBlock, Exit.then]
          have O4 := ownsRow_setCell_below (ownsRow_setCell_below HO3.out (a := ⟨w.heap.size + 1, 0, none⟩) (by show w.heap.size + 1 < w3.heap.size; have := hBB.out; omega) (.int .i64 (r.getD (0, [])).1)) (a := ⟨w.heap.size + 1, 1, none⟩) (by show w.heap.size + 1 < w3.heap.size; have := hBB.out; omega) (.slice p3 k3 d3)
          have B4 := (HBF.out.setCell (p := ⟨w.heap.size + 1, 0, none⟩) (by show w.heap.size ≤ w.heap.size + 1; omega) (.int .i64 (r.getD (0, [])).1)).setCell (p := ⟨w.heap.size + 1, 1, none⟩) (by show w.heap.size ≤ w.heap.size + 1; omega) (.slice p3 k3 d3)
          have hbp := bx_put (w := w9) ⟨y0, y1, y2, y3, ylt⟩ (.int .i64 (r.getD (0, [])).1) (.slice p3 k3 d3)
          have c0 := hbp.c0
          have c1 := hbp.c1
          refine bodyPost_ret (v := .tuple #[.agg #[.int .i64 (r.getD (0, [])).1, .slice p3 k3 d3], .bool r.isSome]) (by simp [results, Try.results25, go_sem, c0, c1]) rfl ⟨p3, k3, d3, rfl, ownsRow_base O4 (by have := hBB.out; omega), hk3, B4⟩
end Go.Proofs.Ytfbgekhkbbhggaa.MgS

namespace Go.Proofs.Ytfbgekhkbbhggaa.WMarginalDate
open Go.ChangeShapes Go.WideShapes Go.ChangeAt Go.RowKit
open Pairs Rec RecEq RecOpen
set_option linter.unusedVariables false
set_option maxRecDepth 100000 in
set_option maxHeartbeats 16000000 in
theorem walk (F : List (Int × Int) → List (Int × Int) → List Zh.Pt → Int → Option (Int × List Int)) (hI : ∀ (a1 a2 a3 : Option Addr) (n1 n2 n3 : Nat) (l m : List (Int × Int)) (Z : List Zh.Pt) (y0 : Int) (w : World), Dr.Arg w a1 n1 a2 n2 a3 n3 l m Z → Calls Try.prog 26 #[.agg #[.slice a1 n1 n1, .slice a2 n2 n2, .slice a3 n3 n3], .int .i64 y0] w (Di.ResZ (F l m Z y0).isSome ((F l m Z y0).getD (0, [])).1 ((F l m Z y0).getD (0, [])).2 w)) (hM : ∀ (a1 a2 a3 : Option Addr) (n1 n2 n3 : Nat) (l m : List (Int × Int)) (Z : List Zh.Pt) (y0 : Int) (w : World), Dr.Arg w a1 n1 a2 n2 a3 n3 l m Z → Calls Try.prog 25 #[.agg #[.slice a1 n1 n1, .slice a2 n2 n2, .slice a3 n3 n3], .int .i64 y0] w (Di.ResZ (F l m Z y0).isSome ((F l m Z y0).getD (0, [])).1 ((F l m Z y0).getD (0, [])).2 w)) (a1 a2 a3 : Option Addr) (n1 c1 n2 c2 n3 c3 : Nat) (l m : List (Int × Int)) (Z : List Zh.Pt) (y0 : Int) (w : World) (ny1 : n1 ≤ 9223372036854775807) (ny2 : n2 ≤ 9223372036854775807) (ny3 : n3 ≤ 9223372036854775807) (H1 : Holds w a1 n1 l) (H2 : Holds w a2 n2 m) (H3 : Zh.HoldsZ w a3 n3 Z) (H4 : Zh.Sm Z 9223372036854775807) :
    Calls Try.prog 6 #[.agg #[.slice a1 n1 c1, .slice a2 n2 c2, .slice a3 n3 c3], .int .i64 y0] w fun e w' => e = .returned (.bool true) ∧ Below w.heap.size w w' := by
  have hI1 := fun (q1 q2 q3 : Option Addr) (w : World) hA => hI q1 q2 q3 n1 n2 n3 l m Z y0 w hA
  have hM1 := fun (q1 q2 q3 : Option Addr) (w : World) hA => hM q1 q2 q3 n1 n2 n3 l m Z y0 w hA
  clear hI hM
  generalize (F l m Z y0).isSome = ok at hI1 hM1
  generalize ((F l m Z y0).getD (0, [])).1 = fr at hI1 hM1
  generalize ((F l m Z y0).getD (0, [])).2 = A at hI1 hM1
  have HI := Lib.hid hI1
  have HM := Lib.hid hM1
  clear hI1 hM1
  have HH1 := Lib.hid H1
  have HH2 := Lib.hid H2
  have HH3 := Lib.hid H3
  have K1 := Lib.hid H1
  have K2 := Lib.hid H2
  have K3 := Lib.hid H3
  have K4 := Lib.hid H4
  clear H1 H2 H3 H4
  have HB := Lib.hid (Below.refl w.heap.size w)
  go_enter Try.func6, Try.ntmps6
  have b := below_alloc w (.cells #[.slice a1 n1 c1, .slice a2 n2 c2, .slice a3 n3 c3] 28)
  obtain ⟨f1, f2, f3⟩ := Dr.box3 w (.slice a1 n1 c1) (.slice a2 n2 c2) (.slice a3 n3 c3) 28
  have fl : w.heap.size < (w.alloc (.cells #[.slice a1 n1 c1, .slice a2 n2 c2, .slice a3 n3 c3] 28)).heap.size := by simp
  replace K1 := Lib.hid (K1.out.below b)
  replace K2 := Lib.hid (K2.out.below b)
  replace K3 := Lib.hid (K3.out.below b)
  replace HB := Lib.hid (HB.out.trans (b.mono HB.out.size))
  clear b
  go_wp2_with fail
  generalize w.alloc (.cells #[.slice a1 n1 c1, .slice a2 n2 c2, .slice a3 n3 c3] 28) = W at *
  refine (Dr.szDR_any a1 a2 a3 n1 c1 n2 c2 n3 c3 Z ny1 ny2 ny3 _ K3.out K4.out).mono ?_
  rintro e w1 ⟨r, rfl, hr, b⟩
  replace f1 := (b.cell (p := ⟨w.heap.size, 0, none⟩) fl).trans f1
  replace f2 := (b.cell (p := ⟨w.heap.size, 1, none⟩) fl).trans f2
  replace f3 := (b.cell (p := ⟨w.heap.size, 2, none⟩) fl).trans f3
  replace fl := Nat.lt_of_lt_of_le fl b.size
  replace K1 := Lib.hid (K1.out.below b)
  replace K2 := Lib.hid (K2.out.below b)
  replace K3 := Lib.hid (K3.out.below b)
  replace HB := Lib.hid (HB.out.trans (b.mono HB.out.size))
  clear b
  rcases hr with hr | ⟨hr0, hr1, hn1, hn2, hn3, hSm, hT⟩
  · go_wp2_with fail
    go_ret
    exact ⟨rfl, HB.out⟩
  have hrn : ¬ r < 0 := by omega
  have K := Lib.hid (show Dr.Arg w1 a1 n1 a2 n2 a3 n3 l m Z from ⟨hn1, hn2, hn3, K1.out, K2.out, K3.out, hSm⟩)
  have H0 := Lib.hid (show Dr.Arg w a1 n1 a2 n2 a3 n3 l m Z from ⟨hn1, hn2, hn3, HH1.out, HH2.out, HH3.out, hSm⟩)
  have HZ := Lib.hid (show Z.length = n3 from K3.out.1)
  have HT := Lib.hid hT
  clear hSm hT K1 K2 K3 K4 HH1 HH2 HH3 hr0 hr1
  go_wp2_with fail
  refine (Dr.toDR_any a1 a2 a3 n1 c1 n2 c2 n3 c3 l m Z _ K.out).mono ?_
  rintro e w2 ⟨gm1, gm2, gm3, rfl, o, b⟩
  have Gm := Lib.hid (o.arg HZ.out K.out.s1 K.out.s2 K.out.s3 K.out.sm)
  clear o
  replace f1 := (b.cell (p := ⟨w.heap.size, 0, none⟩) fl).trans f1
  replace f2 := (b.cell (p := ⟨w.heap.size, 1, none⟩) fl).trans f2
  replace f3 := (b.cell (p := ⟨w.heap.size, 2, none⟩) fl).trans f3
  replace fl := Nat.lt_of_lt_of_le fl b.size
  replace K := Lib.hid (K.out.below b)
  replace HB := Lib.hid (HB.out.trans (b.mono HB.out.size))
  clear b
  go_wp2_with fail
  refine (HM.out _ _ _ _ Gm.out).mono ?_
  rintro e w3 ⟨pW, kW, dW, rfl, o, hkW, b⟩
  have ow1 := Lib.hid (fun b hb => (Di.own_bd o b hb).2)
  have OW := Lib.hid o
  clear o
  replace f1 := (b.cell (p := ⟨w.heap.size, 0, none⟩) fl).trans f1
  replace f2 := (b.cell (p := ⟨w.heap.size, 1, none⟩) fl).trans f2
  replace f3 := (b.cell (p := ⟨w.heap.size, 2, none⟩) fl).trans f3
  replace fl := Nat.lt_of_lt_of_le fl b.size
  replace K := Lib.hid (K.out.below b)
  replace Gm := Lib.hid (Gm.out.below b)
  replace HB := Lib.hid (HB.out.trans (b.mono HB.out.size))
  clear b
  clear Gm
  have b := below_alloc w3 (.cells #[.int .i64 fr, .slice pW kW dW] 50)
  have x1 := box_first w3 (.int .i64 fr) (.slice pW kW dW) 50
  have x2 := box_second w3 (.int .i64 fr) (.slice pW kW dW) 50
  have xl : w3.heap.size < (w3.alloc (.cells #[.int .i64 fr, .slice pW kW dW] 50)).heap.size := by simp
  replace f1 := (b.cell (p := ⟨w.heap.size, 0, none⟩) fl).trans f1
  replace f2 := (b.cell (p := ⟨w.heap.size, 1, none⟩) fl).trans f2
  replace f3 := (b.cell (p := ⟨w.heap.size, 2, none⟩) fl).trans f3
  replace fl := Nat.lt_of_lt_of_le fl b.size
  replace K := Lib.hid (K.out.below b)
  replace OW := Lib.hid (ownsRow_below OW.out b)
  replace HB := Lib.hid (HB.out.trans (b.mono HB.out.size))
  clear b
  go_wp2_with fail
  generalize w3.alloc (.cells #[.int .i64 fr, .slice pW kW dW] 50) = W3 at *
  have hz1 := Lib.hid xl
  have hzw := Lib.hid HB.out.size
  have hzf := Lib.hid fl
  refine (Dr.toDR_any a1 a2 a3 n1 c1 n2 c2 n3 c3 l m Z _ K.out).mono ?_
  rintro e w4 ⟨gx1, gx2, gx3, rfl, o, b⟩
  have Gx := Lib.hid (o.arg HZ.out K.out.s1 K.out.s2 K.out.s3 K.out.sm)
  have MX := Lib.hid (Zm.mkR_of o HZ.out)
  have hzx := Lib.hid b.size
  clear o
  replace f1 := (b.cell (p := ⟨w.heap.size, 0, none⟩) fl).trans f1
  replace f2 := (b.cell (p := ⟨w.heap.size, 1, none⟩) fl).trans f2
  replace f3 := (b.cell (p := ⟨w.heap.size, 2, none⟩) fl).trans f3
  replace fl := Nat.lt_of_lt_of_le fl b.size
  replace x1 := (b.cell (p := ⟨w3.heap.size, 0, none⟩) xl).trans x1
  replace x2 := (b.cell (p := ⟨w3.heap.size, 1, none⟩) xl).trans x2
  replace xl := Nat.lt_of_lt_of_le xl b.size
  replace K := Lib.hid (K.out.below b)
  replace OW := Lib.hid (ownsRow_below OW.out b)
  replace HB := Lib.hid (HB.out.trans (b.mono HB.out.size))
  clear b
  have b := below_alloc w4 (.cells #[.slice (some ⟨gx1, 0, none⟩) n1 n1, .slice (some ⟨gx2, 0, none⟩) n2 n2, .slice (some ⟨gx3, 0, none⟩) n3 n3] 37)
  obtain ⟨y1, y2, y3⟩ := Dr.box3 w4 (.slice (some ⟨gx1, 0, none⟩) n1 n1) (.slice (some ⟨gx2, 0, none⟩) n2 n2) (.slice (some ⟨gx3, 0, none⟩) n3 n3) 37
  have yl : w4.heap.size < (w4.alloc (.cells #[.slice (some ⟨gx1, 0, none⟩) n1 n1, .slice (some ⟨gx2, 0, none⟩) n2 n2, .slice (some ⟨gx3, 0, none⟩) n3 n3] 37)).heap.size := by simp
  replace f1 := (b.cell (p := ⟨w.heap.size, 0, none⟩) fl).trans f1
  replace f2 := (b.cell (p := ⟨w.heap.size, 1, none⟩) fl).trans f2
  replace f3 := (b.cell (p := ⟨w.heap.size, 2, none⟩) fl).trans f3
  replace fl := Nat.lt_of_lt_of_le fl b.size
  replace x1 := (b.cell (p := ⟨w3.heap.size, 0, none⟩) xl).trans x1
  replace x2 := (b.cell (p := ⟨w3.heap.size, 1, none⟩) xl).trans x2
  replace xl := Nat.lt_of_lt_of_le xl b.size
  replace K := Lib.hid (K.out.below b)
  replace Gx := Lib.hid (Gx.out.below b)
  replace OW := Lib.hid (ownsRow_below OW.out b)
  replace MX := Lib.hid (MX.out.below b)
  replace HB := Lib.hid (HB.out.trans (b.mono HB.out.size))
  clear b
  go_wp2_with fail
  generalize w4.alloc (.cells #[.slice (some ⟨gx1, 0, none⟩) n1 n1, .slice (some ⟨gx2, 0, none⟩) n2 n2, .slice (some ⟨gx3, 0, none⟩) n3 n3] 37) = W5 at *
  have hzy := Lib.hid yl
  refine (HI.out _ _ _ _ Gx.out).mono ?_
  rintro e w7 ⟨pG, kG, dG, rfl, o, hkG, b⟩
  have hz3 := Lib.hid b.size
  have og1 := Lib.hid (Di.own_bd o)
  have OG := Lib.hid o
  clear o
  replace f1 := (b.cell (p := ⟨w.heap.size, 0, none⟩) fl).trans f1
  replace f2 := (b.cell (p := ⟨w.heap.size, 1, none⟩) fl).trans f2
  replace f3 := (b.cell (p := ⟨w.heap.size, 2, none⟩) fl).trans f3
  replace fl := Nat.lt_of_lt_of_le fl b.size
  replace x1 := (b.cell (p := ⟨w3.heap.size, 0, none⟩) xl).trans x1
  replace x2 := (b.cell (p := ⟨w3.heap.size, 1, none⟩) xl).trans x2
  replace xl := Nat.lt_of_lt_of_le xl b.size
  replace y1 := (b.cell (p := ⟨w4.heap.size, 0, none⟩) yl).trans y1
  replace y2 := (b.cell (p := ⟨w4.heap.size, 1, none⟩) yl).trans y2
  replace y3 := (b.cell (p := ⟨w4.heap.size, 2, none⟩) yl).trans y3
  replace yl := Nat.lt_of_lt_of_le yl b.size
  replace K := Lib.hid (K.out.below b)
  replace Gx := Lib.hid (Gx.out.below b)
  replace OW := Lib.hid (ownsRow_below OW.out b)
  replace MX := Lib.hid (MX.out.below b)
  replace HB := Lib.hid (HB.out.trans (b.mono HB.out.size))
  clear b
  have hkk : kG = kW := by have h1 := OG.out.1; have h2 := OW.out.1; rw [GivesI.ints_len] at h1 h2; omega
  subst hkk
  have b := below_alloc w7 (.cells #[.int .i64 fr, .slice pG kG dG] 50)
  have u1 := box_first w7 (.int .i64 fr) (.slice pG kG dG) 50
  have u2 := box_second w7 (.int .i64 fr) (.slice pG kG dG) 50
  have ul : w7.heap.size < (w7.alloc (.cells #[.int .i64 fr, .slice pG kG dG] 50)).heap.size := by simp
  replace f1 := (b.cell (p := ⟨w.heap.size, 0, none⟩) fl).trans f1
  replace f2 := (b.cell (p := ⟨w.heap.size, 1, none⟩) fl).trans f2
  replace f3 := (b.cell (p := ⟨w.heap.size, 2, none⟩) fl).trans f3
  replace fl := Nat.lt_of_lt_of_le fl b.size
  replace x1 := (b.cell (p := ⟨w3.heap.size, 0, none⟩) xl).trans x1
  replace x2 := (b.cell (p := ⟨w3.heap.size, 1, none⟩) xl).trans x2
  replace xl := Nat.lt_of_lt_of_le xl b.size
  replace y1 := (b.cell (p := ⟨w4.heap.size, 0, none⟩) yl).trans y1
  replace y2 := (b.cell (p := ⟨w4.heap.size, 1, none⟩) yl).trans y2
  replace y3 := (b.cell (p := ⟨w4.heap.size, 2, none⟩) yl).trans y3
  replace yl := Nat.lt_of_lt_of_le yl b.size
  replace K := Lib.hid (K.out.below b)
  replace Gx := Lib.hid (Gx.out.below b)
  replace OW := Lib.hid (ownsRow_below OW.out b)
  replace OG := Lib.hid (ownsRow_below OG.out b)
  replace MX := Lib.hid (MX.out.below b)
  replace HB := Lib.hid (HB.out.trans (b.mono HB.out.size))
  clear b
  go_wp2_with fail
  generalize w7.alloc (.cells #[.int .i64 fr, .slice pG kG dG] 50) = W7 at *
  refine (Di.eqDist_same fr pG pW kG dG dW A hkG _ (GivesI.holds_own OG.out) (GivesI.holds_own OW.out)).mono ?_
  rintro e w8 ⟨rfl, b⟩
  replace f1 := (b.cell (p := ⟨w.heap.size, 0, none⟩) fl).trans f1
  replace f2 := (b.cell (p := ⟨w.heap.size, 1, none⟩) fl).trans f2
  replace f3 := (b.cell (p := ⟨w.heap.size, 2, none⟩) fl).trans f3
  replace fl := Nat.lt_of_lt_of_le fl b.size
  replace x1 := (b.cell (p := ⟨w3.heap.size, 0, none⟩) xl).trans x1
  replace x2 := (b.cell (p := ⟨w3.heap.size, 1, none⟩) xl).trans x2
  replace xl := Nat.lt_of_lt_of_le xl b.size
  replace y1 := (b.cell (p := ⟨w4.heap.size, 0, none⟩) yl).trans y1
  replace y2 := (b.cell (p := ⟨w4.heap.size, 1, none⟩) yl).trans y2
  replace y3 := (b.cell (p := ⟨w4.heap.size, 2, none⟩) yl).trans y3
  replace yl := Nat.lt_of_lt_of_le yl b.size
  replace u1 := (b.cell (p := ⟨w7.heap.size, 0, none⟩) ul).trans u1
  replace u2 := (b.cell (p := ⟨w7.heap.size, 1, none⟩) ul).trans u2
  replace ul := Nat.lt_of_lt_of_le ul b.size
  replace K := Lib.hid (K.out.below b)
  replace Gx := Lib.hid (Gx.out.below b)
  replace OW := Lib.hid (ownsRow_below OW.out b)
  replace OG := Lib.hid (ownsRow_below OG.out b)
  replace MX := Lib.hid (MX.out.below b)
  replace HB := Lib.hid (HB.out.trans (b.mono HB.out.size))
  clear b
  have KD := Lib.hid (K.out.below (Below.refl _ _).drew)
  have GD := Lib.hid (Gx.out.below (Below.refl _ _).drew)
  go_wp2_with fail
  go_region_held3 (fun w' => w'.cell? ⟨w4.heap.size, 0, none⟩ = some (.slice (some ⟨gx1, 0, none⟩) n1 n1) ∧ w'.cell? ⟨w4.heap.size, 1, none⟩ = some (.slice (some ⟨gx2, 0, none⟩) n2 n2) ∧ w'.cell? ⟨w4.heap.size, 2, none⟩ = some (.slice (some ⟨gx3, 0, none⟩) n3 n3) ∧ w4.heap.size < w'.heap.size ∧ w'.cell? ⟨w.heap.size, 0, none⟩ = some (.slice a1 n1 c1) ∧ w'.cell? ⟨w.heap.size, 1, none⟩ = some (.slice a2 n2 c2) ∧ w'.cell? ⟨w.heap.size, 2, none⟩ = some (.slice a3 n3 c3) ∧ w.heap.size < w'.heap.size)
    (first | go_keep | (exact ⟨by assumption, by assumption, by assumption, by assumption, by assumption, by assumption, by assumption, by assumption⟩))
    (first
      | (go_at_call 16; refine (DrS.toDR_keeps a1 a2 a3 n1 c1 n2 c2 n3 c3 l m Z w8.drew KD.out ⟨y1, y2, y3, yl, f1, f2, f3, fl⟩).mono ?_; rintro e wd ⟨gd1, gd2, gd3, rfl, od, bd, ⟨s1, s2, s3, s4, s5, s6, s7, s8⟩⟩)
      | (go_at_call 18; refine (DrS.eqDR_keeps (some ⟨gx1, 0, none⟩) (some ⟨gx2, 0, none⟩) (some ⟨gx3, 0, none⟩) (some ⟨gd1, 0, none⟩) (some ⟨gd2, 0, none⟩) (some ⟨gd3, 0, none⟩) n1 n1 n2 n2 n3 n3 n1 n2 n3 l m Z wd (GD.out.below bd) od ⟨s1, s2, s3, s4, s5, s6, s7, s8⟩).mono ?_; rintro e w9 ⟨rfl, be, ⟨t1, t2, t3, t4, t5, t6, t7, t8⟩⟩))
  have b : Below w8.heap.size w8 w9 := (Below.refl w8.heap.size w8).drew.trans (bd.trans (be.mono bd.size))
  clear od bd be KD GD s1 s2 s3 s4 s5 s6 s7 s8 t1 t2 t3 t4 t5 t6 t7 t8
  replace f1 := (b.cell (p := ⟨w.heap.size, 0, none⟩) fl).trans f1
  replace f2 := (b.cell (p := ⟨w.heap.size, 1, none⟩) fl).trans f2
  replace f3 := (b.cell (p := ⟨w.heap.size, 2, none⟩) fl).trans f3
  replace fl := Nat.lt_of_lt_of_le fl b.size
  replace x1 := (b.cell (p := ⟨w3.heap.size, 0, none⟩) xl).trans x1
  replace x2 := (b.cell (p := ⟨w3.heap.size, 1, none⟩) xl).trans x2
  replace xl := Nat.lt_of_lt_of_le xl b.size
  replace y1 := (b.cell (p := ⟨w4.heap.size, 0, none⟩) yl).trans y1
  replace y2 := (b.cell (p := ⟨w4.heap.size, 1, none⟩) yl).trans y2
  replace y3 := (b.cell (p := ⟨w4.heap.size, 2, none⟩) yl).trans y3
  replace yl := Nat.lt_of_lt_of_le yl b.size
  replace u1 := (b.cell (p := ⟨w7.heap.size, 0, none⟩) ul).trans u1
  replace u2 := (b.cell (p := ⟨w7.heap.size, 1, none⟩) ul).trans u2
  replace ul := Nat.lt_of_lt_of_le ul b.size
  replace K := Lib.hid (K.out.below b)
  replace Gx := Lib.hid (Gx.out.below b)
  replace OW := Lib.hid (ownsRow_below OW.out b)
  replace OG := Lib.hid (ownsRow_below OG.out b)
  replace MX := Lib.hid (MX.out.below b)
  replace HB := Lib.hid (HB.out.trans (b.mono HB.out.size))
  clear b
  clear Gx
  go_wp2_with fail
  have hDD : w4.heap.size ≤ w9.heap.size := Nat.le_of_lt yl
  refine (Zm.markDR_any W3.heap.size w4.heap.size gx1 n1 gx2 n2 gx3 n3 l m Z _ MX.out hn1 hn2 hn3 K.out.sm HT.out hDD).mono ?_
  rintro e wm ⟨rm, rfl, kk⟩
  have q1 := hz1.out; have q2 := hzw.out; have q3 := hzx.out; have q4 := hzy.out; have q5 := hz3.out; have q6 := hzf.out
  replace f1 := kk.cell f1 (by intro hq; (try simp only at hq); omega)
  replace f2 := kk.cell f2 (by intro hq; (try simp only at hq); omega)
  replace f3 := kk.cell f3 (by intro hq; (try simp only at hq); omega)
  replace fl := Nat.lt_of_lt_of_le fl kk.size
  replace x1 := kk.cell x1 (by intro hq; (try simp only at hq); omega)
  replace x2 := kk.cell x2 (by intro hq; (try simp only at hq); omega)
  replace xl := Nat.lt_of_lt_of_le xl kk.size
  replace y1 := kk.cell y1 (by intro hq; (try simp only at hq); omega)
  replace y2 := kk.cell y2 (by intro hq; (try simp only at hq); omega)
  replace y3 := kk.cell y3 (by intro hq; (try simp only at hq); omega)
  replace yl := Nat.lt_of_lt_of_le yl kk.size
  replace u1 := kk.cell u1 (by intro hq; (try simp only at hq); omega)
  replace u2 := kk.cell u2 (by intro hq; (try simp only at hq); omega)
  replace ul := Nat.lt_of_lt_of_le ul kk.size
  replace K := Lib.hid (Zm.argKept H0.out K.out HB.out kk (fun b hb hq => by (try simp only at hq); omega))
  replace OW := Lib.hid (kk.owns OW.out (fun b hb hq => by have h2 := ow1.out b hb; (try simp only at hq); omega))
  replace OG := Lib.hid (kk.owns OG.out (fun b hb hq => by have h2 := og1.out b hb; (try simp only at hq); omega))
  replace HB := Lib.hid (HB.out.trans (kk.below (B := w.heap.size) (fun b hq => by (try simp only at hq); omega) HB.out.size))
  clear kk MX hDD
  clear q1 q2 q3 q4 q5 q6
  have hnk : ¬ (rm : Int) < 0 := by omega
  have hnb : decide ((rm : Int) < 0) = false := decide_eq_false hnk
  go_wp2_with fail
  refine (Di.eqDist_same fr pG pW kG dG dW A hkG _ (GivesI.holds_own OG.out) (GivesI.holds_own OW.out)).mono ?_
  rintro e w12 ⟨rfl, b⟩
  replace f1 := (b.cell (p := ⟨w.heap.size, 0, none⟩) fl).trans f1
  replace f2 := (b.cell (p := ⟨w.heap.size, 1, none⟩) fl).trans f2
  replace f3 := (b.cell (p := ⟨w.heap.size, 2, none⟩) fl).trans f3
  replace fl := Nat.lt_of_lt_of_le fl b.size
  replace x1 := (b.cell (p := ⟨w3.heap.size, 0, none⟩) xl).trans x1
  replace x2 := (b.cell (p := ⟨w3.heap.size, 1, none⟩) xl).trans x2
  replace xl := Nat.lt_of_lt_of_le xl b.size
  replace y1 := (b.cell (p := ⟨w4.heap.size, 0, none⟩) yl).trans y1
  replace y2 := (b.cell (p := ⟨w4.heap.size, 1, none⟩) yl).trans y2
  replace y3 := (b.cell (p := ⟨w4.heap.size, 2, none⟩) yl).trans y3
  replace yl := Nat.lt_of_lt_of_le yl b.size
  replace u1 := (b.cell (p := ⟨w7.heap.size, 0, none⟩) ul).trans u1
  replace u2 := (b.cell (p := ⟨w7.heap.size, 1, none⟩) ul).trans u2
  replace ul := Nat.lt_of_lt_of_le ul b.size
  replace K := Lib.hid (K.out.below b)
  replace OW := Lib.hid (ownsRow_below OW.out b)
  replace OG := Lib.hid (ownsRow_below OG.out b)
  replace HB := Lib.hid (HB.out.trans (b.mono HB.out.size))
  clear b
  go_wp2_with fail
  refine (Di.markDist_any _ fr pG kG dG 1 (GivesI.ints A) (by omega) (by omega) hkG _ OG.out).mono ?_
  rintro e w13 ⟨rfl, om, kk⟩
  have q1 := hz1.out; have q2 := hzw.out; have q3 := hzx.out; have q4 := hzy.out; have q5 := hz3.out; have q6 := hzf.out
  replace f1 := kk.cell f1 (by intro hq; have := og1.out _ hq; simp only at this; omega)
  replace f2 := kk.cell f2 (by intro hq; have := og1.out _ hq; simp only at this; omega)
  replace f3 := kk.cell f3 (by intro hq; have := og1.out _ hq; simp only at this; omega)
  replace fl := Nat.lt_of_lt_of_le fl kk.size
  replace x1 := kk.cell x1 (by intro hq; have := og1.out _ hq; simp only at this; omega)
  replace x2 := kk.cell x2 (by intro hq; have := og1.out _ hq; simp only at this; omega)
  replace xl := Nat.lt_of_lt_of_le xl kk.size
  replace y1 := kk.cell y1 (by intro hq; have := og1.out _ hq; simp only at this; omega)
  replace y2 := kk.cell y2 (by intro hq; have := og1.out _ hq; simp only at this; omega)
  replace y3 := kk.cell y3 (by intro hq; have := og1.out _ hq; simp only at this; omega)
  replace yl := Nat.lt_of_lt_of_le yl kk.size
  replace u1 := kk.cell u1 (by intro hq; have := og1.out _ hq; simp only at this; omega)
  replace u2 := kk.cell u2 (by intro hq; have := og1.out _ hq; simp only at this; omega)
  replace ul := Nat.lt_of_lt_of_le ul kk.size
  replace K := Lib.hid (Zm.argKept H0.out K.out HB.out kk (fun b hb hq => by have := og1.out _ hq; omega))
  replace OW := Lib.hid (kk.owns OW.out (fun b hb hq => by have h1 := og1.out _ hq; have h2 := ow1.out b hb; omega))
  replace HB := Lib.hid (HB.out.trans (kk.below (B := w.heap.size) (fun b hq => by have := og1.out _ hq; omega) HB.out.size))
  have MG := Lib.hid (GivesI.holds_own om)
  clear kk om OG
  clear q1 q2 q3 q4 q5 q6
  have hkn : ¬ (1 : Int) + (kG : Int) < 0 := by omega
  have hkb : decide ((1 : Int) + (kG : Int) < 0) = false := decide_eq_false hkn
  go_wp2_with fail
  refine (Di.heldDist_any fr pG kG dG 1 (by omega) (by omega) hkG _ MG.out).mono ?_
  rintro e w14 ⟨rfl, b⟩
  replace f1 := (b.cell (p := ⟨w.heap.size, 0, none⟩) fl).trans f1
  replace f2 := (b.cell (p := ⟨w.heap.size, 1, none⟩) fl).trans f2
  replace f3 := (b.cell (p := ⟨w.heap.size, 2, none⟩) fl).trans f3
  replace fl := Nat.lt_of_lt_of_le fl b.size
  replace x1 := (b.cell (p := ⟨w3.heap.size, 0, none⟩) xl).trans x1
  replace x2 := (b.cell (p := ⟨w3.heap.size, 1, none⟩) xl).trans x2
  replace xl := Nat.lt_of_lt_of_le xl b.size
  replace y1 := (b.cell (p := ⟨w4.heap.size, 0, none⟩) yl).trans y1
  replace y2 := (b.cell (p := ⟨w4.heap.size, 1, none⟩) yl).trans y2
  replace y3 := (b.cell (p := ⟨w4.heap.size, 2, none⟩) yl).trans y3
  replace yl := Nat.lt_of_lt_of_le yl b.size
  replace u1 := (b.cell (p := ⟨w7.heap.size, 0, none⟩) ul).trans u1
  replace u2 := (b.cell (p := ⟨w7.heap.size, 1, none⟩) ul).trans u2
  replace ul := Nat.lt_of_lt_of_le ul b.size
  replace MG := Lib.hid (MG.out.below b)
  replace K := Lib.hid (K.out.below b)
  replace OW := Lib.hid (ownsRow_below OW.out b)
  replace HB := Lib.hid (HB.out.trans (b.mono HB.out.size))
  clear b
  go_wp2_with fail
  refine (Dr.toDR_any a1 a2 a3 n1 c1 n2 c2 n3 c3 l m Z _ K.out).mono ?_
  rintro e w15 ⟨gh1, gh2, gh3, rfl, o, b⟩
  have Gh := Lib.hid (o.arg HZ.out K.out.s1 K.out.s2 K.out.s3 K.out.sm)
  clear o
  replace f1 := (b.cell (p := ⟨w.heap.size, 0, none⟩) fl).trans f1
  replace f2 := (b.cell (p := ⟨w.heap.size, 1, none⟩) fl).trans f2
  replace f3 := (b.cell (p := ⟨w.heap.size, 2, none⟩) fl).trans f3
  replace fl := Nat.lt_of_lt_of_le fl b.size
  replace x1 := (b.cell (p := ⟨w3.heap.size, 0, none⟩) xl).trans x1
  replace x2 := (b.cell (p := ⟨w3.heap.size, 1, none⟩) xl).trans x2
  replace xl := Nat.lt_of_lt_of_le xl b.size
  replace y1 := (b.cell (p := ⟨w4.heap.size, 0, none⟩) yl).trans y1
  replace y2 := (b.cell (p := ⟨w4.heap.size, 1, none⟩) yl).trans y2
  replace y3 := (b.cell (p := ⟨w4.heap.size, 2, none⟩) yl).trans y3
  replace yl := Nat.lt_of_lt_of_le yl b.size
  replace u1 := (b.cell (p := ⟨w7.heap.size, 0, none⟩) ul).trans u1
  replace u2 := (b.cell (p := ⟨w7.heap.size, 1, none⟩) ul).trans u2
  replace ul := Nat.lt_of_lt_of_le ul b.size
  replace MG := Lib.hid (MG.out.below b)
  replace K := Lib.hid (K.out.below b)
  replace OW := Lib.hid (ownsRow_below OW.out b)
  replace HB := Lib.hid (HB.out.trans (b.mono HB.out.size))
  clear b
  go_wp2_with fail
  refine (HI.out _ _ _ _ Gh.out).mono ?_
  rintro e w16 ⟨pH, kH, dH, rfl, o, hkH, b⟩
  have OH := Lib.hid o
  clear o
  replace f1 := (b.cell (p := ⟨w.heap.size, 0, none⟩) fl).trans f1
  replace f2 := (b.cell (p := ⟨w.heap.size, 1, none⟩) fl).trans f2
  replace f3 := (b.cell (p := ⟨w.heap.size, 2, none⟩) fl).trans f3
  replace fl := Nat.lt_of_lt_of_le fl b.size
  replace x1 := (b.cell (p := ⟨w3.heap.size, 0, none⟩) xl).trans x1
  replace x2 := (b.cell (p := ⟨w3.heap.size, 1, none⟩) xl).trans x2
  replace xl := Nat.lt_of_lt_of_le xl b.size
  replace y1 := (b.cell (p := ⟨w4.heap.size, 0, none⟩) yl).trans y1
  replace y2 := (b.cell (p := ⟨w4.heap.size, 1, none⟩) yl).trans y2
  replace y3 := (b.cell (p := ⟨w4.heap.size, 2, none⟩) yl).trans y3
  replace yl := Nat.lt_of_lt_of_le yl b.size
  replace u1 := (b.cell (p := ⟨w7.heap.size, 0, none⟩) ul).trans u1
  replace u2 := (b.cell (p := ⟨w7.heap.size, 1, none⟩) ul).trans u2
  replace ul := Nat.lt_of_lt_of_le ul b.size
  replace MG := Lib.hid (MG.out.below b)
  replace K := Lib.hid (K.out.below b)
  replace Gh := Lib.hid (Gh.out.below b)
  replace OW := Lib.hid (ownsRow_below OW.out b)
  replace HB := Lib.hid (HB.out.trans (b.mono HB.out.size))
  clear b
  have hkk : kH = kG := by have h1 := OH.out.1; have h2 := OW.out.1; rw [GivesI.ints_len] at h1 h2; omega
  subst hkk
  have b := below_alloc w16 (.cells #[.int .i64 fr, .slice pH kH dH] 50)
  have h1 := box_first w16 (.int .i64 fr) (.slice pH kH dH) 50
  have h2 := box_second w16 (.int .i64 fr) (.slice pH kH dH) 50
  have hl : w16.heap.size < (w16.alloc (.cells #[.int .i64 fr, .slice pH kH dH] 50)).heap.size := by simp
  replace f1 := (b.cell (p := ⟨w.heap.size, 0, none⟩) fl).trans f1
  replace f2 := (b.cell (p := ⟨w.heap.size, 1, none⟩) fl).trans f2
  replace f3 := (b.cell (p := ⟨w.heap.size, 2, none⟩) fl).trans f3
  replace fl := Nat.lt_of_lt_of_le fl b.size
  replace x1 := (b.cell (p := ⟨w3.heap.size, 0, none⟩) xl).trans x1
  replace x2 := (b.cell (p := ⟨w3.heap.size, 1, none⟩) xl).trans x2
  replace xl := Nat.lt_of_lt_of_le xl b.size
  replace y1 := (b.cell (p := ⟨w4.heap.size, 0, none⟩) yl).trans y1
  replace y2 := (b.cell (p := ⟨w4.heap.size, 1, none⟩) yl).trans y2
  replace y3 := (b.cell (p := ⟨w4.heap.size, 2, none⟩) yl).trans y3
  replace yl := Nat.lt_of_lt_of_le yl b.size
  replace u1 := (b.cell (p := ⟨w7.heap.size, 0, none⟩) ul).trans u1
  replace u2 := (b.cell (p := ⟨w7.heap.size, 1, none⟩) ul).trans u2
  replace ul := Nat.lt_of_lt_of_le ul b.size
  replace MG := Lib.hid (MG.out.below b)
  replace K := Lib.hid (K.out.below b)
  replace Gh := Lib.hid (Gh.out.below b)
  replace OW := Lib.hid (ownsRow_below OW.out b)
  replace OH := Lib.hid (ownsRow_below OH.out b)
  replace HB := Lib.hid (HB.out.trans (b.mono HB.out.size))
  clear b
  go_wp2_with fail
  generalize w16.alloc (.cells #[.int .i64 fr, .slice pH kH dH] 50) = W16 at *
  refine (Di.eqDist_same fr pH pW kH dH dW A hkH _ (GivesI.holds_own OH.out) (GivesI.holds_own OW.out)).mono ?_
  rintro e w17 ⟨rfl, b⟩
  replace f1 := (b.cell (p := ⟨w.heap.size, 0, none⟩) fl).trans f1
  replace f2 := (b.cell (p := ⟨w.heap.size, 1, none⟩) fl).trans f2
  replace f3 := (b.cell (p := ⟨w.heap.size, 2, none⟩) fl).trans f3
  replace fl := Nat.lt_of_lt_of_le fl b.size
  replace x1 := (b.cell (p := ⟨w3.heap.size, 0, none⟩) xl).trans x1
  replace x2 := (b.cell (p := ⟨w3.heap.size, 1, none⟩) xl).trans x2
  replace xl := Nat.lt_of_lt_of_le xl b.size
  replace y1 := (b.cell (p := ⟨w4.heap.size, 0, none⟩) yl).trans y1
  replace y2 := (b.cell (p := ⟨w4.heap.size, 1, none⟩) yl).trans y2
  replace y3 := (b.cell (p := ⟨w4.heap.size, 2, none⟩) yl).trans y3
  replace yl := Nat.lt_of_lt_of_le yl b.size
  replace u1 := (b.cell (p := ⟨w7.heap.size, 0, none⟩) ul).trans u1
  replace u2 := (b.cell (p := ⟨w7.heap.size, 1, none⟩) ul).trans u2
  replace ul := Nat.lt_of_lt_of_le ul b.size
  replace h1 := (b.cell (p := ⟨w16.heap.size, 0, none⟩) hl).trans h1
  replace h2 := (b.cell (p := ⟨w16.heap.size, 1, none⟩) hl).trans h2
  replace hl := Nat.lt_of_lt_of_le hl b.size
  replace MG := Lib.hid (MG.out.below b)
  replace K := Lib.hid (K.out.below b)
  replace Gh := Lib.hid (Gh.out.below b)
  replace OW := Lib.hid (ownsRow_below OW.out b)
  replace OH := Lib.hid (ownsRow_below OH.out b)
  replace HB := Lib.hid (HB.out.trans (b.mono HB.out.size))
  clear b
  go_wp2_with fail
  refine (Di.heldDist_any fr pG kH dG 1 (by omega) (by omega) hkH _ MG.out).mono ?_
  rintro e w18 ⟨rfl, b⟩
  replace f1 := (b.cell (p := ⟨w.heap.size, 0, none⟩) fl).trans f1
  replace f2 := (b.cell (p := ⟨w.heap.size, 1, none⟩) fl).trans f2
  replace f3 := (b.cell (p := ⟨w.heap.size, 2, none⟩) fl).trans f3
  replace fl := Nat.lt_of_lt_of_le fl b.size
  replace x1 := (b.cell (p := ⟨w3.heap.size, 0, none⟩) xl).trans x1
  replace x2 := (b.cell (p := ⟨w3.heap.size, 1, none⟩) xl).trans x2
  replace xl := Nat.lt_of_lt_of_le xl b.size
  replace y1 := (b.cell (p := ⟨w4.heap.size, 0, none⟩) yl).trans y1
  replace y2 := (b.cell (p := ⟨w4.heap.size, 1, none⟩) yl).trans y2
  replace y3 := (b.cell (p := ⟨w4.heap.size, 2, none⟩) yl).trans y3
  replace yl := Nat.lt_of_lt_of_le yl b.size
  replace u1 := (b.cell (p := ⟨w7.heap.size, 0, none⟩) ul).trans u1
  replace u2 := (b.cell (p := ⟨w7.heap.size, 1, none⟩) ul).trans u2
  replace ul := Nat.lt_of_lt_of_le ul b.size
  replace h1 := (b.cell (p := ⟨w16.heap.size, 0, none⟩) hl).trans h1
  replace h2 := (b.cell (p := ⟨w16.heap.size, 1, none⟩) hl).trans h2
  replace hl := Nat.lt_of_lt_of_le hl b.size
  replace MG := Lib.hid (MG.out.below b)
  replace K := Lib.hid (K.out.below b)
  replace Gh := Lib.hid (Gh.out.below b)
  replace OW := Lib.hid (ownsRow_below OW.out b)
  replace OH := Lib.hid (ownsRow_below OH.out b)
  replace HB := Lib.hid (HB.out.trans (b.mono HB.out.size))
  clear b
  go_wp2_with fail
  go_ret
  exact ⟨rfl, HB.out⟩
end Go.Proofs.Ytfbgekhkbbhggaa.WMarginalDate

namespace Go.Proofs.Ytfbgekhkbbhggaa.FMarginalDate
open Go.ChangeShapes Go.WideShapes Go.ChangeAt Go.RowKit
open Pairs Rec RecOpen LawKit
set_option linter.unusedVariables false

theorem field_int {H : Type} {enc : TypeId × Value → H} {w : World} {base : Nat} {spare : Nat → Bool} {held : Bool} {t : TypeId} {fuel : Nat} {v : Value} {x : DataW H × List MemPlace} (t0 : Try.prog.underlying t = some (.int .i64)) (h : DataW.trod enc Try.prog w base spare held fuel t [v] = some x) : ∃ y : Int, v = .int .i64 y := by
  obtain ⟨p, hp, _⟩ := DataW.trod_int t0 h
  simp only [List.cons.injEq, and_true] at hp
  exact ⟨p, hp⟩
theorem wf_rg {n : Int} (h : (Lit.int .i64 n).wf = true) : -9223372036854775808 ≤ n ∧ n ≤ 9223372036854775807 := by
  unfold Lit.wf at h
  rw [Bool.and_eq_true, decide_eq_true_iff, decide_eq_true_iff] at h
  exact h
set_option maxRecDepth 100000 in
theorem lifted (hw : ∀ (a1 a2 a3 : Option Addr) (n1 c1 n2 c2 n3 c3 : Nat) (l1 l2 : List (Int × Int)) (Z : List Zh.Pt) (y1 : Int) (w : World), n1 ≤ 9223372036854775807 → n2 ≤ 9223372036854775807 → n3 ≤ 9223372036854775807 → Holds w a1 n1 l1 → Holds w a2 n2 l2 → Zh.HoldsZ w a3 n3 Z → Zh.Sm Z 9223372036854775807 → Calls Try.prog 6 #[.agg #[.slice a1 n1 c1, .slice a2 n2 c2, .slice a3 n3 c3], .int .i64 y1] w fun e w' => e = .returned (.bool true) ∧ Below w.heap.size w w') (os : Os) (started : os.Started) (H : Type) (enc : TypeId × Value → H) :
    ReturnsInHanded {} Try.checked os 6 .any (Rows.fnExactMarginalDateSpec.pre6 enc Try.prog Try.f6 Rows.fnExactMarginalDateRow.domain false) (Rows.fnExactMarginalDateSpec.post enc Try.prog Try.f6 false true false false) := by
  refine returnsInHanded_of_change (C := Try.checked) own started (by kernel_rfl) Try.func6
    (ChangeSpec.witness6 (enc := enc) (C := Try.checked) false ⟨#[], #[.agg #[.slice none 0 0, .slice none 0 0, .slice none 0 0], .int .i64 0], []⟩ 8 (by kernel_rfl) (by kernel_rfl) (by kernel_rfl) (by kernel_rfl)) ?_
  intro W base args ds gs before hval0 hW hcnd _
  have hval : ∀ (j : Nat) t v, Try.f6.params[j]? = some t → args[j]? = some v → Value.okWide Try.prog W .any base t v := hval0
  have hW' := hW
  obtain ⟨p, q, hA0, hV, rfl, hfz, hnd⟩ := hW
  have hA : DataW.TrodAll enc Try.prog W 0 (fun _ => true) true Try.f6.params.toList args.toList ds p := hA0
  rw [Try.params6] at hA hval
  obtain ⟨v0, vs0, d0, ds0, p0, q0, hargs, rfl, rfl, h0, r0⟩ := trodAll_cons hA
  obtain ⟨v1, vs1, d1, ds1, p1, q1, rfl, rfl, rfl, h1, r1⟩ := trodAll_cons r0
  obtain ⟨rfl, rfl, rfl⟩ := trodAll_nil r1
  obtain rfl : args = #[v0, v1] := by cases args; simp_all
  obtain ⟨rfl, rfl⟩ := trodVars_none hV
  have k0 := h0
  have lt0 : ∀ x ∈ p0, x.block < W.heap.size := by obtain ⟨m, hm⟩ := k0; exact DataW.trod_lt m _ _ _ hm
  obtain ⟨u0, u1, u2, y0, y1, y2, m0, m1, m2, rfl, hu0, hu1, hu2⟩ := Dr.open_dr Try.underlying28 (by kernel_rfl) Try.underlying25 rfl rfl (by kernel_rfl) (by kernel_rfl) rfl rfl (by kernel_rfl) (by kernel_rfl) (hval 0 28 v0 rfl rfl) h0
  obtain ⟨a1, n1, c1, l1, rfl, z1, H1⟩ := open_pairs Try.underlying22 Try.underlying135 (by kernel_rfl) rfl rfl (by kernel_rfl) (by kernel_rfl) Try.underlying3 Try.underlying3 hu0
  obtain ⟨a2, n2, c2, l2, rfl, z2, H2⟩ := open_pairs Try.underlying23 Try.underlying137 (by kernel_rfl) rfl rfl (by kernel_rfl) (by kernel_rfl) Try.underlying3 Try.underlying3 hu1
  obtain ⟨a3, n3, c3, Z, rfl, z3, H3, H4⟩ := Zh.open_dists Try.underlying26 Try.underlying66 (by kernel_rfl) rfl rfl (by kernel_rfl) (by kernel_rfl) Try.underlying3 Try.underlying41 Try.underlying3 (by kernel_rfl) hu2
  obtain ⟨y1, rfl, rfl, rfl, wz1⟩ := open_int Try.underlying3 (hval 1 3 v1 rfl rfl) h1
  clear hA0 hval0
  refine (hw a1 a2 a3 n1 c1 n2 c2 n3 c3 l1 l2 Z y1 W z1 z2 z3 H1 H2 H3 H4).mono fun e W' ⟨he, bel⟩ => ?_
  subst he
  exact ⟨_, rfl, _, _, _, [], _, [], hW', trodAll_mk1 (shut_bool Try.underlying4 _), (trodAll_cons_mk (Below.trod LawKit.laidOut (by kernel_rfl) (of_decide_eq_true (by kernel_rfl)) k0 bel lt0) (trodAll_cons_mk (shut_int Try.underlying3 wz1) trodAll_mk0)), rfl, bel.frame _, fun h => by cases h⟩

theorem over (hw : ∀ (a1 a2 a3 : Option Addr) (n1 c1 n2 c2 n3 c3 : Nat) (l1 l2 : List (Int × Int)) (Z : List Zh.Pt) (y1 : Int) (w : World), n1 ≤ 9223372036854775807 → n2 ≤ 9223372036854775807 → n3 ≤ 9223372036854775807 → Holds w a1 n1 l1 → Holds w a2 n2 l2 → Zh.HoldsZ w a3 n3 Z → Zh.Sm Z 9223372036854775807 → Calls Try.prog 6 #[.agg #[.slice a1 n1 c1, .slice a2 n2 c2, .slice a3 n3 c3], .int .i64 y1] w fun e w' => e = .returned (.bool true) ∧ Below w.heap.size w w') : Rows.fnExactMarginalDateRow.holds Try.pinned (OpenSpec.ofChange Rows.fnExactMarginalDateSpec) :=
  OpenClaim.holds_of_wide 6 Try.f6 rfl rfl rfl rfl rfl rfl rfl ⟨rfl, rfl, rfl, rfl, rfl⟩ rfl rfl rfl rfl rfl (by kernel_rfl) Try.func6 (by kernel_rfl)
    (of_decide_eq_true (by kernel_rfl)) (by unfold Func.isWrapper; first | (rw [if_pos (by decide +kernel)]; kernel_rfl) | (rw [if_neg (by decide +kernel)]; exact ⟨rfl, rfl⟩))
    (fun os started H enc _ => lifted hw os started H enc)
end Go.Proofs.Ytfbgekhkbbhggaa.FMarginalDate

namespace Go.Proofs.Ytfbgekhkbbhggaa
theorem fnExactMarginalDate_proved : Rows.FnExactMarginalDateSaid := FMarginalDate.over (WMarginalDate.walk MgM.mdP (fun a1 a2 a3 n1 n2 n3 l m Z t w h => MgI.impl_any a1 a2 a3 n1 n1 n2 n2 n3 n3 l m Z t w h) (fun a1 a2 a3 n1 n2 n3 l m Z t w h => MgS.spec_any a1 a2 a3 n1 n1 n2 n2 n3 n3 l m Z t w h))
#print axioms fnExactMarginalDate_proved
end Go.Proofs.Ytfbgekhkbbhggaa

