/- FnExactDateBounds: at every argument DateBounds answers as its model does, shares no memory, and leaves its argument as it was. No condition. -/
import Derived.Test.YtfbgekhkbbhggaaChE
import Derived.Test.YtfbgekhkbbhggaaDr
import Derived.Test.YtfbgekhkbbhggaaWaS
import Derived.Test.YtfbgekhkbbhggaaGood2
import Derived.Test.YtfbgekhkbbhggaaQsw
import Derived.Test.YtfbgekhkbbhggaaRdI
import Derived.BigQuiet
import Derived.Lib.QuietBelow
import Derived.Test.YtfbgekhkbbhggaaExI
import Derived.Test.YtfbgekhkbbhggaaVdI
import Derived.Test.YtfbgekhkbbhggaaZm
import Derived.Test.YtfbgekhkbbhggaaAppI
import Derived.Deep.Cut
import Derived.Test.YtfbgekhkbbhggaaVdS
import Derived.Test.YtfbgekhkbbhggaaDrS
namespace Go.Proofs.Ytfbgekhkbbhggaa.WtS
open Go Go.RowKit Pairs Rec Keep GivesI Zh Dr DvM ChM ChE Find2 GoodM AtM
set_option linter.unusedVariables false
theorem resp_next {l m : List (Int × Int)} {r : Nat} {x : Int × Int} (h : m[r]? = some x) (ys : List Int) : resp l (m.take (r + 1)) ys = (resp l (m.take r) ys && decide (ys.getD (pos l x.2) 0 ≤ ys.getD (pos l x.1) 0)) := by
  unfold resp
  rw [List.take_add_one, h, List.all_append]
  simp
theorem resp_bad {l m : List (Int × Int)} {x : Int × Int} (h : x ∈ m) {ys : List Int} (hb : ys.getD (pos l x.1) 0 < ys.getD (pos l x.2) 0) : resp l m ys = false := by
  unfold resp
  rw [Bool.eq_false_iff, ne_eq, List.all_eq_true]
  intro hh
  have := of_decide_eq_true (hh x h)
  omega
set_option maxRecDepth 100000 in
set_option maxHeartbeats 8000000 in
theorem respects_any (a1 a2 : Option Addr) (n1 c1 n2 c2 : Nat) (l m : List (Int × Int)) (p : Option Addr) (k c : Nat) (ys : List Int) (w : World) (s1 : n1 ≤ 1048576) (s2 : n2 ≤ 1048576) (h1 : Holds w a1 n1 l) (h2 : Holds w a2 n2 m) (hy : HoldsI w p k ys) (hg : good l m = true) (hk : k = n1) :
    Calls Try.prog 106 #[.agg #[.slice a1 n1 c1, .slice a2 n2 c2], .slice p k c] w fun e w' => e = .returned (.bool (resp l m ys)) ∧ Below w.heap.size w w' := by
  have hb := below_alloc w (.cells #[.slice a1 n1 c1, .slice a2 n2 c2] 34)
  have f1 := box_first w (.slice a1 n1 c1) (.slice a2 n2 c2) 34
  have f2 := box_second w (.slice a1 n1 c1) (.slice a2 n2 c2) 34
  have hlt : w.heap.size < (w.alloc (.cells #[.slice a1 n1 c1, .slice a2 n2 c2] 34)).heap.size := by simp
  have H1 := Lib.hid (h1.below hb)
  have H2 := Lib.hid (h2.below hb)
  have HY := Lib.hid (hy.below hb)
  have HB := Lib.hid hb
  have HG := Lib.hid (GoodE.good_is hg)
  have hl1 := Lib.hid h1.1
  have hl2 := Lib.hid h2.1
  clear h1 h2 hy hb hg
  go_enter Try.func106, Try.ntmps106
  go_wp2_with fail
  generalize w.alloc (.cells #[.slice a1 n1 c1, .slice a2 n2 c2] 34) = W at *
  go_loopw [5] (fun s5 wr => ∃ (r : Nat), r ≤ n2 ∧ s5 = .int .i64 r ∧ Hid (resp l (m.take r) ys = true) ∧ Hid (Below w.heap.size w wr ∧ Below W.heap.size W wr)) (fun s5 _ => n2 - (intOf s5).toNat)
  case atStart => exact ⟨0, Nat.zero_le _, rfl, rfl, HB.out, Below.refl _ _⟩
  case round =>
    obtain ⟨r, hr, rfl, HP, HR⟩ := hrel
    have g1 := (HR.out.2.cell (p := ⟨w.heap.size, 0, none⟩) hlt).trans f1
    have g2 := (HR.out.2.cell (p := ⟨w.heap.size, 1, none⟩) hlt).trans f2
    by_cases hrn : r < n2
    · have hrr : (r : Int) < (n2 : Int) := by omega
      have hr0 : (0 : Int) ≤ (r : Int) := by omega
      obtain ⟨b2, o2, x, y, rfl, hm, e4, e5⟩ := (H2.out.below HR.out.2).at r hrn
      obtain ⟨hne, ⟨u1, hu1⟩, v1, hv1⟩ := HG.out.rel (x, y) (List.mem_of_getElem? hm)
      obtain ⟨i, hi⟩ := GoodE.isAt_of_mem hu1
      obtain ⟨j, hj⟩ := GoodE.isAt_of_mem hv1
      have hil := (isAt_nb hi).1
      have hjl := (isAt_nb hj).1
      rw [hl1.out] at hil hjl
      have hfi := find_some hi
      have hfj := find_some hj
      have hpi : pos l x = i := by unfold pos; rw [hfi]; simp
      have hpj : pos l y = j := by unfold pos; rw [hfj]; simp
      have HN := Lib.hid (resp_next (l := l) hm ys)
      have HBAD := Lib.hid (fun h => resp_bad (l := l) (List.mem_of_getElem? hm) (ys := ys) h)
      simp only [hpi, hpj] at HN HBAD
      have hba := below_alloc wr (.cells #[.int .i64 x, .int .i64 y] 125)
      have t0 := box_first wr (.int .i64 x) (.int .i64 y) 125
      have t1 := box_second wr (.int .i64 x) (.int .i64 y) 125
      have q1 := (hba.cell (p := ⟨w.heap.size, 0, none⟩) (World.block_lt_of_cell? wr _ g1)).trans g1
      have q2 := (hba.cell (p := ⟨w.heap.size, 1, none⟩) (World.block_lt_of_cell? wr _ g2)).trans g2
      have HR3 := Lib.hid (And.intro (HR.out.1.trans (hba.mono HR.out.1.size)) (HR.out.2.trans (hba.mono HR.out.2.size)))
      obtain ⟨by_, oy, u, rfl, hu, e1⟩ := (HY.out.below HR3.out.2).at i (by omega)
      obtain ⟨by', oy', v, hbb, hv, e2⟩ := (HY.out.below HR3.out.2).at j (by omega)
      injection hbb with hbb
      injection hbb with hbb hoo
      subst hbb hoo
      have gu : ys.getD i 0 = u := by rw [List.getD_eq_getElem?_getD, hu]; rfl
      have gv : ys.getD j 0 = v := by rw [List.getD_eq_getElem?_getD, hv]; rfl
      simp only [gu, gv] at HN HBAD
      have hik : i < k := by omega
      have hjk : j < k := by omega
      clear hm hne hu1 hv1 hu hv gu gv hi hj hba hpi hpj u1 v1
      go_wp2_with fail
      generalize wr.alloc (.cells #[.int .i64 x, .int .i64 y] 125) = V at *
      have cX : ∀ d os, Calls Try.prog 66 #[.agg #[.slice a1 n1 c1, .slice (some ⟨b2, o2, none⟩) n2 c2], .int .i64 x] (Sort.grow (redrawn V d) os) fun e w'' => e = .returned (.int .i64 (i : Int)) ∧ ∃ p : Regrown, w'' = Sort.grow (redrawn V p.d) p.os := fun d os => by
        have := Calls.regrown_of (l2Find_any a1 (some ⟨b2, o2, none⟩) n1 c1 n2 c2 l x _ (by omega) ((H1.out.below HR3.out.2).below (below_regrown V d os)))
        rwa [hfi] at this
      have cY : ∀ d os, Calls Try.prog 66 #[.agg #[.slice a1 n1 c1, .slice (some ⟨b2, o2, none⟩) n2 c2], .int .i64 y] (Sort.grow (redrawn V d) os) fun e w'' => e = .returned (.int .i64 (j : Int)) ∧ ∃ p : Regrown, w'' = Sort.grow (redrawn V p.d) p.os := fun d os => by
        have := Calls.regrown_of (l2Find_any a1 (some ⟨b2, o2, none⟩) n1 c1 n2 c2 l y _ (by omega) ((H1.out.below HR3.out.2).below (below_regrown V d os)))
        rwa [hfj] at this
      have k1 := cell_regrown q1
      have k2 := cell_regrown q2
      have k3 := cell_regrown t0
      have k4 := cell_regrown t1
      have k5 := cell_regrown e1
      have k6 := cell_regrown e2
      have hik' : (i : Int) < (k : Int) := by omega
      have hjk' : (j : Int) < (k : Int) := by omega
      have hi0 : (0 : Int) ≤ (i : Int) := by omega
      have hj0 : (0 : Int) ≤ (j : Int) := by omega
      refine wp_region_quiet_below (by kernel_rfl) (by kernel_rfl) ?_
      repeat (go_big_quiet_step ((go_at_call 66; (first | with_reducible exact cX _ _ | with_reducible exact cY _ _))))
      refine wpQuiet_nil ?_
      intro _ hw'
      obtain ⟨⟨dq, osq⟩, hw''⟩ := hw'
      subst hw''
      have HBQ := Lib.hid (below_regrown V dq osq)
      clear k1 k2 k3 k4 k5 k6 cX cY t0 t1 q1 q2 e1 e2 hfi hfj
      generalize Sort.grow (redrawn V dq) osq = W5 at *
      have HR5 := Lib.hid (And.intro (HR3.out.1.trans (HBQ.out.mono HR3.out.1.size)) (HR3.out.2.trans (HBQ.out.mono HR3.out.2.size)))
      by_cases hlt2 : u < v
      · have HF := Lib.hid (HBAD.out hlt2)
        go_wp2_with fail
        go_ret
        exact ⟨by rw [HF.out]; rfl, HR5.out.1⟩
      · have HP2 : Hid (resp l (m.take (r + 1)) ys = true) := by
          unfold Hid
          rw [HN.out, HP.out]
          simp
          omega
        go_wp2_with fail
        go_roundw
        case rel =>
          first | exact ⟨r + 1, by omega, by go_num, HP2, HR5⟩ | exact ⟨r + 1, by omega, by omega, HP2⟩
        case measure => simp [intOf]; omega
    · obtain rfl : r = n2 := by omega
      have ht : m.take r = m := List.take_of_length_le (by rw [hl2.out]; exact Nat.le_refl _)
      have HF := Lib.hid (show resp l m ys = true by have := HP.out; rwa [ht] at this)
      have hrr : ¬ (r : Int) < (r : Int) := by omega
      go_wp2_with fail
      go_ret
      exact ⟨by rw [HF.out]; rfl, HR.out.1⟩
theorem l10At_wide (f : Int) (p : Option Addr) (n c : Nat) (M : List Int) (y : Int) (w : World) (hn : n ≤ 1048576) (hf : -1000000 ≤ f ∧ f ≤ 1000000) (h : HoldsI w p n M) :
    Calls Try.prog 87 #[.agg #[.int .i64 f, .slice p n c], .int .i64 y] w fun e w' => e = .returned (.int .i64 (wat f M y)) ∧ Below w.heap.size w w' := by
  by_cases hy : -1000000000 ≤ y ∧ y ≤ 1000000000
  · exact WaS.l10At_any f p n c M y w hn (by omega) hy h
  have hb := below_alloc w (.cells #[.int .i64 f, .slice p n c] 50)
  have f1 := box_first w (.int .i64 f) (.slice p n c) 50
  have f2 := box_second w (.int .i64 f) (.slice p n c) 50
  have hl := h.1
  have HO := Lib.hid (AtM.wat_out (f := f) (M := M) (y := y) (by rw [hl]; omega))
  clear h hl
  go_enter Try.func87, Try.ntmps87
  go_wp2_with fail
  refine (Good2.l1In_false y f (f + n - 1) (by omega) _).mono ?_
  rintro e w1 ⟨rfl, rfl⟩
  go_wp2_with fail
  go_ret
  exact ⟨by rw [HO.out]; rfl, hb⟩
end Go.Proofs.Ytfbgekhkbbhggaa.WtS

namespace Go.Proofs.Ytfbgekhkbbhggaa.WgtS
open Go Go.RowKit Pairs Rec Keep GivesI Zh Dr DvM ChM ChE Find2 GoodM AtM WtS
set_option linter.unusedVariables false
/-- Beginnings of the product. -/
theorem prd_next {Z : List Zh.Pt} {ys : List Int} {k : Nat} {x : Zh.Pt} {y : Int} (hx : Z[k]? = some x) (hy : ys[k]? = some y) : prd (Z.take (k + 1)) (ys.take (k + 1)) = prd (Z.take k) (ys.take k) * wat x.1 x.2 y := by
  have h1 := (List.getElem?_eq_some_iff.1 hx).1
  have h2 := (List.getElem?_eq_some_iff.1 hy).1
  rw [List.take_add_one, List.take_add_one, hx, hy]
  exact prd_app _ _ _ _ (by rw [List.length_take, List.length_take]; omega)
set_option maxRecDepth 100000 in
set_option maxHeartbeats 8000000 in
theorem weight_any (a1 a2 a3 : Option Addr) (n1 c1 n2 c2 n3 c3 : Nat) (l m : List (Int × Int)) (Z : List Zh.Pt) (p : Option Addr) (k c : Nat) (ys : List Int) (w : World) (h : Arg w a1 n1 a2 n2 a3 n3 l m Z) (hv : Vd l m Z) (hy : HoldsI w p k ys) (hk : k = n3) :
    Calls Try.prog 60 #[.agg #[.slice a1 n1 c1, .slice a2 n2 c2, .slice a3 n3 c3], .slice p k c] w fun e w' => e = .returned (.int .i64 (wt l m Z ys)) ∧ Below w.heap.size w w' := by
  have hb := below_alloc w (.cells #[.slice a1 n1 c1, .slice a2 n2 c2, .slice a3 n3 c3] 37)
  obtain ⟨f1, f2, f3⟩ := box3 w (.slice a1 n1 c1) (.slice a2 n2 c2) (.slice a3 n3 c3) 37
  have hlt : w.heap.size < (w.alloc (.cells #[.slice a1 n1 c1, .slice a2 n2 c2, .slice a3 n3 c3] 37)).heap.size := by simp
  have H := Lib.hid (h.below hb)
  have HY := Lib.hid (hy.below hb)
  have HB := Lib.hid hb
  have HV := Lib.hid hv
  have s1 := h.s1
  have s2 := h.s2
  have s3 := h.s3
  have hl1 := Lib.hid h.h1.1
  have hl3 := Lib.hid h.h3.1
  have hyl := Lib.hid hy.1
  have hk1 : k = n1 := by have := hv.len; have := h.h1.1; have := h.h3.1; omega
  have HK := Lib.hid hk
  have HK1 := Lib.hid hk1
  clear h hy hb hv hk hk1
  obtain ⟨r, hr⟩ : ∃ r, r = wt l m Z ys := ⟨_, rfl⟩
  rw [← hr]
  have HR := Lib.hid hr
  clear hr
  go_enter Try.func60, Try.ntmps60
  go_wp2_with fail
  generalize w.alloc (.cells #[.slice a1 n1 c1, .slice a2 n2 c2, .slice a3 n3 c3] 37) = W at *
  refine (respects_any a1 a2 n1 c1 n2 c2 l m p k c ys W s1 s2 H.out.h1 H.out.h2 HY.out HV.out.good HK1.out).mono ?_
  rintro e w1 ⟨rfl, b1⟩
  have g3 := (b1.cell (p := ⟨w.heap.size, 2, none⟩) hlt).trans f3
  have H1 := Lib.hid (H.out.below b1)
  have HY1 := Lib.hid (HY.out.below b1)
  have HB1 := Lib.hid (HB.out.trans (b1.mono HB.out.size))
  have hlt1 := Nat.lt_of_lt_of_le hlt b1.size
  clear b1 f1 f2 f3 hlt H HY HB
  cases hrs : resp l m ys with
  | false =>
    have HN := Lib.hid (show r = 0 by have := HR.out; unfold wt at this; rw [hrs] at this; simpa using this)
    go_wp2_with fail
    go_ret
    exact ⟨by rw [HN.out]; rfl, HB1.out⟩
  | true =>
    have HN := Lib.hid (show r = prd Z ys by have := HR.out; unfold wt at this; rw [hrs] at this; simpa using this)
    clear hrs
    go_wp2_with fail
    go_loopw [5, 6] (fun s5 s6 wr => ∃ (j : Nat) (P : Int), j ≤ k ∧ s6 = .int .i64 j ∧ s5 = .int .i64 P ∧ Hid (P = prd (Z.take j) (ys.take j)) ∧ Hid (Below w.heap.size w wr ∧ Below w1.heap.size w1 wr)) (fun _ s6 _ => k - (intOf s6).toNat)
    case atStart => exact ⟨0, 1, Nat.zero_le _, rfl, rfl, rfl, HB1.out, Below.refl _ _⟩
    case round =>
      obtain ⟨j, P, hj, rfl, rfl, HP, HW⟩ := hrel
      by_cases hjk : j < k
      · have hji : (j : Int) < (k : Int) := by omega
        have hj0 : (0 : Int) ≤ (j : Int) := by omega
        have hjn : (j : Int) < (n3 : Int) := by have := HK.out; omega
        obtain ⟨b, off, f, M, q, jz, cz, rfl, hx, e1, e2, hM⟩ := (H1.out.h3.below HW.out.2).at j (by have := HK.out; omega)
        obtain ⟨by_, oy, y, rfl, hyy, e3⟩ := (HY1.out.below HW.out.2).at j hjk
        have hsz : jz ≤ 1048576 := by
          have h1 := H1.out.sm _ (List.mem_of_getElem? hx)
          have h2 := hM.1
          simp only at h1
          omega
        have ho := okZ_mem HV.out.each (List.mem_of_getElem? hx)
        have hlo := (okD_iff.1 ho).lo
        have hhi := (okD_iff.1 ho).hi
        have hpos := (okD_iff.1 ho).pos
        have HM := Lib.hid hM
        have HT := Lib.hid (prd_next hx hyy)
        have hbd := prd_bd (ys.take (j + 1)) (okZ_take HV.out.each (j + 1))
        have hle := (part_le HV.out.each (j + 1)).2.2.2
        have hms := HV.out.sums
        have g3' := (HW.out.2.cell (p := ⟨w.heap.size, 2, none⟩) hlt1).trans g3
        rw [HT.out, ← HP.out] at hbd
        have HT2 : Hid (P * wat f M y = prd (Z.take (j + 1)) (ys.take (j + 1))) := by
          unfold Hid
          rw [HT.out, ← HP.out]
        have cA : ∀ d os, Calls Try.prog 87 #[.agg #[.int .i64 f, .slice q jz cz], .int .i64 y] (Sort.grow (redrawn wr d) os) fun e w'' => e = .returned (.int .i64 (wat f M y)) ∧ ∃ p : Regrown, w'' = Sort.grow (redrawn wr p.d) p.os := fun d os => Calls.regrown_of (l10At_wide f q jz cz M y _ hsz (by simp only at hlo hhi hpos; omega) (HM.out.below (below_regrown wr d os)))
        simp only at hbd
        obtain ⟨u, hu⟩ : ∃ u, u = wat f M y := ⟨_, rfl⟩
        rw [← hu] at cA hbd HT2
        have hw : IntKind.i64.wrap (P * u) = P * u := by rw [IntKind.wrap_i64]; omega
        have k1 := cell_regrown g3'
        have k2 := cell_regrown e1
        have k3 := cell_regrown e2
        have k4 := cell_regrown e3
        clear hx hyy hM ho hlo hhi hpos hle hms hu HT
        go_wp2_with fail
        refine wp_region_quiet_below (by kernel_rfl) (by kernel_rfl) ?_
        repeat (go_big_quiet_step ((go_at_call 87; exact cA _ _)))
        refine wpQuiet_nil ?_
        intro _ hw'
        obtain ⟨⟨dq, osq⟩, hw''⟩ := hw'
        subst hw''
        have HBQ := Lib.hid (below_regrown wr dq osq)
        clear k1 k2 k3 k4 cA e1 e2 e3 g3'
        generalize Sort.grow (redrawn wr dq) osq = W5 at *
        have HW5 := Lib.hid (And.intro (HW.out.1.trans (HBQ.out.mono HW.out.1.size)) (HW.out.2.trans (HBQ.out.mono HW.out.2.size)))
        generalize P * u = P' at *
        go_wp2_with fail
        exact ⟨⟨j + 1, P', by omega, by go_num, rfl, HT2, HW5⟩, by simp [intOf]; omega⟩
      · obtain rfl : j = k := by omega
        have hjj : ¬ (j : Int) < (j : Int) := by omega
        have e1 : Z.take j = Z := List.take_of_length_le (by rw [hl3.out, HK.out]; exact Nat.le_refl _)
        have e2 : ys.take j = ys := List.take_of_length_le (by rw [hyl.out]; exact Nat.le_refl _)
        have HF := Lib.hid (show r = P by have := HP.out; rw [e1, e2] at this; rw [HN.out, this])
        go_wp2_with fail
        go_ret
        exact ⟨by rw [HF.out]; rfl, HW.out.1⟩
end Go.Proofs.Ytfbgekhkbbhggaa.WgtS

namespace Go.Proofs.Ytfbgekhkbbhggaa.YnS
open Go Go.RowKit Pairs Rec Keep GivesI Zh Dr DvM ChM ChE
set_option linter.unusedVariables false
/-- The years under way: the first j are not there yet. -/
def Yl (Z : List Zh.Pt) (n j : Nat) : List Int := List.replicate j 0 ++ (dig Z n).drop j
theorem yl_len {Z : List Zh.Pt} {n j : Nat} (h : j ≤ Z.length) : (Yl Z n j).length = Z.length := by
  unfold Yl
  rw [List.length_append, List.length_replicate, List.length_drop, dig_len]
  omega
theorem dig_at : ∀ {Z : List Zh.Pt} {n i : Nat} {x : Zh.Pt}, Z[i]? = some x → (dig Z n)[i]? = some (x.1 + ((n / (cnt (Z.drop (i + 1))).toNat % x.2.length : Nat) : Int))
  | [], _, _, _, h => by simp at h
  | y :: Z, n, 0, x, h => by
    obtain rfl : y = x := by simpa using h
    rfl
  | y :: Z, n, i + 1, x, h => by
    have := dig_at (Z := Z) (n := n) (i := i) (x := x) (by simpa using h)
    show (dig Z n)[i]? = _
    rw [this]
    rfl
theorem yl_set {Z : List Zh.Pt} {n i : Nat} {x : Zh.Pt} (h : Z[i]? = some x) : (Yl Z n (i + 1)).set i (x.1 + ((n / (cnt (Z.drop (i + 1))).toNat % x.2.length : Nat) : Int)) = Yl Z n i := by
  have hi := (List.getElem?_eq_some_iff.1 h).1
  have hd := dig_at (n := n) h
  apply List.ext_getElem?
  intro j
  unfold Yl
  by_cases e : j = i
  · subst e
    rw [List.getElem?_set_self (by rw [List.length_append, List.length_replicate]; omega), List.getElem?_append_right (by rw [List.length_replicate]; exact Nat.le_refl _), List.length_replicate, Nat.sub_self, List.getElem?_drop]
    exact hd.symm
  · rw [List.getElem?_set_ne (Ne.symm e)]
    by_cases hj : j < i
    · rw [List.getElem?_append_left (by rw [List.length_replicate]; omega), List.getElem?_append_left (by rw [List.length_replicate]; omega), List.getElem?_replicate, List.getElem?_replicate, if_pos (by omega), if_pos hj]
    · rw [List.getElem?_append_right (by rw [List.length_replicate]; omega), List.getElem?_append_right (by rw [List.length_replicate]; omega), List.length_replicate, List.length_replicate, List.getElem?_drop, List.getElem?_drop]
      congr 1
      omega
theorem ints_set (L : List Int) (j : Nat) (x : Int) : (ints L).set j (.int .i64 x) = ints (L.set j x) := RdI.ints_set L j x
theorem zeros_is (n : Nat) (Z : List Zh.Pt) (k : Nat) (h : Z.length = k) : (List.replicate k (Value.int .i64 0)) = ints (Yl Z n k) := by
  unfold Yl
  rw [List.drop_of_length_le (by rw [dig_len, h]; exact Nat.le_refl _), List.append_nil]
  unfold ints
  rw [List.map_replicate]
theorem made_zeros (k : Nat) : (madeCells (Value.int .i64 0).cells (k * 1)).toList = List.replicate k (Value.int .i64 0) := by
  rw [Nat.mul_one]
  exact toList_madeCells_one _ _
def YnAns (Z : List Zh.Pt) (n : Nat) (w : World) (e : Ending) (w' : World) : Prop := ∃ g : Nat, e = .returned (.slice (some ⟨g, 0, none⟩) Z.length Z.length) ∧ w'.ownsRow w.heap.size 3 1 (.slice (some ⟨g, 0, none⟩) Z.length Z.length) Z.length (ints (dig Z n)) ∧ Below w.heap.size w w'
set_option maxRecDepth 100000 in
set_option maxHeartbeats 8000000 in
theorem years_any (a1 a2 a3 : Option Addr) (n1 c1 n2 c2 n3 c3 : Nat) (l m : List (Int × Int)) (Z : List Zh.Pt) (n : Nat) (w : World) (h : Arg w a1 n1 a2 n2 a3 n3 l m Z) (hz : okZ Z = true) (hn : n ≤ 1048576) :
    Calls Try.prog 64 #[.agg #[.slice a1 n1 c1, .slice a2 n2 c2, .slice a3 n3 c3], .int .i64 n] w (YnAns Z n w) := by
  obtain ⟨i0, hi, hy0, hy1, hy2⟩ := info_parts IntT.infoI
  have hb := below_alloc w (.cells #[.slice a1 n1 c1, .slice a2 n2 c2, .slice a3 n3 c3] 37)
  obtain ⟨f1, f2, f3⟩ := box3 w (.slice a1 n1 c1) (.slice a2 n2 c2) (.slice a3 n3 c3) 37
  have hlt : w.heap.size < (w.alloc (.cells #[.slice a1 n1 c1, .slice a2 n2 c2, .slice a3 n3 c3] 37)).heap.size := by simp
  have H := Lib.hid (h.below hb)
  have HB := Lib.hid hb
  have s3 := h.s3
  have HL := Lib.hid h.h3.1
  have HZ := Lib.hid hz
  obtain ⟨B, hB⟩ : ∃ B, (w.alloc (.cells #[.slice a1 n1 c1, .slice a2 n2 c2, .slice a3 n3 c3] 37)).heap.size = B := ⟨_, rfl⟩
  have HBB := Lib.hid hB
  have HBW := Lib.hid (show w.heap.size ≤ B by rw [← hB]; simp)
  clear h hb hB hz
  unfold YnAns
  rw [HL.out]
  go_enter Try.func64, Try.ntmps64
  go_wp2_with (at_make; refine wpList_make_full _ rfl _ _ 41 rfl B 3 i0 (.int .i64 0) 1 Try.underlying41 hi hy0 hy1 .i64 .i64 _ _ n3 rfl rfl (by omega) (by omega) (by rw [hy2]; omega) (by unfold maxLen; omega) (by rw [HBB.out]; exact Nat.le_refl _) ?_; intro w1 hown hgrow; have g3 := (World.cell?_of_block (hgrow.block w.heap.size hlt (by intro e; cases e))).trans f3; have HOG := Lib.hid (And.intro hown hgrow); clear hown hgrow)
  have hown := HOG.out.1
  have hgrow := HOG.out.2
  rw [HBB.out] at hown
  have hB1 : w.heap.size + 1 = B := by rw [← HBB.out]; simp
  rw [hB1]
  have hz0 : n3 * 1 = n3 := by omega
  have HO : Hid (w1.ownsRow B 3 1 (.slice (some ⟨B, 0, none⟩) n3 n3) n3 (ints (Yl Z n n3)) ∧ Below w.heap.size w w1 ∧ Below B (w.alloc (.cells #[.slice a1 n1 c1, .slice a2 n2 c2, .slice a3 n3 c3] 37)) w1) := by
    refine ⟨?_, HB.out.grown hgrow HB.out.size (fun k hk => by cases hk), ?_⟩
    · rw [← zeros_is n Z n3 HL.out, ← made_zeros n3]
      exact hown
    · rw [← HBB.out]
      exact (Below.refl _ _).grown hgrow (Nat.le_refl _) (fun k hk => by cases hk)
  clear hown hgrow HOG
  have HB1 := Lib.hid hB1
  clear hB1
  go_loopw [1, 6] (fun s1 s6 wr => ∃ j : Nat, j ≤ n3 ∧ s6 = .int .i64 ((j : Int) - 1) ∧ s1 = .int .i64 (n / (cnt (Z.drop j)).toNat : Nat) ∧ Hid (wr.ownsRow B 3 1 (.slice (some ⟨B, 0, none⟩) n3 n3) n3 (ints (Yl Z n j)) ∧ Below w.heap.size w wr ∧ Below B (w.alloc (.cells #[.slice a1 n1 c1, .slice a2 n2 c2, .slice a3 n3 c3] 37)) wr)) (fun _ s6 _ => (intOf s6 + 1).toNat)
  case atStart =>
    refine ⟨n3, Nat.le_refl _, rfl, ?_, HO⟩
    rw [List.drop_of_length_le (by rw [HL.out]; exact Nat.le_refl _)]
    show Value.int .i64 (n : Int) = .int .i64 ((n / 1 : Nat) : Int)
    rw [Nat.div_one]
  case round =>
    obtain ⟨j, hj, rfl, rfl, HR⟩ := hrel
    clear HO
    have hBA : Below (w.alloc (.cells #[.slice a1 n1 c1, .slice a2 n2 c2, .slice a3 n3 c3] 37)).heap.size (w.alloc (.cells #[.slice a1 n1 c1, .slice a2 n2 c2, .slice a3 n3 c3] 37)) wr := by
      rw [HBB.out]; exact HR.out.2.2
    have q3 := (hBA.cell (p := ⟨w.heap.size, 2, none⟩) hlt).trans f3
    rcases Nat.eq_zero_or_pos j with h0 | hjp
    · subst h0
      have hneg : ¬ (0 : Int) ≤ ((0 : Nat) : Int) - 1 := by omega
      have HE := Lib.hid (show ints (Yl Z n 0) = ints (dig Z n) by unfold Yl; simp)
      clear hBA
      go_wp2_with fail
      go_ret
      exact ⟨B, rfl, by rw [← HE.out]; exact ownsRow_base HR.out.1 HBW.out, HR.out.2.1⟩
    · obtain ⟨i, rfl⟩ : ∃ i, j = i + 1 := ⟨j - 1, by omega⟩
      obtain ⟨b, off, f, M, q, jz, cz, rfl, hx, e1, e2, hM⟩ := (H.out.h3.below hBA).at i (by omega)
      have hod := okZ_mem HZ.out (List.mem_of_getElem? hx)
      have hlo := (okD_iff.1 hod).lo
      have hhi := (okD_iff.1 hod).hi
      have hlen := (okD_iff.1 hod).len
      have hpos := (okD_iff.1 hod).pos
      simp only at hlo hhi hlen hpos
      have hjz : M.length = jz := hM.1
      rw [hjz] at hhi hlen hpos
      have HSET := Lib.hid (yl_set (n := n) hx)
      have HDIV := Lib.hid (show n / (cnt (Z.drop (i + 1))).toNat / jz = n / (cnt (Z.drop i)).toNat by
        have h1 : Z.drop i = (f, M) :: Z.drop (i + 1) := by
          rw [List.drop_eq_getElem_cons (List.getElem?_eq_some_iff.1 hx).1]
          congr 1
          exact (List.getElem?_eq_some_iff.1 hx).2
        rw [h1, cnt_nat _ _ (okZ_drop HZ.out (i + 1)), Nat.div_div_eq_div_mul]
        show n / ((cnt (Z.drop (i + 1))).toNat * jz) = n / (M.length * (cnt (Z.drop (i + 1))).toNat)
        rw [hjz, Nat.mul_comm])
      obtain ⟨N, hN⟩ : ∃ N, N = n / (cnt (Z.drop (i + 1))).toNat := ⟨_, rfl⟩
      have hNn : N ≤ n := by rw [hN]; exact Nat.div_le_self _ _
      rw [← hN] at HDIV HSET
      rw [← hN]
      simp only at HSET
      rw [hjz] at HSET
      have hii : ((i + 1 : Nat) : Int) - 1 = (i : Int) := by omega
      have hi0 : (0 : Int) ≤ (i : Int) := by omega
      have hin : (i : Int) < (n3 : Int) := by omega
      have hk0 : ¬ (jz : Int) = 0 := by omega
      have hmod : 0 ≤ (N : Int) % (jz : Int) ∧ (N : Int) % (jz : Int) < (jz : Int) := ⟨Int.emod_nonneg _ hk0, Int.emod_lt_of_pos _ (by omega)⟩
      have hwr : IntKind.i64.wrap (f + (N : Int) % (jz : Int)) = f + (N : Int) % (jz : Int) := by rw [IntKind.wrap_i64]; omega
      obtain ⟨v0, hv0⟩ : ∃ v0, wr.cell? ⟨B, i, none⟩ = some v0 := by
        have h1 := HR.out.1.1
        refine ⟨(ints (Yl Z n (i + 1)))[i], ?_⟩
        rw [HR.out.1.cellAt i (by omega), List.getElem?_eq_getElem (by omega)]
      have hf0 := HR.out.1.frozenAt i
      rw [hii]
      clear hM hx hod hBA hN hii
      go_wp2_with fail
      have k1 := cell_regrown q3
      have k2 := cell_regrown e1
      refine Qsw.region_at_p 13 (by kernel_rfl) (by kernel_rfl) ?_
      simp only [List.take_succ_cons, List.take_zero, List.drop_succ_cons, List.drop_zero]
      repeat (go_big_quiet_step (fail))
      refine wpQuiet_nil ?_
      intro _ hw'
      obtain ⟨⟨dq, osq⟩, hw''⟩ := hw'
      subst hw''
      have HBQ := Lib.hid (below_regrown wr dq osq)
      have hgx : B < wr.heap.size := World.block_lt_of_cell? wr _ hv0
      clear k1 k2 q3 e1 e2
      replace hv0 := (HBQ.out.cell (p := ⟨B, i, none⟩) hgx).trans hv0
      replace hf0 := (HBQ.out.frozen (p := ⟨B, i, none⟩) hgx).trans hf0
      have HR2 := Lib.hid (And.intro (ownsRow_below HR.out.1 HBQ.out) (And.intro (HR.out.2.1.trans (HBQ.out.mono HR.out.2.1.size)) (HR.out.2.2.trans (HBQ.out.mono (by omega)))))
      generalize Sort.grow (redrawn wr dq) osq = w6 at *
      have HD2 : Hid ((N : Int) / (jz : Int) = ((n / (cnt (Z.drop i)).toNat : Nat) : Int)) := by
        unfold Hid
        rw [← HDIV.out]
        rfl
      have hdv : 0 ≤ (N : Int) / (jz : Int) ∧ (N : Int) / (jz : Int) ≤ (N : Int) := ⟨Int.ediv_nonneg (by omega) (by omega), Int.ediv_le_self _ (by omega)⟩
      have hwd : IntKind.i64.wrap ((N : Int) / (jz : Int)) = (N : Int) / (jz : Int) := by rw [IntKind.wrap_i64]; omega
      clear hdv
      go_wp2_with fail
      refine ⟨⟨i, by omega, rfl, by rw [HD2.out], ?_, ?_, ?_⟩, by simp [intOf]⟩
      · have h1 := (HR2.out.1.stored i (.int .i64 (f + (N : Int) % (jz : Int)))).1
        rw [ints_set] at h1
        have h2 := HSET.out
        rw [show ((N % jz : Nat) : Int) = (N : Int) % (jz : Int) from rfl] at h2
        rw [h2] at h1
        exact h1
      · exact HR2.out.2.1.setCell (p := ⟨B, i, none⟩) HBW.out _
      · exact HR2.out.2.2.setCell (p := ⟨B, i, none⟩) (Nat.le_refl _) _
end Go.Proofs.Ytfbgekhkbbhggaa.YnS

namespace Go.Proofs.Ytfbgekhkbbhggaa.MnS
open Go Go.RowKit Pairs Rec Keep GivesI Zh Dr DvM ChM ChE
set_option linter.unusedVariables false
set_option maxRecDepth 100000 in
set_option maxHeartbeats 8000000 in
theorem many_any (a1 a2 a3 : Option Addr) (n1 c1 n2 c2 n3 c3 : Nat) (l m : List (Int × Int)) (Z : List Zh.Pt) (w : World) (h : Arg w a1 n1 a2 n2 a3 n3 l m Z) (hv : Vd l m Z) :
    Calls Try.prog 63 #[.agg #[.slice a1 n1 c1, .slice a2 n2 c2, .slice a3 n3 c3]] w fun e w' => e = .returned (.int .i64 (cnt Z)) ∧ Below w.heap.size w w' := by
  have hb := below_alloc w (.cells #[.slice a1 n1 c1, .slice a2 n2 c2, .slice a3 n3 c3] 37)
  obtain ⟨f1, f2, f3⟩ := box3 w (.slice a1 n1 c1) (.slice a2 n2 c2) (.slice a3 n3 c3) 37
  have H := Lib.hid (h.below hb)
  have HB := Lib.hid hb
  have HL := Lib.hid h.h3.1
  have HV := Lib.hid hv
  have s3 := h.s3
  clear h hb hv
  go_enter Try.func63, Try.ntmps63
  go_wp2_with fail
  generalize w.alloc (.cells #[.slice a1 n1 c1, .slice a2 n2 c2, .slice a3 n3 c3] 37) = W at *
  go_loopw [3, 4] (fun s3 s4 wr => ∃ (j : Nat) (C : Int), j ≤ n3 ∧ s4 = .int .i64 j ∧ s3 = .int .i64 C ∧ Hid (C = cnt (Z.take j)) ∧ wr = W) (fun _ s4 _ => n3 - (intOf s4).toNat)
  case atStart => exact ⟨0, 1, Nat.zero_le _, rfl, rfl, rfl, rfl⟩
  case round =>
    obtain ⟨j, C, hj, rfl, rfl, HC, rfl⟩ := hrel
    by_cases hjn : j < n3
    · obtain ⟨b, off, f, M, q, jz, cz, rfl, hx, e1, e2, hM⟩ := H.out.h3.at j hjn
      have hlen := (okD_iff.1 (okZ_mem HV.out.each (List.mem_of_getElem? hx))).len
      simp only at hlen
      have hjz : M.length = jz := hM.1
      rw [hjz] at hlen
      have hle := part_le HV.out.each (j + 1)
      have hle0 := part_le HV.out.each j
      have hmany := HV.out.many
      have HT : Hid (C * (jz : Int) = cnt (Z.take (j + 1))) := by
        unfold Hid
        rw [(take_next hx).1, ← HC.out]
        show C * (jz : Int) = C * (M.length : Int)
        rw [hjz]
      rw [← HC.out] at hle0
      rw [← HT.out] at hle
      have hwr : IntKind.i64.wrap (C * (jz : Int)) = C * (jz : Int) := by rw [IntKind.wrap_i64]; omega
      have hji : (j : Int) < (n3 : Int) := by omega
      have hj0 : (0 : Int) ≤ (j : Int) := by omega
      clear hx hM hjz hle hle0 hmany
      go_wp2_with fail
      exact ⟨⟨j + 1, C * (jz : Int), by omega, by go_num, rfl, HT, trivial⟩, by simp [intOf]; omega⟩
    · obtain rfl : j = n3 := by omega
      have hjj : ¬ (j : Int) < (j : Int) := by omega
      have HE := Lib.hid (show C = cnt Z by rw [HC.out, List.take_of_length_le (by rw [HL.out]; exact Nat.le_refl _)])
      go_wp2_with fail
      go_ret
      exact ⟨by rw [← HE.out]; rfl, HB.out⟩
end Go.Proofs.Ytfbgekhkbbhggaa.MnS

namespace Go.Proofs.Ytfbgekhkbbhggaa.CnM
open DvM ChM ChE GoodM
set_option linter.unusedVariables false
/-- The sum of the weights. -/
def sw (L : List (List Int × Int)) : Int := (L.map (·.2)).sum
theorem sw_app (L : List (List Int × Int)) (x : List Int × Int) : sw (L ++ [x]) = sw L + x.2 := by
  unfold sw
  rw [List.map_append, List.sum_append]
  simp
theorem sw_next {L : List (List Int × Int)} {n : Nat} {x : List Int × Int} (h : L[n]? = some x) : sw (L.take (n + 1)) = sw (L.take n) + x.2 := by
  rw [List.take_add_one, h]
  exact sw_app _ _
theorem sw_bd {m : Int} (hm : 0 ≤ m) : ∀ L : List (List Int × Int), (∀ x ∈ L, 0 ≤ x.2 ∧ x.2 ≤ m) → 0 ≤ sw L ∧ sw L ≤ m * L.length
  | [], _ => by simp [sw]
  | x :: L, h => by
    have ih := sw_bd hm L (fun y hy => h y (List.mem_cons_of_mem _ hy))
    have h1 := h x List.mem_cons_self
    have e : sw (x :: L) = x.2 + sw L := rfl
    rw [e, List.length_cons, show ((L.length + 1 : Nat) : Int) = (L.length : Int) + 1 from rfl, Int.mul_add, Int.mul_one]
    omega
/-- Those with a weight. -/
def ps (L : List (List Int × Int)) : List (List Int × Int) := L.filter fun x => decide (0 < x.2)
theorem ps_next {L : List (List Int × Int)} {n : Nat} {x : List Int × Int} (h : L[n]? = some x) : ps (L.take (n + 1)) = ps (L.take n) ++ (if 0 < x.2 then [x] else []) := by
  unfold ps
  rw [List.take_add_one, h, List.filter_append]
  congr 1
  show [x].filter _ = _
  rw [List.filter_cons]
  simp
theorem sw_ps : ∀ L : List (List Int × Int), (∀ x ∈ L, 0 ≤ x.2) → sw (ps L) = sw L
  | [], _ => rfl
  | x :: L, h => by
    have ih := sw_ps L (fun y hy => h y (List.mem_cons_of_mem _ hy))
    have h1 := h x List.mem_cons_self
    unfold ps
    rw [List.filter_cons]
    have e : sw (x :: L) = x.2 + sw L := rfl
    by_cases h2 : 0 < x.2
    · rw [if_pos (by simpa using h2)]
      show x.2 + sw (ps L) = _
      rw [ih, e]
    · rw [if_neg (by simpa using h2)]
      show sw (ps L) = _
      rw [ih, e]
      omega
theorem al_bd {l m : List (Int × Int)} {Z : List Pt} (h : Vd l m Z) : ∀ x ∈ al l m Z, 0 ≤ x.2 ∧ x.2 ≤ sms Z := by
  intro x hx
  unfold al at hx
  obtain ⟨t, _, rfl⟩ := List.mem_map.1 hx
  exact wt_bd t h.each
theorem al_many {l m : List (Int × Int)} {Z : List Pt} (h : Vd l m Z) : (al l m Z).length ≤ 5000 := by
  rw [al_len h.each]
  have := h.many
  omega
theorem sw_le : ∀ {L : List (List Int × Int)} (n : Nat), (∀ x ∈ L, 0 ≤ x.2) → 0 ≤ sw (L.take n) ∧ sw (L.take n) ≤ sw L
  | [], n, _ => by simp [sw]
  | x :: L, 0, h => by
    have e : sw (x :: L) = x.2 + sw L := rfl
    have h1 := h x List.mem_cons_self
    have ih := sw_le (L := L) 0 (fun y hy => h y (List.mem_cons_of_mem _ hy))
    rw [List.take_zero] at *
    have e0 : sw ([] : List (List Int × Int)) = 0 := rfl
    rw [e0] at *
    rw [e]
    omega
  | x :: L, n + 1, h => by
    have e : sw (x :: L) = x.2 + sw L := rfl
    have h1 := h x List.mem_cons_self
    have ih := sw_le (L := L) n (fun y hy => h y (List.mem_cons_of_mem _ hy))
    rw [List.take_succ_cons, e]
    have e2 : sw (x :: L.take n) = x.2 + sw (L.take n) := rfl
    rw [e2]
    omega
/-- The sum of all weights is within the product of the sums. -/
theorem prods_sum (l m : List (Int × Int)) : ∀ Z : List Pt, okZ Z = true → ((prods Z).map (prd Z)).sum = sms Z
  | [], _ => by simp [prods, prd, sms]
  | x :: Z, h => by
    obtain ⟨h1, h2⟩ := okZ_cons.1 h
    have ih := prods_sum l m Z h2
    unfold prods
    rw [map_flat]
    have e : ∀ ys : List Int, ((ys.flatMap fun y => ((prods Z).map (y :: ·)).map (prd (x :: Z)))).sum = (ys.map (AtM.wat x.1 x.2)).sum * sms Z := by
      intro ys
      induction ys with
      | nil => simp
      | cons y ys ihy =>
        rw [List.flatMap_cons, List.sum_append, ihy, List.map_cons, List.sum_cons, Int.add_mul, List.map_map]
        congr 1
        have e2 : ∀ ts : List (List Int), (ts.map (prd (x :: Z) ∘ fun t => y :: t)).sum = AtM.wat x.1 x.2 y * (ts.map (prd Z)).sum := by
          intro ts
          induction ts with
          | nil => simp
          | cons t ts iht =>
            rw [List.map_cons, List.sum_cons, iht, List.map_cons, List.sum_cons, Int.mul_add]
            rfl
        rw [e2, ih]
    rw [e, AtM.map_wat]
    rfl
theorem wt_le {l m : List (Int × Int)} {Z : List Pt} (h : okZ Z = true) (t : List Int) : wt l m Z t ≤ prd Z t := by
  unfold wt
  split
  · exact Int.le_refl _
  · exact (prd_bd t h).1
theorem sum_le {f g : List Int → Int} (h : ∀ t, f t ≤ g t) : ∀ L : List (List Int), (L.map f).sum ≤ (L.map g).sum
  | [] => by simp
  | t :: L => by
    rw [List.map_cons, List.map_cons, List.sum_cons, List.sum_cons]
    have := h t
    have := sum_le h L
    omega
theorem sw_al {l m : List (Int × Int)} {Z : List Pt} (h : Vd l m Z) : sw (al l m Z) ≤ 1000000000000000 := by
  have h1 := h.sums
  rw [← prods_sum l m Z h.each] at h1
  have h2 := sum_le (f := wt l m Z) (g := prd Z) (wt_le h.each) (prods Z)
  unfold sw al
  rw [List.map_map]
  have e : ((fun x : List Int × Int => x.2) ∘ fun t => (t, wt l m Z t)) = wt l m Z := rfl
  rw [e]
  omega
/-- What CountDatings answers. -/
def cnP (l m : List (Int × Int)) (Z : List Pt) : Int × Int × Bool := if vd l m Z = true then (((dts l m Z).length : Int), sw (dts l m Z), true) else (0, 0, false)
theorem cnP_no {l m : List (Int × Int)} {Z : List Pt} (h : vd l m Z = false) : cnP l m Z = (0, 0, false) := by
  unfold cnP
  rw [h]
  rfl
theorem cnP_yes {l m : List (Int × Int)} {Z : List Pt} (h : vd l m Z = true) : cnP l m Z = (((dts l m Z).length : Int), sw (dts l m Z), true) := by
  unfold cnP
  rw [if_pos h]
end Go.Proofs.Ytfbgekhkbbhggaa.CnM

namespace Go.Proofs.Ytfbgekhkbbhggaa.CnI
open Go Go.RowKit Pairs Rec Keep GivesI Zh Dr DvM ChM ChE DtT ExI CnM
set_option linter.unusedVariables false
theorem own_at {V : World} {B n d : Nat} {q : Option Addr} {L : List Dg} (h : OwnT V B (.slice q n d) n L) (i : Nat) (hi : i < n) :
    ∃ (g : Nat) (p : Option Addr) (k c : Nat) (ys : List Int) (z : Int), q = some ⟨g, 0, none⟩ ∧ L[i]? = some (ys, z) ∧ V.cell? ⟨g, i * 2, none⟩ = some (.slice p k c) ∧ V.cell? ⟨g, i * 2 + 1, none⟩ = some (.int .i64 z) ∧ V.ownsRow B 3 1 (.slice p k c) k (ints ys) := by
  have hl := h.len
  obtain ⟨vs, h1, h2⟩ := h
  have hx := List.getElem?_eq_getElem (l := L) (i := i) (by omega)
  obtain ⟨p, k, c, e1, e2, e3⟩ := h2.2 i L[i].1 L[i].2 hx
  have hlen : vs.length = n * 2 := h1.1
  have hs : ∃ g, q = some ⟨g, 0, none⟩ := by
    rcases h1.2 with ⟨_, h0⟩ | ⟨g, cap, cur, hv, _⟩
    · omega
    · injection hv with e
      exact ⟨g, e⟩
  obtain ⟨g, rfl⟩ := hs
  refine ⟨g, p, k, c, L[i].1, L[i].2, rfl, hx, ?_, ?_, e3⟩
  · rw [h1.cellAt _ (by omega)]; exact e1
  · rw [h1.cellAt _ (by omega)]; exact e2
set_option maxRecDepth 100000 in
set_option maxHeartbeats 8000000 in
theorem impl_any (a1 a2 a3 : Option Addr) (n1 c1 n2 c2 n3 c3 : Nat) (l m : List (Int × Int)) (Z : List Zh.Pt) (w : World) (h : Arg w a1 n1 a2 n2 a3 n3 l m Z) :
    Calls Try.prog 24 #[.agg #[.slice a1 n1 c1, .slice a2 n2 c2, .slice a3 n3 c3]] w fun e w' => e = .returned (.tuple #[.int .i64 (cnP l m Z).1, .int .i64 (cnP l m Z).2.1, .bool (cnP l m Z).2.2]) ∧ Below w.heap.size w w' := by
  have hb := below_alloc w (.cells #[.slice a1 n1 c1, .slice a2 n2 c2, .slice a3 n3 c3] 37)
  obtain ⟨f1, f2, f3⟩ := box3 w (.slice a1 n1 c1) (.slice a2 n2 c2) (.slice a3 n3 c3) 37
  have hlt : w.heap.size < (w.alloc (.cells #[.slice a1 n1 c1, .slice a2 n2 c2, .slice a3 n3 c3] 37)).heap.size := by simp
  have H := Lib.hid (h.below hb)
  have HB := Lib.hid hb
  clear h hb
  obtain ⟨r, hr⟩ : ∃ r, r = cnP l m Z := ⟨_, rfl⟩
  rw [← hr]
  have HR := Lib.hid hr
  clear hr
  go_enter Try.func24, Try.ntmps24
  go_wp2_with fail
  generalize w.alloc (.cells #[.slice a1 n1 c1, .slice a2 n2 c2, .slice a3 n3 c3] 37) = W at *
  refine (VdI.valid_any a1 a2 a3 n1 c1 n2 c2 n3 c3 l m Z W H.out).mono ?_
  rintro e w1 ⟨rfl, b1⟩
  have g1 := (b1.cell (p := ⟨w.heap.size, 0, none⟩) hlt).trans f1
  have g2 := (b1.cell (p := ⟨w.heap.size, 1, none⟩) hlt).trans f2
  have g3 := (b1.cell (p := ⟨w.heap.size, 2, none⟩) hlt).trans f3
  have H1 := Lib.hid (H.out.below b1)
  have HB1 := Lib.hid (HB.out.trans (b1.mono HB.out.size))
  clear b1 f1 f2 f3 hlt H HB
  cases hg : vd l m Z with
  | false =>
    have HN := Lib.hid (HR.out.trans (cnP_no hg))
    clear hg
    go_wp2_with fail
    go_ret3
    exact ⟨by rw [HN.out]; rfl, HB1.out⟩
  | true =>
    have HV := Lib.hid (vd_iff.1 hg)
    have HN := Lib.hid (HR.out.trans (cnP_yes hg))
    clear hg
    go_wp2_with fail
    refine (datings_any l m Z HV.out a1 a2 a3 n1 c1 n2 c2 n3 c3 w1 H1.out).mono ?_
    rintro e w2 ⟨q, n, d, rfl, o2, b2⟩
    have HB2 := Lib.hid (HB1.out.trans (b2.mono HB1.out.size))
    have hlen := o2.len
    have hlim : n ≤ 5000 := by
      have h1 := al_many HV.out
      have h2 := List.length_filter_le (fun x : List Int × Int => decide (0 < x.2)) (al l m Z)
      rw [hlen, dts_is HV.out]
      omega
    have HL := Lib.hid hlen
    have HO := Lib.hid o2
    have HSW := Lib.hid (show sw (dts l m Z) ≤ 1000000000000000 ∧ ∀ x ∈ dts l m Z, 0 ≤ x.2 by
      rw [dts_is HV.out]
      have h1 : ∀ x ∈ al l m Z, 0 ≤ x.2 := fun x hx => (al_bd HV.out x hx).1
      exact ⟨by have := sw_ps _ h1; unfold ps at this; rw [this]; exact sw_al HV.out, fun x hx => h1 x (List.mem_filter.1 hx).1⟩)
    clear b2 o2 hlen
    go_wp2_with fail
    go_loopw [6, 16] (fun s6 s16 wr => ∃ (j : Nat) (S : Int), j ≤ n ∧ s16 = .int .i64 j ∧ s6 = .int .i64 S ∧ Hid (S = sw ((dts l m Z).take j)) ∧ Hid (Below w.heap.size w wr ∧ Below w2.heap.size w2 wr)) (fun _ s16 _ => n - (intOf s16).toNat)
    case atStart => exact ⟨0, 0, Nat.zero_le _, rfl, rfl, rfl, HB2.out, Below.refl _ _⟩
    case round =>
      obtain ⟨j, S, hj, rfl, rfl, HS, HW⟩ := hrel
      by_cases hjn : j < n
      · obtain ⟨g, p, k, c, ys, z, rfl, hx, e1, e2, e3⟩ := own_at (HO.out.below HW.out.2) j hjn
        have hnx := sw_next hx
        have hb1 := sw_le (L := dts l m Z) (j + 1) HSW.out.2
        have hb0 := HSW.out.1
        rw [hnx, ← HS.out] at hb1
        simp only at hb1
        have HS2 : Hid (S + z = sw ((dts l m Z).take (j + 1))) := by unfold Hid; rw [hnx, ← HS.out]
        have hwr : IntKind.i64.wrap (S + z) = S + z := by rw [IntKind.wrap_i64]; omega
        have hji : (j : Int) < (n : Int) := by omega
        have hj0 : (0 : Int) ≤ (j : Int) := by omega
        have hba := below_alloc wr (.cells #[.slice p k c, .int .i64 z] 94)
        have HW2 := Lib.hid (And.intro (HW.out.1.trans (hba.mono HW.out.1.size)) (HW.out.2.trans (hba.mono HW.out.2.size)))
        clear hx e3 hnx hb1 hb0 hba
        go_wp2_with fail
        exact ⟨⟨j + 1, S + z, by omega, by go_num, rfl, HS2, HW2⟩, by simp [intOf]; omega⟩
      · obtain rfl : j = n := by omega
        have hjj : ¬ (j : Int) < (j : Int) := by omega
        have HE := Lib.hid (show r = ((j : Int), S, true) by
          rw [HN.out, HS.out, List.take_of_length_le (by rw [← HL.out]; exact Nat.le_refl _), ← HL.out])
        go_wp2_with fail
        go_ret3
        exact ⟨by rw [HE.out]; rfl, HW.out.1⟩
end Go.Proofs.Ytfbgekhkbbhggaa.CnI

namespace Go.Proofs.Ytfbgekhkbbhggaa.CeM
open DvM ChM ChE GoodM GoodE Find2 CnM
set_option linter.unusedVariables false
/-- What a dating adds. -/
def ef (i k : Nat) (x : List Int × Int) : Int := if x.1.getD i 0 < x.1.getD k 0 then x.2 else 0
def es (i k : Nat) (L : List (List Int × Int)) : Int := (L.map (ef i k)).sum
theorem es_next {i k : Nat} {L : List (List Int × Int)} {n : Nat} {x : List Int × Int} (h : L[n]? = some x) : es i k (L.take (n + 1)) = es i k (L.take n) + ef i k x := by
  unfold es
  rw [List.take_add_one, h, List.map_append, List.sum_append]
  simp
theorem ef_bd {i k : Nat} {x : List Int × Int} (h : 0 ≤ x.2) : 0 ≤ ef i k x ∧ ef i k x ≤ x.2 := by
  unfold ef
  split <;> omega
theorem es_bd {i k : Nat} : ∀ {L : List (List Int × Int)}, (∀ x ∈ L, 0 ≤ x.2) → 0 ≤ es i k L ∧ es i k L ≤ sw L
  | [], _ => by simp [es, sw]
  | x :: L, h => by
    have e1 : es i k (x :: L) = ef i k x + es i k L := rfl
    have e2 : sw (x :: L) = x.2 + sw L := rfl
    have h1 := ef_bd (i := i) (k := k) (h x List.mem_cons_self)
    have ih := es_bd (i := i) (k := k) (L := L) (fun y hy => h y (List.mem_cons_of_mem _ hy))
    rw [e1, e2]
    omega
theorem es_ps {i k : Nat} : ∀ L : List (List Int × Int), (∀ x ∈ L, 0 ≤ x.2) → es i k (ps L) = es i k L
  | [], _ => rfl
  | x :: L, h => by
    have ih := es_ps (i := i) (k := k) L (fun y hy => h y (List.mem_cons_of_mem _ hy))
    have h1 := ef_bd (i := i) (k := k) (h x List.mem_cons_self)
    have e1 : es i k (x :: L) = ef i k x + es i k L := rfl
    unfold ps
    rw [List.filter_cons]
    by_cases h2 : 0 < x.2
    · rw [if_pos (by simpa using h2)]
      show ef i k x + es i k (ps L) = _
      rw [ih, e1]
    · rw [if_neg (by simpa using h2)]
      show es i k (ps L) = _
      rw [ih, e1]
      omega
/-- What ChanceOfOrder answers. -/
def ceP (l m : List (Int × Int)) (Z : List Pt) (a b : Int) : Int × Int × Bool :=
  if vd l m Z = true ∧ (isAt l a).isSome = true ∧ (isAt l b).isSome = true then (es (pos l a) (pos l b) (dts l m Z), sw (dts l m Z), true) else (0, 0, false)
theorem ceP_no {l m : List (Int × Int)} {Z : List Pt} {a b : Int} (h : vd l m Z = true → (isAt l a).isSome = true → (isAt l b).isSome = true → False) : ceP l m Z a b = (0, 0, false) := by
  unfold ceP
  rw [if_neg fun e => h e.1 e.2.1 e.2.2]
theorem ceP_yes {l m : List (Int × Int)} {Z : List Pt} {a b : Int} (h1 : vd l m Z = true) (h2 : (isAt l a).isSome = true) (h3 : (isAt l b).isSome = true) : ceP l m Z a b = (es (pos l a) (pos l b) (dts l m Z), sw (dts l m Z), true) := by
  unfold ceP
  rw [if_pos ⟨h1, h2, h3⟩]
theorem pos_is {l : List (Int × Int)} {n : Int} {i : Nat} (h : isAt l n = some i) : pos l n = i := by
  unfold pos
  rw [find_some h]
  simp
/-- The program's place is the model's. -/
theorem pl_is {l : List (Int × Int)} (hA : Asc l) {n : Int} {i : Nat} (h : isAt l n = some i) : pl l n = i := by
  obtain ⟨hi, hn⟩ := isAt_nb h
  have hx := List.getElem?_eq_getElem hi
  rw [nb_of hx] at hn
  refine pl_eq (by omega) (fun j x hj hjx => ?_) (fun x hx2 => ?_)
  · obtain ⟨d, rfl⟩ : ∃ d, i = j + d + 1 := ⟨i - j - 1, by omega⟩
    have := hA.lt d j x _ hjx hx
    omega
  · rw [hx] at hx2
    injection hx2 with hx2
    rw [← hx2]
    omega
theorem dts_len {l m : List (Int × Int)} {Z : List Pt} (h : Vd l m Z) : ∀ x ∈ dts l m Z, x.1.length = Z.length := by
  intro x hx
  rw [dts_is h] at hx
  have h1 := (List.mem_filter.1 hx).1
  unfold al at h1
  obtain ⟨t, ht, rfl⟩ := List.mem_map.1 h1
  exact prods_len ht
theorem asc_of {l m : List (Int × Int)} (h : good l m = true) : Asc l := by
  have hg := good_is h
  intro i x y hx hy
  have hi := (List.getElem?_eq_some_iff.1 hx)
  have hj := (List.getElem?_eq_some_iff.1 hy)
  have := List.pairwise_iff_getElem.1 hg.asc i (i + 1) hi.1 hj.1 (by omega)
  rw [hi.2, hj.2] at this
  exact this
end Go.Proofs.Ytfbgekhkbbhggaa.CeM

namespace Go.Proofs.Ytfbgekhkbbhggaa.BdM
open DvM Yr AtM Find2 GoodM ChM ChE CnM
set_option linter.unusedVariables false
/-- Years within the distributions. -/
def rng : List Pt → List Int → Prop
  | [], [] => True
  | x :: Z, y :: t => (x.1 ≤ y ∧ y ≤ x.1 + x.2.length - 1) ∧ rng Z t
  | _, _ => False
theorem rng_len : ∀ {Z : List Pt} {t : List Int}, rng Z t → t.length = Z.length
  | [], [], _ => rfl
  | x :: Z, y :: t, h => by simp [rng_len h.2]
  | [], _ :: _, h => h.elim
  | _ :: _, [], h => h.elim
theorem rng_dig : ∀ {Z : List Pt} (n : Nat), okZ Z = true → rng Z (dig Z n)
  | [], _, _ => trivial
  | x :: Z, n, h => by
    obtain ⟨h1, h2⟩ := okZ_cons.1 h
    have hpos := (okD_iff.1 h1).pos
    have hm := Nat.mod_lt (n / (cnt Z).toNat) hpos
    refine ⟨⟨?_, ?_⟩, rng_dig n h2⟩
    · show x.1 ≤ x.1 + ((n / (cnt Z).toNat % x.2.length : Nat) : Int)
      omega
    · show x.1 + ((n / (cnt Z).toNat % x.2.length : Nat) : Int) ≤ _
      omega
/-- The number of a list of years. -/
def num : List Pt → List Int → Nat
  | x :: Z, y :: t => (y - x.1).toNat * (cnt Z).toNat + num Z t
  | _, _ => 0
theorem num_lt : ∀ {Z : List Pt} {t : List Int}, okZ Z = true → rng Z t → num Z t < (cnt Z).toNat
  | [], [], _, _ => by decide
  | x :: Z, y :: t, h, hr => by
    obtain ⟨h1, h2⟩ := okZ_cons.1 h
    have ih := num_lt h2 hr.2
    rw [cnt_nat x Z h2]
    show (y - x.1).toNat * (cnt Z).toNat + num Z t < _
    have h3 : (y - x.1).toNat + 1 ≤ x.2.length := by have := hr.1; omega
    have h4 : ((y - x.1).toNat + 1) * (cnt Z).toNat ≤ x.2.length * (cnt Z).toNat := Nat.mul_le_mul_right _ h3
    rw [Nat.add_mul, Nat.one_mul] at h4
    omega
  | [], _ :: _, _, h => h.elim
  | _ :: _, [], _, h => h.elim
theorem dig_num : ∀ {Z : List Pt} {t : List Int}, okZ Z = true → rng Z t → dig Z (num Z t) = t
  | [], [], _, _ => rfl
  | x :: Z, y :: t, h, hr => by
    obtain ⟨h1, h2⟩ := okZ_cons.1 h
    have ih := dig_num h2 hr.2
    have hl := num_lt h2 hr.2
    have h3 : (y - x.1).toNat < x.2.length := by have := hr.1; omega
    show (x.1 + ((((y - x.1).toNat * (cnt Z).toNat + num Z t) / (cnt Z).toNat % x.2.length : Nat) : Int)) :: dig Z ((y - x.1).toNat * (cnt Z).toNat + num Z t) = _
    rw [dig_mod Z h2, ih, Nat.add_comm, Nat.add_mul_div_right _ _ (by omega), Nat.div_eq_of_lt hl, Nat.zero_add, Nat.mod_eq_of_lt h3]
    congr 1
    have := hr.1
    omega
  | [], _ :: _, _, h => h.elim
  | _ :: _, [], _, h => h.elim
/-- Years at most others. -/
def le (a b : List Int) : Prop := ∀ i, a.getD i 0 ≤ b.getD i 0
theorem le_cons {y v : Int} {t u : List Int} (h : le (y :: t) (v :: u)) : y ≤ v ∧ le t u := ⟨h 0, fun i => h (i + 1)⟩
theorem num_mono : ∀ {Z : List Pt} {t u : List Int}, rng Z t → rng Z u → le t u → num Z t ≤ num Z u
  | [], [], [], _, _, _ => Nat.le_refl _
  | x :: Z, y :: t, v :: u, h1, h2, h => by
    obtain ⟨h3, h4⟩ := le_cons h
    have ih := num_mono h1.2 h2.2 h4
    show (y - x.1).toNat * (cnt Z).toNat + num Z t ≤ (v - x.1).toNat * (cnt Z).toNat + num Z u
    have h5 : (y - x.1).toNat * (cnt Z).toNat ≤ (v - x.1).toNat * (cnt Z).toNat := Nat.mul_le_mul_right _ (by omega)
    omega
  | [], _ :: _, _, h, _, _ => h.elim
  | _ :: _, [], _, h, _, _ => h.elim
  | [], _, _ :: _, _, h, _ => h.elim
  | _ :: _, _, [], _, h, _ => h.elim
/-- The least, or the greatest: one of the two, and it grows with both. -/
structure Pk (f : Int → Int → Int) : Prop where
  pick : ∀ a b, f a b = a ∨ f a b = b
  mono : ∀ a b c d, a ≤ c → b ≤ d → f a b ≤ f c d
theorem pk_min : Pk min := ⟨fun a b => by omega, fun a b c d _ _ => by omega⟩
theorem pk_max : Pk max := ⟨fun a b => by omega, fun a b c d _ _ => by omega⟩
theorem zip_at {f : Int → Int → Int} {t u : List Int} (hl : t.length = u.length) (h0 : f 0 0 = 0) (i : Nat) : (List.zipWith f t u).getD i 0 = f (t.getD i 0) (u.getD i 0) := by
  simp only [List.getD_eq_getElem?_getD, List.getElem?_zipWith]
  by_cases h : i < t.length
  · rw [List.getElem?_eq_getElem h, List.getElem?_eq_getElem (by omega)]
    rfl
  · rw [List.getElem?_eq_none (by omega), List.getElem?_eq_none (by omega)]
    simp [h0]
theorem rng_zip {f : Int → Int → Int} (hf : Pk f) : ∀ {Z : List Pt} {t u : List Int}, rng Z t → rng Z u → rng Z (List.zipWith f t u)
  | [], [], [], _, _ => trivial
  | x :: Z, y :: t, v :: u, h1, h2 => by
    refine ⟨?_, rng_zip hf h1.2 h2.2⟩
    have := h1.1
    have := h2.1
    rcases hf.pick y v with e | e <;> rw [e] <;> omega
  | [], _ :: _, _, h, _ => h.elim
  | _ :: _, [], _, h, _ => h.elim
  | [], _, _ :: _, _, h => h.elim
  | _ :: _, _, [], _, h => h.elim
theorem wt_zip {f : Int → Int → Int} (hf : Pk f) (h0 : f 0 0 = 0) {l m : List (Int × Int)} {Z : List Pt} (hz : okZ Z = true) {t u : List Int} (ht : rng Z t) (hu : rng Z u) (h1 : 0 < wt l m Z t) (h2 : 0 < wt l m Z u) : 0 < wt l m Z (List.zipWith f t u) := by
  have hl : t.length = u.length := by rw [rng_len ht, rng_len hu]
  unfold wt at *
  by_cases r1 : resp l m t = true
  · by_cases r2 : resp l m u = true
    · rw [if_pos r1] at h1
      rw [if_pos r2] at h2
      have r3 : resp l m (List.zipWith f t u) = true := by
        unfold resp at *
        rw [List.all_eq_true] at *
        intro r hr
        have e1 := of_decide_eq_true (r1 r hr)
        have e2 := of_decide_eq_true (r2 r hr)
        rw [decide_eq_true_eq, zip_at hl h0, zip_at hl h0]
        exact hf.mono _ _ _ _ e1 e2
      rw [if_pos r3]
      have g1 := (prd_pos hz (rng_len ht)).1 h1
      have g2 := (prd_pos hz (rng_len hu)).1 h2
      refine (prd_pos hz (rng_len (rng_zip hf ht hu))).2 fun i x y hx hy => ?_
      rw [List.getElem?_zipWith] at hy
      cases hti : t[i]? with
      | none => rw [hti] at hy; cases hy
      | some a =>
        cases hui : u[i]? with
        | none => rw [hti, hui] at hy; cases hy
        | some b =>
          rw [hti, hui] at hy
          have e : f a b = y := by simpa using hy
          rw [← e]
          rcases hf.pick a b with e2 | e2 <;> rw [e2]
          · exact g1 i x a hx hti
          · exact g2 i x b hx hui
    · rw [if_neg r2] at h2
      omega
  · rw [if_neg r1] at h1
    omega
/-- The first one that a filter leaves. -/
theorem first_of {α : Type} (p : α → Bool) : ∀ (L : List α) (a : α) (T : List α), L.filter p = a :: T → ∃ n : Nat, L[n]? = some a ∧ p a = true ∧ ∀ (k : Nat) (b : α), L[k]? = some b → p b = true → n ≤ k
  | [], a, T, h => by cases h
  | x :: L, a, T, h => by
    rw [List.filter_cons] at h
    by_cases hp : p x = true
    · rw [if_pos hp] at h
      injection h with h1 h2
      subst h1
      exact ⟨0, rfl, hp, fun k b _ _ => Nat.zero_le k⟩
    · rw [if_neg hp] at h
      obtain ⟨n, h1, h2, h3⟩ := first_of p L a T h
      refine ⟨n + 1, by simpa using h1, h2, fun k b hk hb => ?_⟩
      cases k with
      | zero =>
        obtain rfl : x = b := by simpa using hk
        exact absurd hb hp
      | succ k => have := h3 k b (by simpa using hk) hb; omega
theorem last_of {α : Type} (p : α → Bool) : ∀ (L : List α) (a : α) (T : List α), L.filter p = T ++ [a] → ∃ n : Nat, L[n]? = some a ∧ p a = true ∧ ∀ (k : Nat) (b : α), L[k]? = some b → p b = true → k ≤ n
  | [], a, T, h => by cases T <;> cases h
  | x :: L, a, T, h => by
    rw [List.filter_cons] at h
    by_cases hp : p x = true
    · rw [if_pos hp] at h
      cases T with
      | nil =>
        injection h with h1 h2
        subst h1
        refine ⟨0, rfl, hp, fun k b hk hb => ?_⟩
        cases k with
        | zero => exact Nat.le_refl _
        | succ k =>
          have h3 : b ∈ L.filter p := List.mem_filter.2 ⟨List.mem_of_getElem? (by simpa using hk), hb⟩
          rw [h2] at h3
          cases h3
      | cons y T =>
        injection h with h1 h2
        obtain ⟨n, g1, g2, g3⟩ := last_of p L a T h2
        refine ⟨n + 1, by simpa using g1, g2, fun k b hk hb => ?_⟩
        cases k with
        | zero => omega
        | succ k => have := g3 k b (by simpa using hk) hb; omega
    · rw [if_neg hp] at h
      obtain ⟨n, g1, g2, g3⟩ := last_of p L a T h
      refine ⟨n + 1, by simpa using g1, g2, fun k b hk hb => ?_⟩
      cases k with
      | zero => omega
      | succ k => have := g3 k b (by simpa using hk) hb; omega
theorem al_mem {l m : List (Int × Int)} {Z : List Pt} (h : Vd l m Z) {n : Nat} {x : List Int × Int} (hx : (al l m Z)[n]? = some x) : n < (cnt Z).toNat ∧ x.1 = dig Z n ∧ x.2 = wt l m Z (dig Z n) := by
  have hn := (List.getElem?_eq_some_iff.1 hx).1
  rw [al_len h.each] at hn
  rw [al_at h.each hn] at hx
  injection hx with hx
  subst hx
  exact ⟨hn, rfl, rfl⟩
theorem dts_mem {l m : List (Int × Int)} {Z : List Pt} (h : Vd l m Z) {x : List Int × Int} (hx : x ∈ dts l m Z) : ∃ n, n < (cnt Z).toNat ∧ x.1 = dig Z n ∧ 0 < wt l m Z (dig Z n) := by
  rw [dts_is h] at hx
  obtain ⟨h1, h2⟩ := List.mem_filter.1 hx
  obtain ⟨n, hn⟩ := List.getElem?_of_mem h1
  obtain ⟨g1, g2, g3⟩ := al_mem h hn
  exact ⟨n, g1, g2, by rw [← g3]; simpa using h2⟩
theorem al_num {l m : List (Int × Int)} {Z : List Pt} (h : Vd l m Z) {t : List Int} (ht : rng Z t) : (al l m Z)[num Z t]? = some (t, wt l m Z t) := by
  rw [al_at h.each (num_lt h.each ht), dig_num h.each ht]
theorem num_dig {Z : List Pt} (h : okZ Z = true) {n : Nat} (hn : n < (cnt Z).toNat) : num Z (dig Z n) = n := by
  have e1 := prods_is h
  have hlt := num_lt h (rng_dig n h)
  have e2 := dig_num h (rng_dig n h)
  -- both numbers give the same list; the lists are all different
  have inj : ∀ {Z : List Pt}, okZ Z = true → ∀ a b, a < (cnt Z).toNat → b < (cnt Z).toNat → dig Z a = dig Z b → a = b := by
    intro Z
    induction Z with
    | nil => intro _ a b ha hb _; have : (cnt []).toNat = 1 := rfl; omega
    | cons x Z ih =>
      intro hz a b ha hb he
      obtain ⟨h1, h2⟩ := okZ_cons.1 hz
      rw [cnt_nat x Z h2] at ha hb
      have hc : 0 < (cnt Z).toNat := by have := (pos_of_okZ h2).1; omega
      injection he with e3 e4
      have ea : a / (cnt Z).toNat < x.2.length := Nat.div_lt_of_lt_mul (by rw [Nat.mul_comm]; exact ha)
      have eb : b / (cnt Z).toNat < x.2.length := Nat.div_lt_of_lt_mul (by rw [Nat.mul_comm]; exact hb)
      rw [Nat.mod_eq_of_lt ea, Nat.mod_eq_of_lt eb] at e3
      have e5 : a / (cnt Z).toNat = b / (cnt Z).toNat := by omega
      have da := Nat.div_add_mod a (cnt Z).toNat
      have db := Nat.div_add_mod b (cnt Z).toNat
      have ga : dig Z a = dig Z (a % (cnt Z).toNat) := by
        have := dig_mod Z h2 (a / (cnt Z).toNat) (a % (cnt Z).toNat)
        rw [Nat.mul_comm, da] at this
        exact this
      have gb : dig Z b = dig Z (b % (cnt Z).toNat) := by
        have := dig_mod Z h2 (b / (cnt Z).toNat) (b % (cnt Z).toNat)
        rw [Nat.mul_comm, db] at this
        exact this
      rw [ga, gb] at e4
      have := ih h2 _ _ (Nat.mod_lt _ hc) (Nat.mod_lt _ hc) e4
      rw [e5] at da
      omega
  exact inj h _ _ hlt hn e2
/-- The first dating has the least years. -/
theorem first_le {l m : List (Int × Int)} {Z : List Pt} (h : Vd l m Z) {a : List Int × Int} {T : List (List Int × Int)} (hd : dts l m Z = a :: T) : ∀ x ∈ dts l m Z, le a.1 x.1 := by
  intro x hx
  obtain ⟨n, hn, hx1, hx2⟩ := dts_mem h hx
  rw [dts_is h] at hd
  obtain ⟨n0, h1, h2, h3⟩ := first_of _ _ _ _ hd
  obtain ⟨g1, g2, g3⟩ := al_mem h h1
  have ha : 0 < wt l m Z (dig Z n0) := by rw [← g3]; simpa using h2
  have ra := rng_dig n0 h.each
  have rx := rng_dig n h.each
  have rz := rng_zip pk_min ra rx
  have hw := wt_zip pk_min (by decide) h.each ra rx ha hx2
  have hle : n0 ≤ num Z (List.zipWith min (dig Z n0) (dig Z n)) := h3 _ _ (al_num h rz) (by simpa using hw)
  have hl : (dig Z n0).length = (dig Z n).length := by rw [dig_len, dig_len]
  have hmn := num_mono rz ra (fun i => by rw [zip_at hl (by decide)]; omega)
  rw [num_dig h.each g1] at hmn
  have he : num Z (List.zipWith min (dig Z n0) (dig Z n)) = n0 := by omega
  have hz : List.zipWith min (dig Z n0) (dig Z n) = dig Z n0 := by rw [← dig_num h.each rz, he]
  intro i
  rw [g2, hx1, ← hz, zip_at hl (by decide)]
  omega
/-- The last dating has the greatest years. -/
theorem last_ge {l m : List (Int × Int)} {Z : List Pt} (h : Vd l m Z) {a : List Int × Int} {T : List (List Int × Int)} (hd : dts l m Z = T ++ [a]) : ∀ x ∈ dts l m Z, le x.1 a.1 := by
  intro x hx
  obtain ⟨n, hn, hx1, hx2⟩ := dts_mem h hx
  rw [dts_is h] at hd
  obtain ⟨n0, h1, h2, h3⟩ := last_of _ _ _ _ hd
  obtain ⟨g1, g2, g3⟩ := al_mem h h1
  have ha : 0 < wt l m Z (dig Z n0) := by rw [← g3]; simpa using h2
  have ra := rng_dig n0 h.each
  have rx := rng_dig n h.each
  have rz := rng_zip pk_max ra rx
  have hw := wt_zip pk_max (by decide) h.each ra rx ha hx2
  have hle : num Z (List.zipWith max (dig Z n0) (dig Z n)) ≤ n0 := h3 _ _ (al_num h rz) (by simpa using hw)
  have hl : (dig Z n0).length = (dig Z n).length := by rw [dig_len, dig_len]
  have hmn := num_mono ra rz (fun i => by rw [zip_at hl (by decide)]; omega)
  rw [num_dig h.each g1] at hmn
  have he : num Z (List.zipWith max (dig Z n0) (dig Z n)) = n0 := by omega
  have hz : List.zipWith max (dig Z n0) (dig Z n) = dig Z n0 := by rw [← dig_num h.each rz, he]
  intro i
  rw [g2, hx1, ← hz, zip_at hl (by decide)]
  omega
end Go.Proofs.Ytfbgekhkbbhggaa.BdM

namespace Go.Proofs.Ytfbgekhkbbhggaa.BdN
open DvM Yr AtM Find2 GoodM ChM ChE CnM BdM
set_option linter.unusedVariables false
def st (f : Int → Int → Int) (b : Option (List Int)) (x : List Int × Int) : Option (List Int) := some (List.zipWith f (b.getD x.1) x.1)
/-- The years gathered over a list of datings. -/
def mb (f : Int → Int → Int) (L : List (List Int × Int)) : Option (List Int) := L.foldl (st f) none
theorem mb_app (f : Int → Int → Int) (L : List (List Int × Int)) (x : List Int × Int) : mb f (L ++ [x]) = st f (mb f L) x := by
  unfold mb
  rw [List.foldl_append]
  rfl
theorem ps_next {L : List (List Int × Int)} {n : Nat} {x : List Int × Int} (h : L[n]? = some x) : ps (L.take (n + 1)) = if 0 < x.2 then ps (L.take n) ++ [x] else ps (L.take n) := by
  unfold ps
  rw [List.take_add_one, h, List.filter_append]
  by_cases hx : 0 < x.2
  · rw [if_pos hx]
    simp [hx]
  · rw [if_neg hx]
    simp [hx]
theorem mb_yes (f : Int → Int → Int) {L : List (List Int × Int)} {n : Nat} {x : List Int × Int} (h : L[n]? = some x) (hx : 0 < x.2) : mb f (ps (L.take (n + 1))) = some (List.zipWith f ((mb f (ps (L.take n))).getD x.1) x.1) := by
  rw [ps_next h, if_pos hx, mb_app]
  rfl
theorem mb_no (f : Int → Int → Int) {L : List (List Int × Int)} {n : Nat} {x : List Int × Int} (h : L[n]? = some x) (hx : ¬ 0 < x.2) : mb f (ps (L.take (n + 1))) = mb f (ps (L.take n)) := by
  rw [ps_next h, if_neg hx]
theorem mb_len (f : Int → Int → Int) {N : Nat} : ∀ (L : List (List Int × Int)) (b : Option (List Int)), (∀ x ∈ L, x.1.length = N) → (∀ c, b = some c → c.length = N) → ∀ c, L.foldl (st f) b = some c → c.length = N
  | [], b, _, hb, c, h => hb c h
  | x :: L, b, hL, hb, c, h => by
    refine mb_len f L (st f b x) (fun y hy => hL y (List.mem_cons_of_mem _ hy)) (fun d hd => ?_) c h
    injection hd with hd
    subst hd
    have h1 := hL x List.mem_cons_self
    have h2 : (b.getD x.1).length = N := by
      cases b with
      | none => exact h1
      | some c => exact hb c rfl
    rw [List.length_zipWith]
    omega
theorem zip_left {f : Int → Int → Int} {t u : List Int} (hl : t.length = u.length) (h : ∀ i, f (t.getD i 0) (u.getD i 0) = t.getD i 0) : List.zipWith f t u = t := by
  apply List.ext_getElem
  · rw [List.length_zipWith]; omega
  · intro i h1 h2
    have := h i
    rw [List.getD_eq_getElem?_getD, List.getD_eq_getElem?_getD, List.getElem?_eq_getElem h2, List.getElem?_eq_getElem (by omega)] at this
    rw [List.getElem_zipWith]
    exact this
theorem zip_right {f : Int → Int → Int} {t u : List Int} (hl : t.length = u.length) (h : ∀ i, f (t.getD i 0) (u.getD i 0) = u.getD i 0) : List.zipWith f t u = u := by
  apply List.ext_getElem
  · rw [List.length_zipWith]; omega
  · intro i h1 h2
    have := h i
    rw [List.getD_eq_getElem?_getD, List.getD_eq_getElem?_getD, List.getElem?_eq_getElem h2, List.getElem?_eq_getElem (by omega)] at this
    rw [List.getElem_zipWith]
    exact this
theorem fold_first {c : List Int} : ∀ (T : List (List Int × Int)), (∀ x ∈ T, x.1.length = c.length ∧ le c x.1) → T.foldl (st min) (some c) = some c
  | [], _ => rfl
  | x :: T, h => by
    obtain ⟨h1, h2⟩ := h x List.mem_cons_self
    rw [List.foldl_cons, show st min (some c) x = some c by
      show some (List.zipWith min c x.1) = _
      rw [zip_left h1.symm (fun i => by have := h2 i; omega)]]
    exact fold_first T fun y hy => h y (List.mem_cons_of_mem _ hy)
theorem fold_last {c : List Int} : ∀ (T : List (List Int × Int)) (b : Option (List Int)), (∀ x ∈ T, x.1.length = c.length ∧ le x.1 c) → (∀ d, b = some d → d.length = c.length ∧ le d c) → ∀ d, T.foldl (st max) b = some d → d.length = c.length ∧ le d c
  | [], b, _, hb, d, h => hb d h
  | x :: T, b, hT, hb, d, h => by
    refine fold_last T (st max b x) (fun y hy => hT y (List.mem_cons_of_mem _ hy)) (fun e he => ?_) d h
    injection he with he
    subst he
    obtain ⟨h1, h2⟩ := hT x List.mem_cons_self
    have h3 : (b.getD x.1).length = c.length ∧ le (b.getD x.1) c := by
      cases b with
      | none => exact ⟨h1, h2⟩
      | some e => exact hb e rfl
    refine ⟨by rw [List.length_zipWith]; omega, fun i => ?_⟩
    rw [zip_at (by omega) (by decide)]
    have := h2 i
    have := h3.2 i
    omega
theorem mb_first {l m : List (Int × Int)} {Z : List Pt} (h : Vd l m Z) {a : List Int × Int} (ha : (dts l m Z)[0]? = some a) : mb min (dts l m Z) = some a.1 := by
  have hd : ∃ T, dts l m Z = a :: T := by
    cases hh : dts l m Z with
    | nil => rw [hh] at ha; cases ha
    | cons x T => rw [hh] at ha; injection ha with ha; exact ⟨T, by rw [ha]⟩
  obtain ⟨T, hd⟩ := hd
  have hle := first_le h hd
  have hln := CeM.dts_len h
  rw [hd] at hle hln
  rw [hd]
  have h1 := hln a List.mem_cons_self
  show T.foldl (st min) (some (List.zipWith min a.1 a.1)) = _
  rw [zip_left rfl (fun i => by omega)]
  exact fold_first T fun x hx => ⟨by rw [hln x (List.mem_cons_of_mem _ hx), h1], hle x (List.mem_cons_of_mem _ hx)⟩
theorem mb_last {l m : List (Int × Int)} {Z : List Pt} (h : Vd l m Z) {n : Nat} (hn : (dts l m Z).length = n + 1) {a : List Int × Int} (ha : (dts l m Z)[n]? = some a) : mb max (dts l m Z) = some a.1 := by
  have hd : dts l m Z = (dts l m Z).take n ++ [a] := by
    have := List.take_add_one (l := dts l m Z) (i := n)
    rw [ha, List.take_of_length_le (by omega)] at this
    exact this
  have hle := last_ge h hd
  have hln := CeM.dts_len h
  generalize (dts l m Z).take n = T at hd
  rw [hd] at hle hln
  rw [hd, mb_app]
  have h1 := hln a (by simp)
  have hT : ∀ x ∈ T, x.1.length = a.1.length ∧ le x.1 a.1 := fun x hx => ⟨by rw [hln x (List.mem_append_left _ hx), h1], hle x (List.mem_append_left _ hx)⟩
  have h2 : ((mb max T).getD a.1).length = a.1.length ∧ le ((mb max T).getD a.1) a.1 := by
    cases hm : mb max T with
    | none => exact ⟨rfl, fun i => Int.le_refl _⟩
    | some d => exact fold_last T none hT (fun d hd => by cases hd) d hm
  show some (List.zipWith max ((mb max T).getD a.1) a.1) = _
  rw [zip_right h2.1 (fun i => by have := h2.2 i; omega)]
/-- What DateBounds answers. -/
def bdP (l m : List (Int × Int)) (Z : List Pt) : List Int × List Int × Bool := if vd l m Z = true then ((mb min (dts l m Z)).getD [], (mb max (dts l m Z)).getD [], (mb min (dts l m Z)).isSome) else ([], [], false)
theorem bdP_no {l m : List (Int × Int)} {Z : List Pt} (h : vd l m Z = false) : bdP l m Z = ([], [], false) := by
  unfold bdP
  rw [h]
  rfl
theorem bdP_yes {l m : List (Int × Int)} {Z : List Pt} (h : vd l m Z = true) : bdP l m Z = ((mb min (dts l m Z)).getD [], (mb max (dts l m Z)).getD [], (mb min (dts l m Z)).isSome) := by
  unfold bdP
  rw [if_pos h]
theorem bdP_none {l m : List (Int × Int)} {Z : List Pt} (h : vd l m Z = true) (hn : dts l m Z = []) : bdP l m Z = ([], [], false) := by
  rw [bdP_yes h, hn]
  rfl
theorem bdP_some {l m : List (Int × Int)} {Z : List Pt} (h : Vd l m Z) {n : Nat} {a b : List Int × Int} (hn : (dts l m Z).length = n + 1) (ha : (dts l m Z)[0]? = some a) (hb : (dts l m Z)[n]? = some b) : bdP l m Z = (a.1, b.1, true) := by
  rw [bdP_yes (vd_iff.2 h), mb_first h ha, mb_last h hn hb]
  rfl
end Go.Proofs.Ytfbgekhkbbhggaa.BdN

namespace Go.Proofs.Ytfbgekhkbbhggaa.BdR
open Go.RowKit Pairs Rec Keep GivesI Zh Dr
set_option linter.unusedVariables false
def ResM (A B : List Int) (ok : Bool) (w : World) (e : Ending) (w' : World) : Prop :=
  ∃ (p : Option Addr) (k d : Nat) (q : Option Addr) (n c : Nat), e = .returned (.tuple #[.slice p k d, .slice q n c, .bool ok]) ∧ w'.ownsRow w.heap.size 3 1 (.slice p k d) k (ints A) ∧ w'.ownsRow w.heap.size 3 1 (.slice q n c) n (ints B) ∧ k ≤ 1048576 ∧ n ≤ 1048576 ∧ (∀ b, (Value.slice p k d).ownBlock = some b → (Value.slice q n c).ownBlock ≠ some b) ∧ Below w.heap.size w w'
theorem apart_of {w w' : World} {B B' s s' n n' : Nat} {T T' : TypeId} {v v' : Value} {xs xs' : List Value} (h : w.ownsRow B T s v n xs) (h' : w'.ownsRow B' T' s' v' n' xs') (hB : w.heap.size ≤ B') : ∀ b, v.ownBlock = some b → v'.ownBlock ≠ some b := fun b hb hb' => by
  have h1 := (Di.own_bd h b hb).2
  have h2 := (Di.own_bd h' b hb').1
  omega
/-- Two fresh empty rows. -/
theorem two_empty (w : World) : ∃ W, W = (w.alloc (.cells #[] 3)).alloc (.cells #[] 3) ∧ W.ownsRow w.heap.size 3 1 (.slice (some ⟨w.heap.size, 0, none⟩) 0 0) 0 (ints []) ∧ W.ownsRow w.heap.size 3 1 (.slice (some ⟨w.heap.size + 1, 0, none⟩) 0 0) 0 (ints []) ∧ Below w.heap.size w W := by
  have h1 := AppI.empty_own w
  have h2 := AppI.empty_own (w.alloc (.cells #[] 3))
  have hb := below_alloc (w.alloc (.cells #[] 3)) (.cells #[] 3)
  have hs : (w.alloc (.cells #[] 3)).heap.size = w.heap.size + 1 := by simp
  rw [hs] at h2
  exact ⟨_, rfl, ownsRow_below h1 hb, ownsRow_base h2 (Nat.le_succ _), (below_alloc w _).trans (hb.mono (by rw [hs]; exact Nat.le_succ _))⟩
theorem clo_keeps (a : Option Addr) (n c : Nat) (L : List Int) (hz : n ≤ 1048576) (w : World) (h : HoldsI w a n L) {g i j : Nat} {u1 u2 : Value} (s1 : w.cell? ⟨g, i, none⟩ = some u1) (s2 : w.cell? ⟨g, j, none⟩ = some u2) :
    Calls Try.prog 75 #[.slice a n c] w fun e w' => ∃ (p : Option Addr) (d : Nat), e = .returned (.slice p n d) ∧ w'.ownsRow w.heap.size 3 1 (.slice p n d) n (ints L) ∧ Below w.heap.size w w' ∧ w'.cell? ⟨g, i, none⟩ = some u1 ∧ w'.cell? ⟨g, j, none⟩ = some u2 :=
  (AppI.clone_any a n c L hz w h).mono fun e w' ⟨p, d, he, ho, hb⟩ => ⟨p, d, he, ho, hb, (hb.cell (p := ⟨g, i, none⟩) (World.block_lt_of_cell? w _ s1)).trans s1, (hb.cell (p := ⟨g, j, none⟩) (World.block_lt_of_cell? w _ s2)).trans s2⟩
end Go.Proofs.Ytfbgekhkbbhggaa.BdR

namespace Go.Proofs.Ytfbgekhkbbhggaa.BdL
open Go Go.RowKit Pairs Rec Keep GivesI Zh Dr
set_option linter.unusedVariables false
theorem most_any (a b : Int) (w : World) : Calls Try.prog 74 #[.int .i64 a, .int .i64 b] w fun e w' => e = .returned (.int .i64 (max a b)) ∧ Below w.heap.size w w' := by
  go_enter Try.func74, Try.ntmps74
  by_cases h : a > b
  · have e : max a b = a := by omega
    rw [e]
    clear e
    go_wp2_with fail
    go_ret
    exact ⟨rfl, Below.refl _ _⟩
  · have e : max a b = b := by omega
    rw [e]
    clear e
    go_wp2_with fail
    go_ret
    exact ⟨rfl, Below.refl _ _⟩
theorem least_any (a b : Int) (w : World) : Calls Try.prog 73 #[.int .i64 a, .int .i64 b] w fun e w' => e = .returned (.int .i64 (min a b)) ∧ Below w.heap.size w w' := by
  go_enter Try.func73, Try.ntmps73
  by_cases h : a < b
  · have e : min a b = a := by omega
    rw [e]
    clear e
    go_wp2_with fail
    go_ret
    exact ⟨rfl, Below.refl _ _⟩
  · have e : min a b = b := by omega
    rw [e]
    clear e
    go_wp2_with fail
    go_ret
    exact ⟨rfl, Below.refl _ _⟩
/-- The first i of a row have met the other row. -/
def mx (f : Int → Int → Int) (A ys : List Int) (i : Nat) : List Int := (List.zipWith f A ys).take i ++ A.drop i
theorem mx_zero (f : Int → Int → Int) (A ys : List Int) : mx f A ys 0 = A := rfl
theorem mx_full {f : Int → Int → Int} {A ys : List Int} {n : Nat} (h1 : A.length = n) (h2 : ys.length = n) : mx f A ys n = List.zipWith f A ys := by
  unfold mx
  rw [List.take_of_length_le (by rw [List.length_zipWith]; omega), List.drop_eq_nil_of_le (by omega), List.append_nil]
theorem mx_at {f : Int → Int → Int} {A ys : List Int} {i : Nat} (h1 : i < A.length) (h2 : A.length = ys.length) : (mx f A ys i)[i]? = A[i]? := by
  unfold mx
  have e : ((List.zipWith f A ys).take i).length = i := by rw [List.length_take, List.length_zipWith]; omega
  rw [List.getElem?_append_right (by omega), e, List.getElem?_drop]
  simp
theorem mx_len {f : Int → Int → Int} {A ys : List Int} {i : Nat} (h1 : i ≤ A.length) (h2 : A.length = ys.length) : (mx f A ys i).length = A.length := by
  unfold mx
  rw [List.length_append, List.length_take, List.length_zipWith, List.length_drop]
  omega
theorem mx_next {f : Int → Int → Int} {A ys : List Int} {i : Nat} {a y : Int} (h2 : A.length = ys.length) (ha : A[i]? = some a) (hy : ys[i]? = some y) : mx f A ys (i + 1) = (mx f A ys i).set i (f a y) := by
  have hi := (List.getElem?_eq_some_iff.1 ha).1
  unfold mx
  have e : ((List.zipWith f A ys).take i).length = i := by rw [List.length_take, List.length_zipWith]; omega
  have hz : (List.zipWith f A ys)[i]? = some (f a y) := by rw [List.getElem?_zipWith, ha, hy]
  rw [List.take_add_one, hz, List.set_append_right _ _ (by omega), e, Nat.sub_self, List.drop_eq_getElem_cons hi, List.set_cons_zero, List.append_assoc]
  rfl
theorem own_some {w : World} {B n d : Nat} {T : TypeId} {p : Option Addr} {xs : List Value} (h : w.ownsRow B T 1 (.slice p n d) n xs) (hn : 0 < n) : ∃ g, p = some ⟨g, 0, none⟩ := by
  rcases h.2 with ⟨_, h0⟩ | ⟨g, cap, cur, hv, _⟩
  · omega
  · injection hv with h1 _ _
    exact ⟨g, h1⟩
theorem own_is {g n c b : Nat} (h : (Value.slice (some ⟨g, 0, none⟩) n c).ownBlock = some b) : g = b := by simpa [Value.ownBlock] using h
/-- A store into a block leaves the rows of others. -/
theorem own_other {w : World} {B s n g i : Nat} {T : TypeId} {v u : Value} {xs : List Value} (h : w.ownsRow B T s v n xs) (hs : ∀ b, v.ownBlock = some b → b ≠ g) : (w.setCell ⟨g, i, none⟩ u).ownsRow B T s v n xs :=
  ((Kept.refl (fun b => b = g) w).setCell (g := g) rfl u).owns h (fun b hb e => hs b hb e)
end Go.Proofs.Ytfbgekhkbbhggaa.BdL

namespace Go.Proofs.Ytfbgekhkbbhggaa.BdI
open Go Go.RowKit Pairs Rec Keep GivesI Zh Dr DvM ChM ChE DtT ExI CnM CnI BdN BdR ShI
set_option linter.unusedVariables false
set_option maxRecDepth 100000 in
set_option maxHeartbeats 8000000 in
theorem impl_any (a1 a2 a3 : Option Addr) (n1 c1 n2 c2 n3 c3 : Nat) (l m : List (Int × Int)) (Z : List Zh.Pt) (w : World) (h : Arg w a1 n1 a2 n2 a3 n3 l m Z) :
    Calls Try.prog 32 #[.agg #[.slice a1 n1 c1, .slice a2 n2 c2, .slice a3 n3 c3]] w (ResM (bdP l m Z).1 (bdP l m Z).2.1 (bdP l m Z).2.2 w) := by
  have hb := below_alloc w (.cells #[.slice a1 n1 c1, .slice a2 n2 c2, .slice a3 n3 c3] 37)
  obtain ⟨f1, f2, f3⟩ := box3 w (.slice a1 n1 c1) (.slice a2 n2 c2) (.slice a3 n3 c3) 37
  have hlt : w.heap.size < (w.alloc (.cells #[.slice a1 n1 c1, .slice a2 n2 c2, .slice a3 n3 c3] 37)).heap.size := by simp
  have H := Lib.hid (h.below hb)
  have HB := Lib.hid hb
  have HL3 := Lib.hid h.h3.1
  have s3 := h.s3
  clear h hb
  obtain ⟨r, hr⟩ : ∃ r, r = bdP l m Z := ⟨_, rfl⟩
  rw [← hr]
  have HR := Lib.hid hr
  clear hr
  go_enter Try.func32, Try.ntmps32
  go_wp2_with fail
  generalize w.alloc (.cells #[.slice a1 n1 c1, .slice a2 n2 c2, .slice a3 n3 c3] 37) = W at *
  refine (VdI.valid_any a1 a2 a3 n1 c1 n2 c2 n3 c3 l m Z W H.out).mono ?_
  rintro e w1 ⟨rfl, b1⟩
  have g1 := (b1.cell (p := ⟨w.heap.size, 0, none⟩) hlt).trans f1
  have g2 := (b1.cell (p := ⟨w.heap.size, 1, none⟩) hlt).trans f2
  have g3 := (b1.cell (p := ⟨w.heap.size, 2, none⟩) hlt).trans f3
  have H1 := Lib.hid (H.out.below b1)
  have HB1 := Lib.hid (HB.out.trans (b1.mono HB.out.size))
  clear b1 f1 f2 f3 hlt H HB
  cases hg : vd l m Z with
  | false =>
    have HN := Lib.hid (HR.out.trans (bdP_no hg))
    obtain ⟨WE, hWE, ea, eb, ec⟩ := two_empty w1
    have HE := Lib.hid (And.intro ea (And.intro eb ec))
    clear hg ea eb ec
    go_wp2_with fail
    rw [← hWE]
    go_ret3
    exact ⟨_, 0, 0, _, 0, 0, by rw [HN.out]; rfl, by rw [HN.out]; exact ownsRow_base HE.out.1 HB1.out.size, by rw [HN.out]; exact ownsRow_base HE.out.2.1 HB1.out.size, by omega, by omega, by intro b hb hb'; simp [Value.ownBlock] at hb hb'; omega, HB1.out.trans (HE.out.2.2.mono HB1.out.size)⟩
  | true =>
    have HV := Lib.hid (vd_iff.1 hg)
    have HG := Lib.hid hg
    clear hg
    go_wp2_with fail
    refine (datings_any l m Z HV.out a1 a2 a3 n1 c1 n2 c2 n3 c3 w1 H1.out).mono ?_
    rintro e w2 ⟨q, n, d, rfl, o2, b2⟩
    have HB3 := Lib.hid (HB1.out.trans (b2.mono HB1.out.size))
    have hlen := o2.len
    have hlim : n ≤ 5000 := by
      have h1 := al_many HV.out
      have h2 := List.length_filter_le (fun x : List Int × Int => decide (0 < x.2)) (al l m Z)
      rw [hlen, dts_is HV.out]
      omega
    have HL := Lib.hid hlen
    have HO := Lib.hid o2
    have HZ1 := Lib.hid HB1.out.size
    clear b2 o2 hlen g1 g2 g3
    by_cases hn0 : n = 0
    · subst hn0
      have HN := Lib.hid (HR.out.trans (bdP_none HG.out (List.length_eq_zero_iff.1 HL.out.symm)))
      obtain ⟨WE, hWE, ea, eb, ec⟩ := two_empty w2
      have HE := Lib.hid (And.intro ea (And.intro eb ec))
      clear ea eb ec
      go_wp2_with fail
      rw [← hWE]
      go_ret3
      exact ⟨_, 0, 0, _, 0, 0, by rw [HN.out]; rfl, by rw [HN.out]; exact ownsRow_base HE.out.1 HB3.out.size, by rw [HN.out]; exact ownsRow_base HE.out.2.1 HB3.out.size, by omega, by omega, by intro b hb hb'; simp [Value.ownBlock] at hb hb'; omega, HB3.out.trans (HE.out.2.2.mono HB3.out.size)⟩
    · obtain ⟨j, hj⟩ : ∃ j, n = j + 1 := ⟨n - 1, by omega⟩
      obtain ⟨g, p, k, c, ys, z, rfl, hx, e1, e2, e3⟩ := own_at HO.out 0 (by omega)
      obtain ⟨g', p', k', c', ys', z', hgg, hx', e1', e2', e3'⟩ := own_at HO.out j (by omega)
      have eg : g' = g := by injection hgg with hgg; injection hgg with hgg; exact hgg.symm
      subst eg
      have HN := Lib.hid (HR.out.trans (bdP_some HV.out (by rw [← HL.out, hj]) hx hx'))
      have hk : k ≤ 1048576 := by
        have h1 := e3.1
        rw [ints_len] at h1
        have h5 := CeM.dts_len HV.out _ (List.mem_of_getElem? hx)
        rw [HL3.out] at h5
        simp only at h5
        omega
      have hk' : k' ≤ 1048576 := by
        have h1 := e3'.1
        rw [ints_len] at h1
        have h5 := CeM.dts_len HV.out _ (List.mem_of_getElem? hx')
        rw [HL3.out] at h5
        simp only at h5
        omega
      have HA := Lib.hid e3
      have HH := Lib.hid (GivesI.holds_own e3')
      have HD := Lib.hid (HH.out.below (Below.refl _ _).drew)
      have hw : IntKind.i64.wrap ((n : Int) - 1) = (j : Int) := by rw [IntKind.wrap_i64]; omega
      have hjn : (j : Int) < (n : Int) := by omega
      have hj0 : ¬ (j : Int) < 0 := by omega
      have hn1 : (0 : Int) < (n : Int) := by omega
      have hn2 : 0 < n := by omega
      have hne : ¬ (n : Int) = 0 := by omega
      have HJ := Lib.hid hj
      have r1 : w2.cell? ⟨g', 0, none⟩ = some (.slice p k c) := e1
      have r2 := e1'
      clear hx hx' e1 e2 e3 e1' e2' e3' hj hn0 hgg
      go_wp2_with fail
      go_region_held3 (fun w' => w'.cell? ⟨g', 0, none⟩ = some (.slice p k c) ∧ w'.cell? ⟨g', j * 2, none⟩ = some (.slice p' k' c'))
        (first | go_keep | (exact ⟨by assumption, by assumption⟩))
        (first | (go_at_call 75; refine (clo_keeps p' k' c' ys' hk' w2.drew HD.out r1 r2).mono ?_; rintro e w3 ⟨p9, d9, rfl, o9, b9, r3, r4⟩))
      have b : Below w2.heap.size w2 w3 := (Below.refl w2.heap.size w2).drew.trans b9
      have HC := Lib.hid (And.intro o9 b)
      clear o9 b9 b r3 r4 r1 r2
      go_wp2_with fail
      go_ret3
      exact ⟨p, k, c, p9, k', d9, by rw [HN.out]; rfl, by rw [HN.out]; exact ownsRow_base (ownsRow_below HA.out HC.out.2) HZ1.out, by rw [HN.out]; exact ownsRow_base HC.out.1 HB3.out.size, hk, hk', apart_of HA.out HC.out.1 (Nat.le_refl _), HB3.out.trans (HC.out.2.mono HB3.out.size)⟩
end Go.Proofs.Ytfbgekhkbbhggaa.BdI

namespace Go.Proofs.Ytfbgekhkbbhggaa.BdS
open Go Go.RowKit Pairs Rec Keep GivesI Zh Dr DvM ChM ChE CnM BdN BdR BdL
set_option linter.unusedVariables false
set_option maxRecDepth 100000 in
set_option maxHeartbeats 16000000 in
theorem spec_any (a1 a2 a3 : Option Addr) (n1 c1 n2 c2 n3 c3 : Nat) (l m : List (Int × Int)) (Z : List Zh.Pt) (w : World) (h : Arg w a1 n1 a2 n2 a3 n3 l m Z) :
    Calls Try.prog 31 #[.agg #[.slice a1 n1 c1, .slice a2 n2 c2, .slice a3 n3 c3]] w (ResM (bdP l m Z).1 (bdP l m Z).2.1 (bdP l m Z).2.2 w) := by
  have hb0 := below_alloc w (.cells #[.slice a1 n1 c1, .slice a2 n2 c2, .slice a3 n3 c3] 37)
  obtain ⟨f1, f2, f3⟩ := box3 w (.slice a1 n1 c1) (.slice a2 n2 c2) (.slice a3 n3 c3) 37
  have hlt0 : (w.alloc (.cells #[.slice a1 n1 c1, .slice a2 n2 c2, .slice a3 n3 c3] 37)).heap.size = w.heap.size + 1 := by simp
  obtain ⟨WE, hWE, ea, eb, ec⟩ := two_empty (w.alloc (.cells #[.slice a1 n1 c1, .slice a2 n2 c2, .slice a3 n3 c3] 37))
  have f1 := (ec.cell (p := ⟨w.heap.size, 0, none⟩) (by rw [hlt0]; exact Nat.lt_succ_self _)).trans f1
  have f2 := (ec.cell (p := ⟨w.heap.size, 1, none⟩) (by rw [hlt0]; exact Nat.lt_succ_self _)).trans f2
  have f3 := (ec.cell (p := ⟨w.heap.size, 2, none⟩) (by rw [hlt0]; exact Nat.lt_succ_self _)).trans f3
  rw [hlt0] at ea eb
  have HEM := Lib.hid (And.intro (ownsRow_base ea (B' := w.heap.size) (Nat.le_succ _)) (ownsRow_base eb (B' := w.heap.size) (Nat.le_succ _)))
  have hb := hb0.trans (ec.mono hb0.size)
  have H := Lib.hid (h.below hb)
  have HB := Lib.hid hb
  have HL3 := Lib.hid h.h3.1
  have s3 := h.s3
  clear h hb hb0 ea eb ec
  obtain ⟨r, hr⟩ : ∃ r, r = bdP l m Z := ⟨_, rfl⟩
  rw [← hr]
  have HR := Lib.hid hr
  clear hr
  go_enter Try.func31, Try.ntmps31
  have HLT0 := Lib.hid hlt0
  clear hlt0
  go_wp2_with fail
  rw [← hWE]
  clear hWE
  have hlt := World.block_lt_of_cell? WE _ f1
  refine (VdS.good_any a1 a2 a3 n1 c1 n2 c2 n3 c3 l m Z WE H.out).mono ?_
  rintro e w1 ⟨rfl, b1⟩
  have g1 := (b1.cell (p := ⟨w.heap.size, 0, none⟩) hlt).trans f1
  have g2 := (b1.cell (p := ⟨w.heap.size, 1, none⟩) hlt).trans f2
  have g3 := (b1.cell (p := ⟨w.heap.size, 2, none⟩) hlt).trans f3
  have H1 := Lib.hid (H.out.below b1)
  have HB1 := Lib.hid (HB.out.trans (b1.mono HB.out.size))
  have HZ1 := Lib.hid HB1.out.size
  have hlt1 := Nat.lt_of_lt_of_le hlt b1.size
  have HE1 := Lib.hid (And.intro (ownsRow_below HEM.out.1 b1) (ownsRow_below HEM.out.2 b1))
  clear b1 f1 f2 f3 hlt H HB HEM
  cases hg : vd l m Z with
  | false =>
    have HN := Lib.hid (HR.out.trans (bdP_no hg))
    clear hg
    go_wp2_with fail
    go_ret3
    exact ⟨_, 0, 0, _, 0, 0, by rw [HN.out]; rfl, by rw [HN.out]; exact HE1.out.1, by rw [HN.out]; exact HE1.out.2, by omega, by omega, by intro b hb hb'; simp [Value.ownBlock] at hb hb'; omega, HB1.out⟩
  | true =>
    have HV := Lib.hid (vd_iff.1 hg)
    have HN := Lib.hid (HR.out.trans (bdP_yes hg))
    clear hg
    have hcp := (pos_of_okZ HV.out.each).1
    have hcm := HV.out.many
    obtain ⟨N, hN⟩ : ∃ N : Nat, cnt Z = (N : Int) := ⟨(cnt Z).toNat, by omega⟩
    have HCN := Lib.hid hN
    have hNm : N ≤ 5000 := by omega
    have HAL := Lib.hid (show (al l m Z).length = N by rw [al_len HV.out.each, hN]; simp)
    have HNN := Lib.hid (show (cnt Z).toNat = N by rw [hN]; simp)
    clear hcp hcm hN
    go_wp2_with fail
    go_loopw [5, 6, 7, 8] (fun s5 s6 s7 s8 wr => ∃ (j : Nat), j ≤ N ∧ s8 = .int .i64 j ∧ Hid (Below w.heap.size w wr ∧ Below w1.heap.size w1 wr) ∧
      ((s7 = .bool false ∧ s5 = .slice (some ⟨w.heap.size + 1, 0, none⟩) 0 0 ∧ s6 = .slice (some ⟨w.heap.size + 1 + 1, 0, none⟩) 0 0 ∧ Hid (mb min (ps ((al l m Z).take j)) = none ∧ mb max (ps ((al l m Z).take j)) = none)) ∨
       (∃ (p : Option Addr) (d : Nat) (q : Option Addr) (c : Nat) (A B : List Int), s7 = .bool true ∧ s5 = .slice p Z.length d ∧ s6 = .slice q Z.length c ∧ Hid (mb min (ps ((al l m Z).take j)) = some A ∧ mb max (ps ((al l m Z).take j)) = some B ∧ A.length = Z.length ∧ B.length = Z.length) ∧
         Hid (wr.ownsRow w1.heap.size 3 1 (.slice p Z.length d) Z.length (ints A) ∧ wr.ownsRow w1.heap.size 3 1 (.slice q Z.length c) Z.length (ints B) ∧ (∀ b, (Value.slice p Z.length d).ownBlock = some b → (Value.slice q Z.length c).ownBlock ≠ some b))))) (fun _ _ _ s8 _ => N - (intOf s8).toNat)
    case atStart =>
      exact ⟨0, Nat.zero_le _, rfl, ⟨HB1.out, Below.refl _ _⟩, .inl ⟨rfl, rfl, rfl, rfl, rfl⟩⟩
    case round =>
      obtain ⟨j, hj, rfl, HW, HQ⟩ := hrel
      have q1 := (HW.out.2.cell (p := ⟨w.heap.size, 0, none⟩) hlt1).trans g1
      have q2 := (HW.out.2.cell (p := ⟨w.heap.size, 1, none⟩) hlt1).trans g2
      have q3 := (HW.out.2.cell (p := ⟨w.heap.size, 2, none⟩) hlt1).trans g3
      rcases HQ with ⟨rfl, rfl, rfl, HP⟩ | ⟨p, d, q, c, A, B, rfl, rfl, rfl, HP, HO⟩
      · go_wp2_with fail
        refine (MnS.many_any a1 a2 a3 n1 c1 n2 c2 n3 c3 l m Z wr (H1.out.below HW.out.2) HV.out).mono ?_
        rintro e w3 ⟨rfl, b3⟩
        rw [HCN.out]
        have q1 := (b3.cell (p := ⟨w.heap.size, 0, none⟩) (World.block_lt_of_cell? wr _ q1)).trans q1
        have q2 := (b3.cell (p := ⟨w.heap.size, 1, none⟩) (World.block_lt_of_cell? wr _ q2)).trans q2
        have q3 := (b3.cell (p := ⟨w.heap.size, 2, none⟩) (World.block_lt_of_cell? wr _ q3)).trans q3
        have HW3 := Lib.hid (And.intro (HW.out.1.trans (b3.mono HW.out.1.size)) (HW.out.2.trans (b3.mono HW.out.2.size)))
        clear b3
        by_cases hjn : j < N
        · have hx := al_at (l := l) (m := m) HV.out.each (n := j) (by rw [HNN.out]; exact hjn)
          have hji : (j : Int) < (N : Int) := by omega
          have hw0 := (al_bd HV.out _ (List.mem_of_getElem? hx)).1
          simp only at hw0
          have HX9 := Lib.hid hx
          clear hx
          go_wp2_with fail
          refine (YnS.years_any a1 a2 a3 n1 c1 n2 c2 n3 c3 l m Z j w3 (H1.out.below HW3.out.2) HV.out.each (by omega)).mono ?_
          rintro e w4 ⟨gv, rfl, ov, b4⟩
          have q1 := (b4.cell (p := ⟨w.heap.size, 0, none⟩) (World.block_lt_of_cell? w3 _ q1)).trans q1
          have q2 := (b4.cell (p := ⟨w.heap.size, 1, none⟩) (World.block_lt_of_cell? w3 _ q2)).trans q2
          have q3 := (b4.cell (p := ⟨w.heap.size, 2, none⟩) (World.block_lt_of_cell? w3 _ q3)).trans q3
          have HW4 := Lib.hid (And.intro (HW3.out.1.trans (b4.mono HW3.out.1.size)) (HW3.out.2.trans (b4.mono HW3.out.2.size)))
          have HOV := Lib.hid (ownsRow_base ov (B' := w1.heap.size) HW3.out.2.size)
          clear b4 ov
          go_wp2_with fail
          refine (WgtS.weight_any a1 a2 a3 n1 c1 n2 c2 n3 c3 l m Z (some ⟨gv, 0, none⟩) Z.length Z.length (dig Z j) w4 (H1.out.below HW4.out.2) HV.out (GivesI.holds_own HOV.out) HL3.out).mono ?_
          rintro e w5 ⟨rfl, b5⟩
          have HW5 := Lib.hid (And.intro (HW4.out.1.trans (b5.mono HW4.out.1.size)) (HW4.out.2.trans (b5.mono HW4.out.2.size)))
          have HOV2 := Lib.hid (ownsRow_below HOV.out b5)
          have hzl : Z.length ≤ 1048576 := by have := HL3.out; omega
          clear b5 q1 q2 q3
          obtain ⟨u, hu⟩ : ∃ u, u = wt l m Z (dig Z j) := ⟨_, rfl⟩
          rw [← hu] at HX9 hw0
          rw [← hu]
          clear hu
          by_cases hu0 : u = 0
          · subst hu0
            have HP2 : Hid (mb min (ps ((al l m Z).take (j + 1))) = none ∧ mb max (ps ((al l m Z).take (j + 1))) = none) := by
              refine ⟨(mb_no min HX9.out (Int.lt_irrefl 0)).trans HP.out.1, (mb_no max HX9.out (Int.lt_irrefl 0)).trans HP.out.2⟩
            go_wp2_with fail
            exact ⟨⟨j + 1, by omega, by go_num, HW5, .inl ⟨rfl, rfl, rfl, HP2⟩⟩, by simp [intOf]; omega⟩
          · have hup : 0 < u := by omega
            have HNX : Hid (mb min (ps ((al l m Z).take (j + 1))) = some (List.zipWith min (dig Z j) (dig Z j)) ∧ mb max (ps ((al l m Z).take (j + 1))) = some (List.zipWith max (dig Z j) (dig Z j))) := by
              refine ⟨?_, ?_⟩
              · rw [mb_yes min HX9.out hup, HP.out.1]; rfl
              · rw [mb_yes max HX9.out hup, HP.out.2]; rfl
            go_wp2_with fail
            refine (AppI.own_any (some ⟨gv, 0, none⟩) Z.length Z.length (dig Z j) hzl w5 (GivesI.holds_own HOV2.out)).mono ?_
            rintro e w6 ⟨p, d, rfl, o6, b6⟩
            have HW6 := Lib.hid (And.intro (HW5.out.1.trans (b6.mono HW5.out.1.size)) (HW5.out.2.trans (b6.mono HW5.out.2.size)))
            have AP6 := Lib.hid (apart_of HOV2.out o6 (Nat.le_refl _))
            have HOV6 := Lib.hid (ownsRow_below HOV2.out b6)
            have HO6 := Lib.hid (ownsRow_base o6 (B' := w1.heap.size) HW5.out.2.size)
            clear o6 b6
            go_wp2_with fail
            refine (AppI.own_any (some ⟨gv, 0, none⟩) Z.length Z.length (dig Z j) hzl w6 (GivesI.holds_own HOV6.out)).mono ?_
            rintro e w7 ⟨q, c, rfl, o7, b7⟩
            have HW7 := Lib.hid (And.intro (HW6.out.1.trans (b7.mono HW6.out.1.size)) (HW6.out.2.trans (b7.mono HW6.out.2.size)))
            have AP := Lib.hid (And.intro (apart_of HO6.out o7 (Nat.le_refl _)) (And.intro (fun b hb hb' => AP6.out b hb' hb : ∀ b, (Value.slice p Z.length d).ownBlock = some b → (Value.slice (some ⟨gv, 0, none⟩) Z.length Z.length).ownBlock ≠ some b) (fun b hb hb' => apart_of HOV6.out o7 (Nat.le_refl _) b hb' hb : ∀ b, (Value.slice q Z.length c).ownBlock = some b → (Value.slice (some ⟨gv, 0, none⟩) Z.length Z.length).ownBlock ≠ some b)))
            have HX := Lib.hid (And.intro (ownsRow_below HO6.out b7) (And.intro (ownsRow_base o7 (B' := w1.heap.size) HW6.out.2.size) (And.intro (ownsRow_below HOV6.out b7) HW7.out)))
            clear o7 b7 AP6
            obtain ⟨A, hA⟩ : ∃ A, A = dig Z j := ⟨_, rfl⟩
            obtain ⟨B, hB⟩ : ∃ B, B = dig Z j := ⟨_, rfl⟩
            have HNX : Hid (mb min (ps ((al l m Z).take (j + 1))) = some (List.zipWith min A (dig Z j)) ∧ mb max (ps ((al l m Z).take (j + 1))) = some (List.zipWith max B (dig Z j))) := by rw [hA, hB]; exact HNX
            have HAB : Hid (A.length = Z.length ∧ B.length = Z.length) := by rw [hA, hB]; exact ⟨dig_len Z j, dig_len Z j⟩
            have HX : Hid (w7.ownsRow w1.heap.size 3 1 (.slice p Z.length d) Z.length (ints A) ∧ w7.ownsRow w1.heap.size 3 1 (.slice q Z.length c) Z.length (ints B) ∧ w7.ownsRow w1.heap.size 3 1 (.slice (some ⟨gv, 0, none⟩) Z.length Z.length) Z.length (ints (dig Z j)) ∧ Below w.heap.size w w7 ∧ Below w1.heap.size w1 w7) := by
              have h := HX.out
              refine ⟨?_, ?_, h.2.2.1, h.2.2.2⟩
              · rw [hA]; exact h.1
              · rw [hB]; exact h.2.1
            clear hA hB HO6 HOV6 HOV2
            go_wp2_with fail
            go_loopw [10] (fun s10 wr => ∃ (i : Nat), i ≤ Z.length ∧ s10 = .int .i64 i ∧ Hid (wr.ownsRow w1.heap.size 3 1 (.slice p Z.length d) Z.length (ints (mx min A (dig Z j) i)) ∧ wr.ownsRow w1.heap.size 3 1 (.slice q Z.length c) Z.length (ints (mx max B (dig Z j) i)) ∧ wr.ownsRow w1.heap.size 3 1 (.slice (some ⟨gv, 0, none⟩) Z.length Z.length) Z.length (ints (dig Z j)) ∧ Below w.heap.size w wr ∧ Below w1.heap.size w1 wr)) (fun s10 _ => Z.length - (intOf s10).toNat)
            case atStart => exact ⟨0, Nat.zero_le _, rfl, by rw [mx_zero, mx_zero]; exact HX.out⟩
            case round =>
              obtain ⟨i, hi, rfl, HS⟩ := hrel
              by_cases hiz : i < Z.length
              · have hAl := HAB.out.1
                have hBl := HAB.out.2
                obtain ⟨g, rfl⟩ := own_some HS.out.1 (by omega)
                obtain ⟨g', rfl⟩ := own_some HS.out.2.1 (by omega)
                have hgb := Lib.hid ((Di.own_bd HS.out.1 g rfl).1)
                have hgb' := Lib.hid ((Di.own_bd HS.out.2.1 g' rfl).1)
                have hne1 : Hid (g' ≠ g) := fun e => AP.out.1 g rfl (by rw [e]; rfl)
                have hne2 : Hid (gv ≠ g) := fun e => AP.out.2.1 g rfl (by rw [e]; rfl)
                have hne3 : Hid (gv ≠ g') := fun e => AP.out.2.2 g' rfl (by rw [e]; rfl)
                have hdl : (dig Z j).length = Z.length := dig_len Z j
                obtain ⟨a, ha⟩ : ∃ a, A[i]? = some a := ⟨_, List.getElem?_eq_getElem (by omega)⟩
                obtain ⟨b, hb⟩ : ∃ b, B[i]? = some b := ⟨_, List.getElem?_eq_getElem (by omega)⟩
                obtain ⟨y, hy⟩ : ∃ y, (dig Z j)[i]? = some y := ⟨_, List.getElem?_eq_getElem (by omega)⟩
                have z1 : wr.cell? ⟨g, i, none⟩ = some (.int .i64 a) := by
                  rw [HS.out.1.cellAt i (by omega)]
                  exact GivesI.ints_at ((mx_at (by omega) (by omega)).trans ha)
                have z2 : wr.cell? ⟨gv, i, none⟩ = some (.int .i64 y) := by
                  rw [HS.out.2.2.1.cellAt i (by omega)]
                  exact GivesI.ints_at hy
                have z3 := HS.out.1.frozenAt i
                have z7 : wr.cell? ⟨g', i, none⟩ = some (.int .i64 b) := by
                  rw [HS.out.2.1.cellAt i (by omega)]
                  exact GivesI.ints_at ((mx_at (by omega) (by omega)).trans hb)
                have Z7 := Lib.hid z7
                have Z2 := Lib.hid z2
                have z8 := HS.out.2.1.frozenAt i
                have Z8 := Lib.hid z8
                have HMA := Lib.hid (mx_next (f := min) (A := A) (ys := dig Z j) (by omega) ha hy)
                have HMB := Lib.hid (mx_next (f := max) (A := B) (ys := dig Z j) (by omega) hb hy)
                have cL : ∀ dd os, Calls Try.prog 73 #[.int .i64 a, .int .i64 y] (Sort.grow (redrawn wr dd) os) fun e w'' => e = .returned (.int .i64 (min a y)) ∧ ∃ p : Regrown, w'' = Sort.grow (redrawn wr p.d) p.os := fun dd os => Calls.regrown_of (least_any a y _)
                have hii : (i : Int) < (Z.length : Int) := by omega
                have hi0 : (0 : Int) ≤ (i : Int) := by omega
                clear ha hb hy z7 z8 hdl
                go_wp2_with fail
                have k1 := cell_regrown z1
                have k2 := cell_regrown z2
                refine Qsw.region_at_p 12 (by kernel_rfl) (by kernel_rfl) ?_
                simp only [List.take_succ_cons, List.take_zero, List.drop_succ_cons, List.drop_zero]
                repeat (go_big_quiet_step ((go_at_call 73; exact cL _ _)))
                refine wpQuiet_nil ?_
                intro _ hw'
                obtain ⟨⟨dq, osq⟩, hw''⟩ := hw'
                subst hw''
                have HBQ := Lib.hid (below_regrown wr dq osq)
                have hgx := World.block_lt_of_cell? wr _ z1
                have hgy := World.block_lt_of_cell? wr _ Z7.out
                have hgv := World.block_lt_of_cell? wr _ z2
                have z5 := (HBQ.out.cell (p := ⟨g, i, none⟩) hgx).trans z1
                have z6 := (HBQ.out.frozen (p := ⟨g, i, none⟩) hgx).trans z3
                have Z7 := Lib.hid ((HBQ.out.cell (p := ⟨g', i, none⟩) hgy).trans Z7.out)
                have Z8 := Lib.hid ((HBQ.out.frozen (p := ⟨g', i, none⟩) hgy).trans Z8.out)
                have Z2 := Lib.hid ((HBQ.out.cell (p := ⟨gv, i, none⟩) hgv).trans Z2.out)
                have HS2 := Lib.hid (And.intro (ownsRow_below HS.out.1 HBQ.out) (And.intro (ownsRow_below HS.out.2.1 HBQ.out) (And.intro (ownsRow_below HS.out.2.2.1 HBQ.out) (And.intro (HS.out.2.2.2.1.trans (HBQ.out.mono HS.out.2.2.2.1.size)) (HS.out.2.2.2.2.trans (HBQ.out.mono HS.out.2.2.2.2.size))))))
                clear k1 k2 z1 z2 z3 cL hgx hgy hgv
                generalize Sort.grow (redrawn wr dq) osq = W5 at *
                have HF : Hid ((W5.setCell ⟨g, i, none⟩ (.int .i64 (min a y))).ownsRow w1.heap.size 3 1 (.slice (some ⟨g, 0, none⟩) Z.length d) Z.length (ints (mx min A (dig Z j) (i + 1))) ∧ (W5.setCell ⟨g, i, none⟩ (.int .i64 (min a y))).ownsRow w1.heap.size 3 1 (.slice (some ⟨g', 0, none⟩) Z.length c) Z.length (ints (mx max B (dig Z j) i)) ∧ (W5.setCell ⟨g, i, none⟩ (.int .i64 (min a y))).ownsRow w1.heap.size 3 1 (.slice (some ⟨gv, 0, none⟩) Z.length Z.length) Z.length (ints (dig Z j)) ∧ Below w.heap.size w (W5.setCell ⟨g, i, none⟩ (.int .i64 (min a y))) ∧ Below w1.heap.size w1 (W5.setCell ⟨g, i, none⟩ (.int .i64 (min a y)))) := by
                  have h1 := (HS2.out.1.stored i (.int .i64 (min a y))).1
                  rw [RdI.ints_set, ← HMA.out] at h1
                  exact ⟨h1, own_other HS2.out.2.1 (fun b hb e => hne1.out ((own_is hb).trans e)), own_other HS2.out.2.2.1 (fun b hb e => hne2.out ((own_is hb).trans e)), HS2.out.2.2.2.1.setCell (p := ⟨g, i, none⟩) (Nat.le_trans HZ1.out hgb.out) _, HS2.out.2.2.2.2.setCell (p := ⟨g, i, none⟩) hgb.out _⟩
                have Y7 := Lib.hid ((World.cell?_setCell_other W5 ⟨g, i, none⟩ ⟨g', i, none⟩ (.int .i64 (min a y)) (by intro e; injection e with e; exact hne1.out e.symm)).trans Z7.out)
                have Y2 := Lib.hid ((World.cell?_setCell_other W5 ⟨g, i, none⟩ ⟨gv, i, none⟩ (.int .i64 (min a y)) (by intro e; injection e with e; exact hne2.out e.symm)).trans Z2.out)
                have Y8 : Hid ((W5.setCell ⟨g, i, none⟩ (.int .i64 (min a y))).frozen? ⟨g', i, none⟩ = false) := by unfold Hid; rw [World.frozen?_setCell]; exact Z8.out
                go_wp2_with fail
                generalize W5.setCell ⟨g, i, none⟩ (.int .i64 (min a y)) = W6 at *
                clear z5 z6 Z7 Z2 Z8 HS2
                have z1 := Y7.out
                have z2 := Y2.out
                have z3 := Y8.out
                have cM : ∀ dd os, Calls Try.prog 74 #[.int .i64 b, .int .i64 y] (Sort.grow (redrawn W6 dd) os) fun e w'' => e = .returned (.int .i64 (max b y)) ∧ ∃ p : Regrown, w'' = Sort.grow (redrawn W6 p.d) p.os := fun dd os => Calls.regrown_of (most_any b y _)
                have k1 := cell_regrown z1
                have k2 := cell_regrown z2
                refine Qsw.region_at_p 12 (by kernel_rfl) (by kernel_rfl) ?_
                simp only [List.take_succ_cons, List.take_zero, List.drop_succ_cons, List.drop_zero]
                repeat (go_big_quiet_step ((go_at_call 74; exact cM _ _)))
                refine wpQuiet_nil ?_
                intro _ hw'
                obtain ⟨⟨dr, osr⟩, hw''⟩ := hw'
                subst hw''
                have HBR := Lib.hid (below_regrown W6 dr osr)
                have hgy := World.block_lt_of_cell? W6 _ z1
                have z5 := (HBR.out.cell (p := ⟨g', i, none⟩) hgy).trans z1
                have z6 := (HBR.out.frozen (p := ⟨g', i, none⟩) hgy).trans z3
                have HS3 := Lib.hid (And.intro (ownsRow_below HF.out.1 HBR.out) (And.intro (ownsRow_below HF.out.2.1 HBR.out) (And.intro (ownsRow_below HF.out.2.2.1 HBR.out) (And.intro (HF.out.2.2.2.1.trans (HBR.out.mono HF.out.2.2.2.1.size)) (HF.out.2.2.2.2.trans (HBR.out.mono HF.out.2.2.2.2.size))))))
                clear k1 k2 z1 z2 z3 cM hgy Y7 Y2 Y8 HF
                generalize Sort.grow (redrawn W6 dr) osr = W7 at *
                have HF : Hid ((W7.setCell ⟨g', i, none⟩ (.int .i64 (max b y))).ownsRow w1.heap.size 3 1 (.slice (some ⟨g, 0, none⟩) Z.length d) Z.length (ints (mx min A (dig Z j) (i + 1))) ∧ (W7.setCell ⟨g', i, none⟩ (.int .i64 (max b y))).ownsRow w1.heap.size 3 1 (.slice (some ⟨g', 0, none⟩) Z.length c) Z.length (ints (mx max B (dig Z j) (i + 1))) ∧ (W7.setCell ⟨g', i, none⟩ (.int .i64 (max b y))).ownsRow w1.heap.size 3 1 (.slice (some ⟨gv, 0, none⟩) Z.length Z.length) Z.length (ints (dig Z j)) ∧ Below w.heap.size w (W7.setCell ⟨g', i, none⟩ (.int .i64 (max b y))) ∧ Below w1.heap.size w1 (W7.setCell ⟨g', i, none⟩ (.int .i64 (max b y)))) := by
                  have h1 := (HS3.out.2.1.stored i (.int .i64 (max b y))).1
                  rw [RdI.ints_set, ← HMB.out] at h1
                  exact ⟨own_other HS3.out.1 (fun b hb e => hne1.out ((own_is hb).trans e).symm), h1, own_other HS3.out.2.2.1 (fun b hb e => hne3.out ((own_is hb).trans e)), HS3.out.2.2.2.1.setCell (p := ⟨g', i, none⟩) (Nat.le_trans HZ1.out hgb'.out) _, HS3.out.2.2.2.2.setCell (p := ⟨g', i, none⟩) hgb'.out _⟩
                go_wp2_with fail
                exact ⟨⟨i + 1, by omega, by go_num, HF⟩, by simp [intOf]; omega⟩
              · obtain rfl : i = Z.length := by omega
                have hii : ¬ (Z.length : Int) < (Z.length : Int) := by omega
                have hdl : (dig Z j).length = Z.length := dig_len Z j
                have HE : Hid (wr.ownsRow w1.heap.size 3 1 (.slice p Z.length d) Z.length (ints (List.zipWith min A (dig Z j))) ∧ wr.ownsRow w1.heap.size 3 1 (.slice q Z.length c) Z.length (ints (List.zipWith max B (dig Z j)))) := by
                  have h1 := HS.out.1
                  have h2 := HS.out.2.1
                  rw [mx_full HAB.out.1 hdl] at h1
                  rw [mx_full HAB.out.2 hdl] at h2
                  exact ⟨h1, h2⟩
                have HLL : Hid ((List.zipWith min A (dig Z j)).length = Z.length ∧ (List.zipWith max B (dig Z j)).length = Z.length) := by
                  unfold Hid
                  rw [List.length_zipWith, List.length_zipWith, HAB.out.1, HAB.out.2, hdl]
                  exact ⟨Nat.min_self _, Nat.min_self _⟩
                have HW7 := Lib.hid (And.intro HS.out.2.2.2.1 HS.out.2.2.2.2)
                clear hdl
                go_wp2_with fail
                exact ⟨⟨j + 1, by omega, by go_num, HW7, .inr ⟨p, d, q, c, _, _, rfl, rfl, rfl, ⟨HNX.out.1, HNX.out.2, HLL.out.1, HLL.out.2⟩, HE.out.1, HE.out.2, AP.out.1⟩⟩, by simp [intOf]; omega⟩
        · obtain rfl : j = N := by omega
          have hjj : ¬ (j : Int) < (j : Int) := by omega
          have HE := Lib.hid (show r = ([], [], false) by
            have h1 := HP.out
            rw [List.take_of_length_le (by rw [HAL.out]; exact Nat.le_refl _)] at h1
            have h2 : dts l m Z = ps (al l m Z) := dts_is HV.out
            rw [HN.out, h2, h1.1, h1.2]
            rfl)
          go_wp2_with fail
          go_ret3
          exact ⟨_, 0, 0, _, 0, 0, by rw [HE.out]; rfl, by rw [HE.out]; exact ownsRow_below HE1.out.1 HW3.out.2, by rw [HE.out]; exact ownsRow_below HE1.out.2 HW3.out.2, by omega, by omega, by intro b hb hb'; simp [Value.ownBlock] at hb hb'; omega, HW3.out.1⟩
      · go_wp2_with fail
        refine (MnS.many_any a1 a2 a3 n1 c1 n2 c2 n3 c3 l m Z wr (H1.out.below HW.out.2) HV.out).mono ?_
        rintro e w3 ⟨rfl, b3⟩
        rw [HCN.out]
        have q1 := (b3.cell (p := ⟨w.heap.size, 0, none⟩) (World.block_lt_of_cell? wr _ q1)).trans q1
        have q2 := (b3.cell (p := ⟨w.heap.size, 1, none⟩) (World.block_lt_of_cell? wr _ q2)).trans q2
        have q3 := (b3.cell (p := ⟨w.heap.size, 2, none⟩) (World.block_lt_of_cell? wr _ q3)).trans q3
        have HW3 := Lib.hid (And.intro (HW.out.1.trans (b3.mono HW.out.1.size)) (HW.out.2.trans (b3.mono HW.out.2.size)))
        have HO3 := Lib.hid (And.intro (ownsRow_below HO.out.1 b3) (ownsRow_below HO.out.2.1 b3))
        clear b3
        by_cases hjn : j < N
        · have hx := al_at (l := l) (m := m) HV.out.each (n := j) (by rw [HNN.out]; exact hjn)
          have hji : (j : Int) < (N : Int) := by omega
          have hw0 := (al_bd HV.out _ (List.mem_of_getElem? hx)).1
          simp only at hw0
          have HX9 := Lib.hid hx
          clear hx
          go_wp2_with fail
          refine (YnS.years_any a1 a2 a3 n1 c1 n2 c2 n3 c3 l m Z j w3 (H1.out.below HW3.out.2) HV.out.each (by omega)).mono ?_
          rintro e w4 ⟨gv, rfl, ov, b4⟩
          have q1 := (b4.cell (p := ⟨w.heap.size, 0, none⟩) (World.block_lt_of_cell? w3 _ q1)).trans q1
          have q2 := (b4.cell (p := ⟨w.heap.size, 1, none⟩) (World.block_lt_of_cell? w3 _ q2)).trans q2
          have q3 := (b4.cell (p := ⟨w.heap.size, 2, none⟩) (World.block_lt_of_cell? w3 _ q3)).trans q3
          have HW4 := Lib.hid (And.intro (HW3.out.1.trans (b4.mono HW3.out.1.size)) (HW3.out.2.trans (b4.mono HW3.out.2.size)))
          have AP := Lib.hid (And.intro HO.out.2.2 (And.intro (apart_of HO3.out.1 ov (Nat.le_refl _)) (apart_of HO3.out.2 ov (Nat.le_refl _))))
          have HO4 := Lib.hid (And.intro (ownsRow_below HO3.out.1 b4) (ownsRow_below HO3.out.2 b4))
          have HOV := Lib.hid (ownsRow_base ov (B' := w1.heap.size) HW3.out.2.size)
          clear b4 ov
          go_wp2_with fail
          refine (WgtS.weight_any a1 a2 a3 n1 c1 n2 c2 n3 c3 l m Z (some ⟨gv, 0, none⟩) Z.length Z.length (dig Z j) w4 (H1.out.below HW4.out.2) HV.out (GivesI.holds_own HOV.out) HL3.out).mono ?_
          rintro e w5 ⟨rfl, b5⟩
          have HW5 := Lib.hid (And.intro (HW4.out.1.trans (b5.mono HW4.out.1.size)) (HW4.out.2.trans (b5.mono HW4.out.2.size)))
          have HOV2 := Lib.hid (ownsRow_below HOV.out b5)
          have HO5 := Lib.hid (And.intro (ownsRow_below HO4.out.1 b5) (ownsRow_below HO4.out.2 b5))
          have hzl : Z.length ≤ 1048576 := by have := HL3.out; omega
          clear b5 q1 q2 q3
          obtain ⟨u, hu⟩ : ∃ u, u = wt l m Z (dig Z j) := ⟨_, rfl⟩
          rw [← hu] at HX9 hw0
          rw [← hu]
          clear hu
          by_cases hu0 : u = 0
          · subst hu0
            have HP2 : Hid (mb min (ps ((al l m Z).take (j + 1))) = some A ∧ mb max (ps ((al l m Z).take (j + 1))) = some B ∧ A.length = Z.length ∧ B.length = Z.length) := by
              refine ⟨(mb_no min HX9.out (Int.lt_irrefl 0)).trans HP.out.1, (mb_no max HX9.out (Int.lt_irrefl 0)).trans HP.out.2.1, HP.out.2.2⟩
            go_wp2_with fail
            exact ⟨⟨j + 1, by omega, by go_num, HW5, .inr ⟨p, d, q, c, A, B, rfl, rfl, rfl, HP2, HO5.out.1, HO5.out.2, HO.out.2.2⟩⟩, by simp [intOf]; omega⟩
          · have hup : 0 < u := by omega
            have HNX : Hid (mb min (ps ((al l m Z).take (j + 1))) = some (List.zipWith min A (dig Z j)) ∧ mb max (ps ((al l m Z).take (j + 1))) = some (List.zipWith max B (dig Z j))) := by
              refine ⟨?_, ?_⟩
              · rw [mb_yes min HX9.out hup, HP.out.1]; rfl
              · rw [mb_yes max HX9.out hup, HP.out.2.1]; rfl
            have HAB := Lib.hid HP.out.2.2
            have HX := Lib.hid (And.intro HO5.out.1 (And.intro HO5.out.2 (And.intro HOV2.out HW5.out)))
            clear HO HO3 HO4 HO5
            go_wp2_with fail
            go_loopw [10] (fun s10 wr => ∃ (i : Nat), i ≤ Z.length ∧ s10 = .int .i64 i ∧ Hid (wr.ownsRow w1.heap.size 3 1 (.slice p Z.length d) Z.length (ints (mx min A (dig Z j) i)) ∧ wr.ownsRow w1.heap.size 3 1 (.slice q Z.length c) Z.length (ints (mx max B (dig Z j) i)) ∧ wr.ownsRow w1.heap.size 3 1 (.slice (some ⟨gv, 0, none⟩) Z.length Z.length) Z.length (ints (dig Z j)) ∧ Below w.heap.size w wr ∧ Below w1.heap.size w1 wr)) (fun s10 _ => Z.length - (intOf s10).toNat)
            case atStart => exact ⟨0, Nat.zero_le _, rfl, by rw [mx_zero, mx_zero]; exact HX.out⟩
            case round =>
              obtain ⟨i, hi, rfl, HS⟩ := hrel
              by_cases hiz : i < Z.length
              · have hAl := HAB.out.1
                have hBl := HAB.out.2
                obtain ⟨g, rfl⟩ := own_some HS.out.1 (by omega)
                obtain ⟨g', rfl⟩ := own_some HS.out.2.1 (by omega)
                have hgb := Lib.hid ((Di.own_bd HS.out.1 g rfl).1)
                have hgb' := Lib.hid ((Di.own_bd HS.out.2.1 g' rfl).1)
                have hne1 : Hid (g' ≠ g) := fun e => AP.out.1 g rfl (by rw [e]; rfl)
                have hne2 : Hid (gv ≠ g) := fun e => AP.out.2.1 g rfl (by rw [e]; rfl)
                have hne3 : Hid (gv ≠ g') := fun e => AP.out.2.2 g' rfl (by rw [e]; rfl)
                have hdl : (dig Z j).length = Z.length := dig_len Z j
                obtain ⟨a, ha⟩ : ∃ a, A[i]? = some a := ⟨_, List.getElem?_eq_getElem (by omega)⟩
                obtain ⟨b, hb⟩ : ∃ b, B[i]? = some b := ⟨_, List.getElem?_eq_getElem (by omega)⟩
                obtain ⟨y, hy⟩ : ∃ y, (dig Z j)[i]? = some y := ⟨_, List.getElem?_eq_getElem (by omega)⟩
                have z1 : wr.cell? ⟨g, i, none⟩ = some (.int .i64 a) := by
                  rw [HS.out.1.cellAt i (by omega)]
                  exact GivesI.ints_at ((mx_at (by omega) (by omega)).trans ha)
                have z2 : wr.cell? ⟨gv, i, none⟩ = some (.int .i64 y) := by
                  rw [HS.out.2.2.1.cellAt i (by omega)]
                  exact GivesI.ints_at hy
                have z3 := HS.out.1.frozenAt i
                have z7 : wr.cell? ⟨g', i, none⟩ = some (.int .i64 b) := by
                  rw [HS.out.2.1.cellAt i (by omega)]
                  exact GivesI.ints_at ((mx_at (by omega) (by omega)).trans hb)
                have Z7 := Lib.hid z7
                have Z2 := Lib.hid z2
                have z8 := HS.out.2.1.frozenAt i
                have Z8 := Lib.hid z8
                have HMA := Lib.hid (mx_next (f := min) (A := A) (ys := dig Z j) (by omega) ha hy)
                have HMB := Lib.hid (mx_next (f := max) (A := B) (ys := dig Z j) (by omega) hb hy)
                have cL : ∀ dd os, Calls Try.prog 73 #[.int .i64 a, .int .i64 y] (Sort.grow (redrawn wr dd) os) fun e w'' => e = .returned (.int .i64 (min a y)) ∧ ∃ p : Regrown, w'' = Sort.grow (redrawn wr p.d) p.os := fun dd os => Calls.regrown_of (least_any a y _)
                have hii : (i : Int) < (Z.length : Int) := by omega
                have hi0 : (0 : Int) ≤ (i : Int) := by omega
                clear ha hb hy z7 z8 hdl
                go_wp2_with fail
                have k1 := cell_regrown z1
                have k2 := cell_regrown z2
                refine Qsw.region_at_p 12 (by kernel_rfl) (by kernel_rfl) ?_
                simp only [List.take_succ_cons, List.take_zero, List.drop_succ_cons, List.drop_zero]
                repeat (go_big_quiet_step ((go_at_call 73; exact cL _ _)))
                refine wpQuiet_nil ?_
                intro _ hw'
                obtain ⟨⟨dq, osq⟩, hw''⟩ := hw'
                subst hw''
                have HBQ := Lib.hid (below_regrown wr dq osq)
                have hgx := World.block_lt_of_cell? wr _ z1
                have hgy := World.block_lt_of_cell? wr _ Z7.out
                have hgv := World.block_lt_of_cell? wr _ z2
                have z5 := (HBQ.out.cell (p := ⟨g, i, none⟩) hgx).trans z1
                have z6 := (HBQ.out.frozen (p := ⟨g, i, none⟩) hgx).trans z3
                have Z7 := Lib.hid ((HBQ.out.cell (p := ⟨g', i, none⟩) hgy).trans Z7.out)
                have Z8 := Lib.hid ((HBQ.out.frozen (p := ⟨g', i, none⟩) hgy).trans Z8.out)
                have Z2 := Lib.hid ((HBQ.out.cell (p := ⟨gv, i, none⟩) hgv).trans Z2.out)
                have HS2 := Lib.hid (And.intro (ownsRow_below HS.out.1 HBQ.out) (And.intro (ownsRow_below HS.out.2.1 HBQ.out) (And.intro (ownsRow_below HS.out.2.2.1 HBQ.out) (And.intro (HS.out.2.2.2.1.trans (HBQ.out.mono HS.out.2.2.2.1.size)) (HS.out.2.2.2.2.trans (HBQ.out.mono HS.out.2.2.2.2.size))))))
                clear k1 k2 z1 z2 z3 cL hgx hgy hgv
                generalize Sort.grow (redrawn wr dq) osq = W5 at *
                have HF : Hid ((W5.setCell ⟨g, i, none⟩ (.int .i64 (min a y))).ownsRow w1.heap.size 3 1 (.slice (some ⟨g, 0, none⟩) Z.length d) Z.length (ints (mx min A (dig Z j) (i + 1))) ∧ (W5.setCell ⟨g, i, none⟩ (.int .i64 (min a y))).ownsRow w1.heap.size 3 1 (.slice (some ⟨g', 0, none⟩) Z.length c) Z.length (ints (mx max B (dig Z j) i)) ∧ (W5.setCell ⟨g, i, none⟩ (.int .i64 (min a y))).ownsRow w1.heap.size 3 1 (.slice (some ⟨gv, 0, none⟩) Z.length Z.length) Z.length (ints (dig Z j)) ∧ Below w.heap.size w (W5.setCell ⟨g, i, none⟩ (.int .i64 (min a y))) ∧ Below w1.heap.size w1 (W5.setCell ⟨g, i, none⟩ (.int .i64 (min a y)))) := by
                  have h1 := (HS2.out.1.stored i (.int .i64 (min a y))).1
                  rw [RdI.ints_set, ← HMA.out] at h1
                  exact ⟨h1, own_other HS2.out.2.1 (fun b hb e => hne1.out ((own_is hb).trans e)), own_other HS2.out.2.2.1 (fun b hb e => hne2.out ((own_is hb).trans e)), HS2.out.2.2.2.1.setCell (p := ⟨g, i, none⟩) (Nat.le_trans HZ1.out hgb.out) _, HS2.out.2.2.2.2.setCell (p := ⟨g, i, none⟩) hgb.out _⟩
                have Y7 := Lib.hid ((World.cell?_setCell_other W5 ⟨g, i, none⟩ ⟨g', i, none⟩ (.int .i64 (min a y)) (by intro e; injection e with e; exact hne1.out e.symm)).trans Z7.out)
                have Y2 := Lib.hid ((World.cell?_setCell_other W5 ⟨g, i, none⟩ ⟨gv, i, none⟩ (.int .i64 (min a y)) (by intro e; injection e with e; exact hne2.out e.symm)).trans Z2.out)
                have Y8 : Hid ((W5.setCell ⟨g, i, none⟩ (.int .i64 (min a y))).frozen? ⟨g', i, none⟩ = false) := by unfold Hid; rw [World.frozen?_setCell]; exact Z8.out
                go_wp2_with fail
                generalize W5.setCell ⟨g, i, none⟩ (.int .i64 (min a y)) = W6 at *
                clear z5 z6 Z7 Z2 Z8 HS2
                have z1 := Y7.out
                have z2 := Y2.out
                have z3 := Y8.out
                have cM : ∀ dd os, Calls Try.prog 74 #[.int .i64 b, .int .i64 y] (Sort.grow (redrawn W6 dd) os) fun e w'' => e = .returned (.int .i64 (max b y)) ∧ ∃ p : Regrown, w'' = Sort.grow (redrawn W6 p.d) p.os := fun dd os => Calls.regrown_of (most_any b y _)
                have k1 := cell_regrown z1
                have k2 := cell_regrown z2
                refine Qsw.region_at_p 12 (by kernel_rfl) (by kernel_rfl) ?_
                simp only [List.take_succ_cons, List.take_zero, List.drop_succ_cons, List.drop_zero]
                repeat (go_big_quiet_step ((go_at_call 74; exact cM _ _)))
                refine wpQuiet_nil ?_
                intro _ hw'
                obtain ⟨⟨dr, osr⟩, hw''⟩ := hw'
                subst hw''
                have HBR := Lib.hid (below_regrown W6 dr osr)
                have hgy := World.block_lt_of_cell? W6 _ z1
                have z5 := (HBR.out.cell (p := ⟨g', i, none⟩) hgy).trans z1
                have z6 := (HBR.out.frozen (p := ⟨g', i, none⟩) hgy).trans z3
                have HS3 := Lib.hid (And.intro (ownsRow_below HF.out.1 HBR.out) (And.intro (ownsRow_below HF.out.2.1 HBR.out) (And.intro (ownsRow_below HF.out.2.2.1 HBR.out) (And.intro (HF.out.2.2.2.1.trans (HBR.out.mono HF.out.2.2.2.1.size)) (HF.out.2.2.2.2.trans (HBR.out.mono HF.out.2.2.2.2.size))))))
                clear k1 k2 z1 z2 z3 cM hgy Y7 Y2 Y8 HF
                generalize Sort.grow (redrawn W6 dr) osr = W7 at *
                have HF : Hid ((W7.setCell ⟨g', i, none⟩ (.int .i64 (max b y))).ownsRow w1.heap.size 3 1 (.slice (some ⟨g, 0, none⟩) Z.length d) Z.length (ints (mx min A (dig Z j) (i + 1))) ∧ (W7.setCell ⟨g', i, none⟩ (.int .i64 (max b y))).ownsRow w1.heap.size 3 1 (.slice (some ⟨g', 0, none⟩) Z.length c) Z.length (ints (mx max B (dig Z j) (i + 1))) ∧ (W7.setCell ⟨g', i, none⟩ (.int .i64 (max b y))).ownsRow w1.heap.size 3 1 (.slice (some ⟨gv, 0, none⟩) Z.length Z.length) Z.length (ints (dig Z j)) ∧ Below w.heap.size w (W7.setCell ⟨g', i, none⟩ (.int .i64 (max b y))) ∧ Below w1.heap.size w1 (W7.setCell ⟨g', i, none⟩ (.int .i64 (max b y)))) := by
                  have h1 := (HS3.out.2.1.stored i (.int .i64 (max b y))).1
                  rw [RdI.ints_set, ← HMB.out] at h1
                  exact ⟨own_other HS3.out.1 (fun b hb e => hne1.out ((own_is hb).trans e).symm), h1, own_other HS3.out.2.2.1 (fun b hb e => hne3.out ((own_is hb).trans e)), HS3.out.2.2.2.1.setCell (p := ⟨g', i, none⟩) (Nat.le_trans HZ1.out hgb'.out) _, HS3.out.2.2.2.2.setCell (p := ⟨g', i, none⟩) hgb'.out _⟩
                go_wp2_with fail
                exact ⟨⟨i + 1, by omega, by go_num, HF⟩, by simp [intOf]; omega⟩
              · obtain rfl : i = Z.length := by omega
                have hii : ¬ (Z.length : Int) < (Z.length : Int) := by omega
                have hdl : (dig Z j).length = Z.length := dig_len Z j
                have HE : Hid (wr.ownsRow w1.heap.size 3 1 (.slice p Z.length d) Z.length (ints (List.zipWith min A (dig Z j))) ∧ wr.ownsRow w1.heap.size 3 1 (.slice q Z.length c) Z.length (ints (List.zipWith max B (dig Z j)))) := by
                  have h1 := HS.out.1
                  have h2 := HS.out.2.1
                  rw [mx_full HAB.out.1 hdl] at h1
                  rw [mx_full HAB.out.2 hdl] at h2
                  exact ⟨h1, h2⟩
                have HLL : Hid ((List.zipWith min A (dig Z j)).length = Z.length ∧ (List.zipWith max B (dig Z j)).length = Z.length) := by
                  unfold Hid
                  rw [List.length_zipWith, List.length_zipWith, HAB.out.1, HAB.out.2, hdl]
                  exact ⟨Nat.min_self _, Nat.min_self _⟩
                have HW7 := Lib.hid (And.intro HS.out.2.2.2.1 HS.out.2.2.2.2)
                clear hdl
                go_wp2_with fail
                exact ⟨⟨j + 1, by omega, by go_num, HW7, .inr ⟨p, d, q, c, _, _, rfl, rfl, rfl, ⟨HNX.out.1, HNX.out.2, HLL.out.1, HLL.out.2⟩, HE.out.1, HE.out.2, AP.out.1⟩⟩, by simp [intOf]; omega⟩
        · obtain rfl : j = N := by omega
          have hjj : ¬ (j : Int) < (j : Int) := by omega
          have HE := Lib.hid (show r = (A, B, true) by
            have h1 := HP.out
            rw [List.take_of_length_le (by rw [HAL.out]; exact Nat.le_refl _)] at h1
            have h2 : dts l m Z = ps (al l m Z) := dts_is HV.out
            rw [HN.out, h2, h1.1, h1.2.1]
            rfl)
          go_wp2_with fail
          go_ret3
          exact ⟨p, Z.length, d, q, Z.length, c, by rw [HE.out]; rfl, by rw [HE.out]; exact ownsRow_base HO3.out.1 HZ1.out, by rw [HE.out]; exact ownsRow_base HO3.out.2 HZ1.out, by have := HL3.out; omega, by have := HL3.out; omega, HO.out.2.2, HW3.out.1⟩
end Go.Proofs.Ytfbgekhkbbhggaa.BdS

namespace Go.Proofs.Ytfbgekhkbbhggaa.WDateBounds
open Go.ChangeShapes Go.WideShapes Go.ChangeAt Go.RowKit
open Pairs Rec RecEq RecOpen
set_option linter.unusedVariables false
set_option maxRecDepth 100000 in
set_option maxHeartbeats 16000000 in
theorem walk (F : List (Int × Int) → List (Int × Int) → List Zh.Pt → List Int × List Int × Bool) (hI : ∀ (a1 a2 a3 : Option Addr) (n1 n2 n3 : Nat) (l m : List (Int × Int)) (Z : List Zh.Pt) (w : World), Dr.Arg w a1 n1 a2 n2 a3 n3 l m Z → Calls Try.prog 32 #[.agg #[.slice a1 n1 n1, .slice a2 n2 n2, .slice a3 n3 n3]] w (BdR.ResM (F l m Z).1 (F l m Z).2.1 (F l m Z).2.2 w)) (hM : ∀ (a1 a2 a3 : Option Addr) (n1 n2 n3 : Nat) (l m : List (Int × Int)) (Z : List Zh.Pt) (w : World), Dr.Arg w a1 n1 a2 n2 a3 n3 l m Z → Calls Try.prog 31 #[.agg #[.slice a1 n1 n1, .slice a2 n2 n2, .slice a3 n3 n3]] w (BdR.ResM (F l m Z).1 (F l m Z).2.1 (F l m Z).2.2 w)) (a1 a2 a3 : Option Addr) (n1 c1 n2 c2 n3 c3 : Nat) (l m : List (Int × Int)) (Z : List Zh.Pt) (w : World) (ny1 : n1 ≤ 9223372036854775807) (ny2 : n2 ≤ 9223372036854775807) (ny3 : n3 ≤ 9223372036854775807) (H1 : Holds w a1 n1 l) (H2 : Holds w a2 n2 m) (H3 : Zh.HoldsZ w a3 n3 Z) (H4 : Zh.Sm Z 9223372036854775807) :
    Calls Try.prog 7 #[.agg #[.slice a1 n1 c1, .slice a2 n2 c2, .slice a3 n3 c3]] w fun e w' => e = .returned (.bool true) ∧ Below w.heap.size w w' := by
  have hI1 := fun (q1 q2 q3 : Option Addr) (w : World) hA => hI q1 q2 q3 n1 n2 n3 l m Z w hA
  have hM1 := fun (q1 q2 q3 : Option Addr) (w : World) hA => hM q1 q2 q3 n1 n2 n3 l m Z w hA
  clear hI hM
  generalize F l m Z = FF at hI1 hM1
  obtain ⟨A, B, ok⟩ := FF
  have HI := Lib.hid hI1
  have HM := Lib.hid hM1
  clear hI1 hM1
  have HH1 := Lib.hid H1
  have HH2 := Lib.hid H2
  have HH3 := Lib.hid H3
  have K1 := Lib.hid H1
  have K2 := Lib.hid H2
  have K3 := Lib.hid H3
  have K4 := Lib.hid H4
  clear H1 H2 H3 H4
  have HB := Lib.hid (Below.refl w.heap.size w)
  go_enter Try.func7, Try.ntmps7
  have b := below_alloc w (.cells #[.slice a1 n1 c1, .slice a2 n2 c2, .slice a3 n3 c3] 28)
  obtain ⟨f1, f2, f3⟩ := Dr.box3 w (.slice a1 n1 c1) (.slice a2 n2 c2) (.slice a3 n3 c3) 28
  have fl : w.heap.size < (w.alloc (.cells #[.slice a1 n1 c1, .slice a2 n2 c2, .slice a3 n3 c3] 28)).heap.size := by simp
  replace K1 := Lib.hid (K1.out.below b)
  replace K2 := Lib.hid (K2.out.below b)
  replace K3 := Lib.hid (K3.out.below b)
  replace HB := Lib.hid (HB.out.trans (b.mono HB.out.size))
  clear b
  go_wp2_with fail
  generalize w.alloc (.cells #[.slice a1 n1 c1, .slice a2 n2 c2, .slice a3 n3 c3] 28) = W at *
  refine (Dr.szDR_any a1 a2 a3 n1 c1 n2 c2 n3 c3 Z ny1 ny2 ny3 _ K3.out K4.out).mono ?_
  rintro e w1 ⟨r, rfl, hr, b⟩
  replace f1 := (b.cell (p := ⟨w.heap.size, 0, none⟩) fl).trans f1
  replace f2 := (b.cell (p := ⟨w.heap.size, 1, none⟩) fl).trans f2
  replace f3 := (b.cell (p := ⟨w.heap.size, 2, none⟩) fl).trans f3
  replace fl := Nat.lt_of_lt_of_le fl b.size
  replace K1 := Lib.hid (K1.out.below b)
  replace K2 := Lib.hid (K2.out.below b)
  replace K3 := Lib.hid (K3.out.below b)
  replace HB := Lib.hid (HB.out.trans (b.mono HB.out.size))
  clear b
  rcases hr with hr | ⟨hr0, hr1, hn1, hn2, hn3, hSm, hT⟩
  · go_wp2_with fail
    go_ret
    exact ⟨rfl, HB.out⟩
  have hrn : ¬ r < 0 := by omega
  have K := Lib.hid (show Dr.Arg w1 a1 n1 a2 n2 a3 n3 l m Z from ⟨hn1, hn2, hn3, K1.out, K2.out, K3.out, hSm⟩)
  have H0 := Lib.hid (show Dr.Arg w a1 n1 a2 n2 a3 n3 l m Z from ⟨hn1, hn2, hn3, HH1.out, HH2.out, HH3.out, hSm⟩)
  have HZ := Lib.hid (show Z.length = n3 from K3.out.1)
  have HT := Lib.hid hT
  clear hSm hT K1 K2 K3 K4 HH1 HH2 HH3 hr0 hr1
  go_wp2_with fail
  refine (Dr.toDR_any a1 a2 a3 n1 c1 n2 c2 n3 c3 l m Z _ K.out).mono ?_
  rintro e w2 ⟨gm1, gm2, gm3, rfl, o, b⟩
  have Gm := Lib.hid (o.arg HZ.out K.out.s1 K.out.s2 K.out.s3 K.out.sm)
  clear o
  replace f1 := (b.cell (p := ⟨w.heap.size, 0, none⟩) fl).trans f1
  replace f2 := (b.cell (p := ⟨w.heap.size, 1, none⟩) fl).trans f2
  replace f3 := (b.cell (p := ⟨w.heap.size, 2, none⟩) fl).trans f3
  replace fl := Nat.lt_of_lt_of_le fl b.size
  replace K := Lib.hid (K.out.below b)
  replace HB := Lib.hid (HB.out.trans (b.mono HB.out.size))
  clear b
  go_wp2_with fail
  refine (HM.out _ _ _ _ Gm.out).mono ?_
  rintro e w3 ⟨pW, kW, dW, qW, jW, tW, rfl, o, o2, hkW, hjW, ap, b⟩
  have ow1 := Lib.hid (fun b hb => (Di.own_bd o b hb).2)
  have OW := Lib.hid o
  have ov1 := Lib.hid (fun b hb => (Di.own_bd o2 b hb).2)
  have OV := Lib.hid o2
  clear o o2 ap
  replace f1 := (b.cell (p := ⟨w.heap.size, 0, none⟩) fl).trans f1
  replace f2 := (b.cell (p := ⟨w.heap.size, 1, none⟩) fl).trans f2
  replace f3 := (b.cell (p := ⟨w.heap.size, 2, none⟩) fl).trans f3
  replace fl := Nat.lt_of_lt_of_le fl b.size
  replace K := Lib.hid (K.out.below b)
  replace Gm := Lib.hid (Gm.out.below b)
  replace HB := Lib.hid (HB.out.trans (b.mono HB.out.size))
  clear b
  clear Gm
  go_wp2_with fail
  have hz1 := Lib.hid (Nat.le_refl w3.heap.size)
  have hzw := Lib.hid HB.out.size
  have hzf := Lib.hid fl
  refine (Dr.toDR_any a1 a2 a3 n1 c1 n2 c2 n3 c3 l m Z _ K.out).mono ?_
  rintro e w4 ⟨gx1, gx2, gx3, rfl, o, b⟩
  have Gx := Lib.hid (o.arg HZ.out K.out.s1 K.out.s2 K.out.s3 K.out.sm)
  have MX := Lib.hid (Zm.mkR_of o HZ.out)
  have hzx := Lib.hid b.size
  clear o
  replace f1 := (b.cell (p := ⟨w.heap.size, 0, none⟩) fl).trans f1
  replace f2 := (b.cell (p := ⟨w.heap.size, 1, none⟩) fl).trans f2
  replace f3 := (b.cell (p := ⟨w.heap.size, 2, none⟩) fl).trans f3
  replace fl := Nat.lt_of_lt_of_le fl b.size
  replace K := Lib.hid (K.out.below b)
  replace OW := Lib.hid (ownsRow_below OW.out b)
  replace OV := Lib.hid (ownsRow_below OV.out b)
  replace HB := Lib.hid (HB.out.trans (b.mono HB.out.size))
  clear b
  have b := below_alloc w4 (.cells #[.slice (some ⟨gx1, 0, none⟩) n1 n1, .slice (some ⟨gx2, 0, none⟩) n2 n2, .slice (some ⟨gx3, 0, none⟩) n3 n3] 37)
  obtain ⟨y1, y2, y3⟩ := Dr.box3 w4 (.slice (some ⟨gx1, 0, none⟩) n1 n1) (.slice (some ⟨gx2, 0, none⟩) n2 n2) (.slice (some ⟨gx3, 0, none⟩) n3 n3) 37
  have yl : w4.heap.size < (w4.alloc (.cells #[.slice (some ⟨gx1, 0, none⟩) n1 n1, .slice (some ⟨gx2, 0, none⟩) n2 n2, .slice (some ⟨gx3, 0, none⟩) n3 n3] 37)).heap.size := by simp
  replace f1 := (b.cell (p := ⟨w.heap.size, 0, none⟩) fl).trans f1
  replace f2 := (b.cell (p := ⟨w.heap.size, 1, none⟩) fl).trans f2
  replace f3 := (b.cell (p := ⟨w.heap.size, 2, none⟩) fl).trans f3
  replace fl := Nat.lt_of_lt_of_le fl b.size
  replace K := Lib.hid (K.out.below b)
  replace Gx := Lib.hid (Gx.out.below b)
  replace OW := Lib.hid (ownsRow_below OW.out b)
  replace OV := Lib.hid (ownsRow_below OV.out b)
  replace MX := Lib.hid (MX.out.below b)
  replace HB := Lib.hid (HB.out.trans (b.mono HB.out.size))
  clear b
  go_wp2_with fail
  generalize w4.alloc (.cells #[.slice (some ⟨gx1, 0, none⟩) n1 n1, .slice (some ⟨gx2, 0, none⟩) n2 n2, .slice (some ⟨gx3, 0, none⟩) n3 n3] 37) = W5 at *
  have hzy := Lib.hid yl
  refine (HI.out _ _ _ _ Gx.out).mono ?_
  rintro e w7 ⟨pG, kG, dG, qG, jG, tG, rfl, o, o2, hkG, hjG, ap, b⟩
  have hz3 := Lib.hid b.size
  have og1 := Lib.hid (Di.own_bd o)
  have OG := Lib.hid o
  have of1 := Lib.hid (Di.own_bd o2)
  have OF := Lib.hid o2
  have AP := Lib.hid ap
  clear o o2 ap
  replace f1 := (b.cell (p := ⟨w.heap.size, 0, none⟩) fl).trans f1
  replace f2 := (b.cell (p := ⟨w.heap.size, 1, none⟩) fl).trans f2
  replace f3 := (b.cell (p := ⟨w.heap.size, 2, none⟩) fl).trans f3
  replace fl := Nat.lt_of_lt_of_le fl b.size
  replace y1 := (b.cell (p := ⟨w4.heap.size, 0, none⟩) yl).trans y1
  replace y2 := (b.cell (p := ⟨w4.heap.size, 1, none⟩) yl).trans y2
  replace y3 := (b.cell (p := ⟨w4.heap.size, 2, none⟩) yl).trans y3
  replace yl := Nat.lt_of_lt_of_le yl b.size
  replace K := Lib.hid (K.out.below b)
  replace Gx := Lib.hid (Gx.out.below b)
  replace OW := Lib.hid (ownsRow_below OW.out b)
  replace OV := Lib.hid (ownsRow_below OV.out b)
  replace MX := Lib.hid (MX.out.below b)
  replace HB := Lib.hid (HB.out.trans (b.mono HB.out.size))
  clear b
  have hjj : jG = jW := by have h1 := OF.out.1; have h2 := OV.out.1; rw [GivesI.ints_len] at h1 h2; omega
  subst hjj
  have hkk : kG = kW := by have h1 := OG.out.1; have h2 := OW.out.1; rw [GivesI.ints_len] at h1 h2; omega
  subst hkk
  go_wp2_with fail
  refine (GivesI.eq_same pG pW kG dG dW A hkG _ (GivesI.holds_own OG.out) (GivesI.holds_own OW.out)).mono ?_
  rintro e w8a ⟨rfl, b⟩
  replace f1 := (b.cell (p := ⟨w.heap.size, 0, none⟩) fl).trans f1
  replace f2 := (b.cell (p := ⟨w.heap.size, 1, none⟩) fl).trans f2
  replace f3 := (b.cell (p := ⟨w.heap.size, 2, none⟩) fl).trans f3
  replace fl := Nat.lt_of_lt_of_le fl b.size
  replace y1 := (b.cell (p := ⟨w4.heap.size, 0, none⟩) yl).trans y1
  replace y2 := (b.cell (p := ⟨w4.heap.size, 1, none⟩) yl).trans y2
  replace y3 := (b.cell (p := ⟨w4.heap.size, 2, none⟩) yl).trans y3
  replace yl := Nat.lt_of_lt_of_le yl b.size
  replace K := Lib.hid (K.out.below b)
  replace Gx := Lib.hid (Gx.out.below b)
  replace OW := Lib.hid (ownsRow_below OW.out b)
  replace OV := Lib.hid (ownsRow_below OV.out b)
  replace OG := Lib.hid (ownsRow_below OG.out b)
  replace OF := Lib.hid (ownsRow_below OF.out b)
  replace MX := Lib.hid (MX.out.below b)
  replace HB := Lib.hid (HB.out.trans (b.mono HB.out.size))
  clear b
  go_wp2_with fail
  refine (GivesI.eq_same qG qW jG tG tW B hjG _ (GivesI.holds_own OF.out) (GivesI.holds_own OV.out)).mono ?_
  rintro e w8 ⟨rfl, b⟩
  replace f1 := (b.cell (p := ⟨w.heap.size, 0, none⟩) fl).trans f1
  replace f2 := (b.cell (p := ⟨w.heap.size, 1, none⟩) fl).trans f2
  replace f3 := (b.cell (p := ⟨w.heap.size, 2, none⟩) fl).trans f3
  replace fl := Nat.lt_of_lt_of_le fl b.size
  replace y1 := (b.cell (p := ⟨w4.heap.size, 0, none⟩) yl).trans y1
  replace y2 := (b.cell (p := ⟨w4.heap.size, 1, none⟩) yl).trans y2
  replace y3 := (b.cell (p := ⟨w4.heap.size, 2, none⟩) yl).trans y3
  replace yl := Nat.lt_of_lt_of_le yl b.size
  replace K := Lib.hid (K.out.below b)
  replace Gx := Lib.hid (Gx.out.below b)
  replace OW := Lib.hid (ownsRow_below OW.out b)
  replace OV := Lib.hid (ownsRow_below OV.out b)
  replace OG := Lib.hid (ownsRow_below OG.out b)
  replace OF := Lib.hid (ownsRow_below OF.out b)
  replace MX := Lib.hid (MX.out.below b)
  replace HB := Lib.hid (HB.out.trans (b.mono HB.out.size))
  clear b
  have KD := Lib.hid (K.out.below (Below.refl _ _).drew)
  have GD := Lib.hid (Gx.out.below (Below.refl _ _).drew)
  go_wp2_with fail
  go_region_held3 (fun w' => w'.cell? ⟨w4.heap.size, 0, none⟩ = some (.slice (some ⟨gx1, 0, none⟩) n1 n1) ∧ w'.cell? ⟨w4.heap.size, 1, none⟩ = some (.slice (some ⟨gx2, 0, none⟩) n2 n2) ∧ w'.cell? ⟨w4.heap.size, 2, none⟩ = some (.slice (some ⟨gx3, 0, none⟩) n3 n3) ∧ w4.heap.size < w'.heap.size ∧ w'.cell? ⟨w.heap.size, 0, none⟩ = some (.slice a1 n1 c1) ∧ w'.cell? ⟨w.heap.size, 1, none⟩ = some (.slice a2 n2 c2) ∧ w'.cell? ⟨w.heap.size, 2, none⟩ = some (.slice a3 n3 c3) ∧ w.heap.size < w'.heap.size)
    (first | go_keep | (exact ⟨by assumption, by assumption, by assumption, by assumption, by assumption, by assumption, by assumption, by assumption⟩))
    (first
      | (go_at_call 16; refine (DrS.toDR_keeps a1 a2 a3 n1 c1 n2 c2 n3 c3 l m Z w8.drew KD.out ⟨y1, y2, y3, yl, f1, f2, f3, fl⟩).mono ?_; rintro e wd ⟨gd1, gd2, gd3, rfl, od, bd, ⟨s1, s2, s3, s4, s5, s6, s7, s8⟩⟩)
      | (go_at_call 18; refine (DrS.eqDR_keeps (some ⟨gx1, 0, none⟩) (some ⟨gx2, 0, none⟩) (some ⟨gx3, 0, none⟩) (some ⟨gd1, 0, none⟩) (some ⟨gd2, 0, none⟩) (some ⟨gd3, 0, none⟩) n1 n1 n2 n2 n3 n3 n1 n2 n3 l m Z wd (GD.out.below bd) od ⟨s1, s2, s3, s4, s5, s6, s7, s8⟩).mono ?_; rintro e w9 ⟨rfl, be, ⟨t1, t2, t3, t4, t5, t6, t7, t8⟩⟩))
  have b : Below w8.heap.size w8 w9 := (Below.refl w8.heap.size w8).drew.trans (bd.trans (be.mono bd.size))
  clear od bd be KD GD s1 s2 s3 s4 s5 s6 s7 s8 t1 t2 t3 t4 t5 t6 t7 t8
  replace f1 := (b.cell (p := ⟨w.heap.size, 0, none⟩) fl).trans f1
  replace f2 := (b.cell (p := ⟨w.heap.size, 1, none⟩) fl).trans f2
  replace f3 := (b.cell (p := ⟨w.heap.size, 2, none⟩) fl).trans f3
  replace fl := Nat.lt_of_lt_of_le fl b.size
  replace y1 := (b.cell (p := ⟨w4.heap.size, 0, none⟩) yl).trans y1
  replace y2 := (b.cell (p := ⟨w4.heap.size, 1, none⟩) yl).trans y2
  replace y3 := (b.cell (p := ⟨w4.heap.size, 2, none⟩) yl).trans y3
  replace yl := Nat.lt_of_lt_of_le yl b.size
  replace K := Lib.hid (K.out.below b)
  replace Gx := Lib.hid (Gx.out.below b)
  replace OW := Lib.hid (ownsRow_below OW.out b)
  replace OV := Lib.hid (ownsRow_below OV.out b)
  replace OG := Lib.hid (ownsRow_below OG.out b)
  replace OF := Lib.hid (ownsRow_below OF.out b)
  replace MX := Lib.hid (MX.out.below b)
  replace HB := Lib.hid (HB.out.trans (b.mono HB.out.size))
  clear b
  clear Gx
  go_wp2_with fail
  have hDD : w4.heap.size ≤ w9.heap.size := Nat.le_of_lt yl
  refine (Zm.markDR_any w3.heap.size w4.heap.size gx1 n1 gx2 n2 gx3 n3 l m Z _ MX.out hn1 hn2 hn3 K.out.sm HT.out hDD).mono ?_
  rintro e wm ⟨rm, rfl, kk⟩
  have q1 := hz1.out; have q2 := hzw.out; have q3 := hzx.out; have q4 := hzy.out; have q5 := hz3.out; have q6 := hzf.out
  replace f1 := kk.cell f1 (by intro hq; (try simp only at hq); omega)
  replace f2 := kk.cell f2 (by intro hq; (try simp only at hq); omega)
  replace f3 := kk.cell f3 (by intro hq; (try simp only at hq); omega)
  replace fl := Nat.lt_of_lt_of_le fl kk.size
  replace y1 := kk.cell y1 (by intro hq; (try simp only at hq); omega)
  replace y2 := kk.cell y2 (by intro hq; (try simp only at hq); omega)
  replace y3 := kk.cell y3 (by intro hq; (try simp only at hq); omega)
  replace yl := Nat.lt_of_lt_of_le yl kk.size
  replace K := Lib.hid (Zm.argKept H0.out K.out HB.out kk (fun b hb hq => by (try simp only at hq); omega))
  replace OW := Lib.hid (kk.owns OW.out (fun b hb hq => by have h2 := ow1.out b hb; (try simp only at hq); omega))
  replace OG := Lib.hid (kk.owns OG.out (fun b hb hq => by have h2 := og1.out b hb; (try simp only at hq); omega))
  replace OV := Lib.hid (kk.owns OV.out (fun b hb hq => by have h2 := ov1.out b hb; (try simp only at hq); omega))
  replace OF := Lib.hid (kk.owns OF.out (fun b hb hq => by have h2 := of1.out b hb; (try simp only at hq); omega))
  replace HB := Lib.hid (HB.out.trans (kk.below (B := w.heap.size) (fun b hq => by (try simp only at hq); omega) HB.out.size))
  clear kk MX hDD
  clear q1 q2 q3 q4 q5 q6
  have hnk : ¬ (rm : Int) < 0 := by omega
  have hnb : decide ((rm : Int) < 0) = false := decide_eq_false hnk
  go_wp2_with fail
  refine (GivesI.eq_same pG pW kG dG dW A hkG _ (GivesI.holds_own OG.out) (GivesI.holds_own OW.out)).mono ?_
  rintro e w12a ⟨rfl, b⟩
  replace f1 := (b.cell (p := ⟨w.heap.size, 0, none⟩) fl).trans f1
  replace f2 := (b.cell (p := ⟨w.heap.size, 1, none⟩) fl).trans f2
  replace f3 := (b.cell (p := ⟨w.heap.size, 2, none⟩) fl).trans f3
  replace fl := Nat.lt_of_lt_of_le fl b.size
  replace y1 := (b.cell (p := ⟨w4.heap.size, 0, none⟩) yl).trans y1
  replace y2 := (b.cell (p := ⟨w4.heap.size, 1, none⟩) yl).trans y2
  replace y3 := (b.cell (p := ⟨w4.heap.size, 2, none⟩) yl).trans y3
  replace yl := Nat.lt_of_lt_of_le yl b.size
  replace K := Lib.hid (K.out.below b)
  replace OW := Lib.hid (ownsRow_below OW.out b)
  replace OV := Lib.hid (ownsRow_below OV.out b)
  replace OG := Lib.hid (ownsRow_below OG.out b)
  replace OF := Lib.hid (ownsRow_below OF.out b)
  replace HB := Lib.hid (HB.out.trans (b.mono HB.out.size))
  clear b
  go_wp2_with fail
  refine (GivesI.eq_same qG qW jG tG tW B hjG _ (GivesI.holds_own OF.out) (GivesI.holds_own OV.out)).mono ?_
  rintro e w12 ⟨rfl, b⟩
  replace f1 := (b.cell (p := ⟨w.heap.size, 0, none⟩) fl).trans f1
  replace f2 := (b.cell (p := ⟨w.heap.size, 1, none⟩) fl).trans f2
  replace f3 := (b.cell (p := ⟨w.heap.size, 2, none⟩) fl).trans f3
  replace fl := Nat.lt_of_lt_of_le fl b.size
  replace y1 := (b.cell (p := ⟨w4.heap.size, 0, none⟩) yl).trans y1
  replace y2 := (b.cell (p := ⟨w4.heap.size, 1, none⟩) yl).trans y2
  replace y3 := (b.cell (p := ⟨w4.heap.size, 2, none⟩) yl).trans y3
  replace yl := Nat.lt_of_lt_of_le yl b.size
  replace K := Lib.hid (K.out.below b)
  replace OW := Lib.hid (ownsRow_below OW.out b)
  replace OV := Lib.hid (ownsRow_below OV.out b)
  replace OG := Lib.hid (ownsRow_below OG.out b)
  replace OF := Lib.hid (ownsRow_below OF.out b)
  replace HB := Lib.hid (HB.out.trans (b.mono HB.out.size))
  clear b
  go_wp2_with fail
  refine (GivesI.mark_any _ pG kG dG (1) (GivesI.ints A) (by omega) (by omega) hkG _ OG.out).mono ?_
  rintro e w13 ⟨rfl, om, kk⟩
  have q1 := hz1.out; have q2 := hzw.out; have q3 := hzx.out; have q4 := hzy.out; have q5 := hz3.out; have q6 := hzf.out
  replace f1 := kk.cell f1 (by intro hq; have := og1.out _ hq; simp only at this; omega)
  replace f2 := kk.cell f2 (by intro hq; have := og1.out _ hq; simp only at this; omega)
  replace f3 := kk.cell f3 (by intro hq; have := og1.out _ hq; simp only at this; omega)
  replace fl := Nat.lt_of_lt_of_le fl kk.size
  replace y1 := kk.cell y1 (by intro hq; have := og1.out _ hq; simp only at this; omega)
  replace y2 := kk.cell y2 (by intro hq; have := og1.out _ hq; simp only at this; omega)
  replace y3 := kk.cell y3 (by intro hq; have := og1.out _ hq; simp only at this; omega)
  replace yl := Nat.lt_of_lt_of_le yl kk.size
  replace K := Lib.hid (Zm.argKept H0.out K.out HB.out kk (fun b hb hq => by have := og1.out _ hq; omega))
  replace OW := Lib.hid (kk.owns OW.out (fun b hb hq => by have h1 := og1.out _ hq; have h2 := ow1.out b hb; omega))
  replace OV := Lib.hid (kk.owns OV.out (fun b hb hq => by have h1 := og1.out _ hq; have h2 := ov1.out b hb; omega))
  replace OF := Lib.hid (kk.owns OF.out (fun b hb hq => AP.out b hq hb))
  replace HB := Lib.hid (HB.out.trans (kk.below (B := w.heap.size) (fun b hq => by have := og1.out _ hq; omega) HB.out.size))
  have OM := Lib.hid om
  clear kk om OG
  clear q1 q2 q3 q4 q5 q6
  have hkn : ¬ (1 : Int) + (kG : Int) < 0 := by omega
  have hkb : decide ((1 : Int) + (kG : Int) < 0) = false := decide_eq_false hkn
  go_wp2_with fail
  refine (GivesI.mark_any _ qG jG tG (1 + (kG : Int)) (GivesI.ints B) (by omega) (by omega) hjG _ OF.out).mono ?_
  rintro e w13b ⟨rfl, om, kk⟩
  have q1 := hz1.out; have q2 := hzw.out; have q3 := hzx.out; have q4 := hzy.out; have q5 := hz3.out; have q6 := hzf.out
  replace f1 := kk.cell f1 (by intro hq; have := of1.out _ hq; simp only at this; omega)
  replace f2 := kk.cell f2 (by intro hq; have := of1.out _ hq; simp only at this; omega)
  replace f3 := kk.cell f3 (by intro hq; have := of1.out _ hq; simp only at this; omega)
  replace fl := Nat.lt_of_lt_of_le fl kk.size
  replace y1 := kk.cell y1 (by intro hq; have := of1.out _ hq; simp only at this; omega)
  replace y2 := kk.cell y2 (by intro hq; have := of1.out _ hq; simp only at this; omega)
  replace y3 := kk.cell y3 (by intro hq; have := of1.out _ hq; simp only at this; omega)
  replace yl := Nat.lt_of_lt_of_le yl kk.size
  replace K := Lib.hid (Zm.argKept H0.out K.out HB.out kk (fun b hb hq => by have := of1.out _ hq; omega))
  replace OW := Lib.hid (kk.owns OW.out (fun b hb hq => by have h1 := of1.out _ hq; have h2 := ow1.out b hb; omega))
  replace OV := Lib.hid (kk.owns OV.out (fun b hb hq => by have h1 := of1.out _ hq; have h2 := ov1.out b hb; omega))
  have MG := Lib.hid (GivesI.holds_own (kk.owns OM.out (fun b hb hq => AP.out b hb hq)))
  replace HB := Lib.hid (HB.out.trans (kk.below (B := w.heap.size) (fun b hq => by have := of1.out _ hq; omega) HB.out.size))
  have MF := Lib.hid (GivesI.holds_own om)
  clear OM
  clear kk om OF
  clear q1 q2 q3 q4 q5 q6
  have hkn2 : ¬ (1 : Int) + (kG : Int) + (jG : Int) < 0 := by omega
  have hkb2 : decide ((1 : Int) + (kG : Int) + (jG : Int) < 0) = false := decide_eq_false hkn2
  go_wp2_with fail
  refine (GivesI.held_any pG kG dG 1 (by omega) (by omega) hkG _ MG.out).mono ?_
  rintro e w14 ⟨rfl, hww⟩
  subst hww
  go_wp2_with fail
  refine (GivesI.held_any qG jG tG (1 + (kG : Int)) (by omega) (by omega) hjG _ MF.out).mono ?_
  rintro e w14b ⟨rfl, hww⟩
  subst hww
  go_wp2_with fail
  refine (Dr.toDR_any a1 a2 a3 n1 c1 n2 c2 n3 c3 l m Z _ K.out).mono ?_
  rintro e w15 ⟨gh1, gh2, gh3, rfl, o, b⟩
  have Gh := Lib.hid (o.arg HZ.out K.out.s1 K.out.s2 K.out.s3 K.out.sm)
  clear o
  replace f1 := (b.cell (p := ⟨w.heap.size, 0, none⟩) fl).trans f1
  replace f2 := (b.cell (p := ⟨w.heap.size, 1, none⟩) fl).trans f2
  replace f3 := (b.cell (p := ⟨w.heap.size, 2, none⟩) fl).trans f3
  replace fl := Nat.lt_of_lt_of_le fl b.size
  replace y1 := (b.cell (p := ⟨w4.heap.size, 0, none⟩) yl).trans y1
  replace y2 := (b.cell (p := ⟨w4.heap.size, 1, none⟩) yl).trans y2
  replace y3 := (b.cell (p := ⟨w4.heap.size, 2, none⟩) yl).trans y3
  replace yl := Nat.lt_of_lt_of_le yl b.size
  replace MG := Lib.hid (MG.out.below b)
  replace MF := Lib.hid (MF.out.below b)
  replace K := Lib.hid (K.out.below b)
  replace OW := Lib.hid (ownsRow_below OW.out b)
  replace OV := Lib.hid (ownsRow_below OV.out b)
  replace HB := Lib.hid (HB.out.trans (b.mono HB.out.size))
  clear b
  go_wp2_with fail
  refine (HI.out _ _ _ _ Gh.out).mono ?_
  rintro e w16 ⟨pH, kH, dH, qH, jH, tH, rfl, o, o2, hkH, hjH, ap, b⟩
  have OH := Lib.hid o
  have OE := Lib.hid o2
  clear o o2 ap
  replace f1 := (b.cell (p := ⟨w.heap.size, 0, none⟩) fl).trans f1
  replace f2 := (b.cell (p := ⟨w.heap.size, 1, none⟩) fl).trans f2
  replace f3 := (b.cell (p := ⟨w.heap.size, 2, none⟩) fl).trans f3
  replace fl := Nat.lt_of_lt_of_le fl b.size
  replace y1 := (b.cell (p := ⟨w4.heap.size, 0, none⟩) yl).trans y1
  replace y2 := (b.cell (p := ⟨w4.heap.size, 1, none⟩) yl).trans y2
  replace y3 := (b.cell (p := ⟨w4.heap.size, 2, none⟩) yl).trans y3
  replace yl := Nat.lt_of_lt_of_le yl b.size
  replace MG := Lib.hid (MG.out.below b)
  replace MF := Lib.hid (MF.out.below b)
  replace K := Lib.hid (K.out.below b)
  replace Gh := Lib.hid (Gh.out.below b)
  replace OW := Lib.hid (ownsRow_below OW.out b)
  replace OV := Lib.hid (ownsRow_below OV.out b)
  replace HB := Lib.hid (HB.out.trans (b.mono HB.out.size))
  clear b
  have hjj : jH = jG := by have h1 := OE.out.1; have h2 := OV.out.1; rw [GivesI.ints_len] at h1 h2; omega
  subst hjj
  have hkk : kH = kG := by have h1 := OH.out.1; have h2 := OW.out.1; rw [GivesI.ints_len] at h1 h2; omega
  subst hkk
  go_wp2_with fail
  refine (GivesI.eq_same pH pW kH dH dW A hkH _ (GivesI.holds_own OH.out) (GivesI.holds_own OW.out)).mono ?_
  rintro e w17a ⟨rfl, b⟩
  replace f1 := (b.cell (p := ⟨w.heap.size, 0, none⟩) fl).trans f1
  replace f2 := (b.cell (p := ⟨w.heap.size, 1, none⟩) fl).trans f2
  replace f3 := (b.cell (p := ⟨w.heap.size, 2, none⟩) fl).trans f3
  replace fl := Nat.lt_of_lt_of_le fl b.size
  replace y1 := (b.cell (p := ⟨w4.heap.size, 0, none⟩) yl).trans y1
  replace y2 := (b.cell (p := ⟨w4.heap.size, 1, none⟩) yl).trans y2
  replace y3 := (b.cell (p := ⟨w4.heap.size, 2, none⟩) yl).trans y3
  replace yl := Nat.lt_of_lt_of_le yl b.size
  replace MG := Lib.hid (MG.out.below b)
  replace MF := Lib.hid (MF.out.below b)
  replace K := Lib.hid (K.out.below b)
  replace Gh := Lib.hid (Gh.out.below b)
  replace OW := Lib.hid (ownsRow_below OW.out b)
  replace OV := Lib.hid (ownsRow_below OV.out b)
  replace OH := Lib.hid (ownsRow_below OH.out b)
  replace OE := Lib.hid (ownsRow_below OE.out b)
  replace HB := Lib.hid (HB.out.trans (b.mono HB.out.size))
  clear b
  go_wp2_with fail
  refine (GivesI.eq_same qH qW jH tH tW B hjH _ (GivesI.holds_own OE.out) (GivesI.holds_own OV.out)).mono ?_
  rintro e w17 ⟨rfl, b⟩
  replace f1 := (b.cell (p := ⟨w.heap.size, 0, none⟩) fl).trans f1
  replace f2 := (b.cell (p := ⟨w.heap.size, 1, none⟩) fl).trans f2
  replace f3 := (b.cell (p := ⟨w.heap.size, 2, none⟩) fl).trans f3
  replace fl := Nat.lt_of_lt_of_le fl b.size
  replace y1 := (b.cell (p := ⟨w4.heap.size, 0, none⟩) yl).trans y1
  replace y2 := (b.cell (p := ⟨w4.heap.size, 1, none⟩) yl).trans y2
  replace y3 := (b.cell (p := ⟨w4.heap.size, 2, none⟩) yl).trans y3
  replace yl := Nat.lt_of_lt_of_le yl b.size
  replace MG := Lib.hid (MG.out.below b)
  replace MF := Lib.hid (MF.out.below b)
  replace K := Lib.hid (K.out.below b)
  replace Gh := Lib.hid (Gh.out.below b)
  replace OW := Lib.hid (ownsRow_below OW.out b)
  replace OV := Lib.hid (ownsRow_below OV.out b)
  replace OH := Lib.hid (ownsRow_below OH.out b)
  replace OE := Lib.hid (ownsRow_below OE.out b)
  replace HB := Lib.hid (HB.out.trans (b.mono HB.out.size))
  clear b
  go_wp2_with fail
  refine (GivesI.held_any pG kH dG 1 (by omega) (by omega) hkH _ MG.out).mono ?_
  rintro e w18 ⟨rfl, hww⟩
  subst hww
  go_wp2_with fail
  refine (GivesI.held_any qG jH tG (1 + (kH : Int)) (by omega) (by omega) hjH _ MF.out).mono ?_
  rintro e w18b ⟨rfl, hww⟩
  subst hww
  go_wp2_with fail
  go_ret
  exact ⟨rfl, HB.out⟩
end Go.Proofs.Ytfbgekhkbbhggaa.WDateBounds

namespace Go.Proofs.Ytfbgekhkbbhggaa.FDateBounds
open Go.ChangeShapes Go.WideShapes Go.ChangeAt Go.RowKit
open Pairs Rec RecOpen LawKit
set_option linter.unusedVariables false

theorem field_int {H : Type} {enc : TypeId × Value → H} {w : World} {base : Nat} {spare : Nat → Bool} {held : Bool} {t : TypeId} {fuel : Nat} {v : Value} {x : DataW H × List MemPlace} (t0 : Try.prog.underlying t = some (.int .i64)) (h : DataW.trod enc Try.prog w base spare held fuel t [v] = some x) : ∃ y : Int, v = .int .i64 y := by
  obtain ⟨p, hp, _⟩ := DataW.trod_int t0 h
  simp only [List.cons.injEq, and_true] at hp
  exact ⟨p, hp⟩
theorem wf_rg {n : Int} (h : (Lit.int .i64 n).wf = true) : -9223372036854775808 ≤ n ∧ n ≤ 9223372036854775807 := by
  unfold Lit.wf at h
  rw [Bool.and_eq_true, decide_eq_true_iff, decide_eq_true_iff] at h
  exact h
set_option maxRecDepth 100000 in
theorem lifted (hw : ∀ (a1 a2 a3 : Option Addr) (n1 c1 n2 c2 n3 c3 : Nat) (l1 l2 : List (Int × Int)) (Z : List Zh.Pt) (w : World), n1 ≤ 9223372036854775807 → n2 ≤ 9223372036854775807 → n3 ≤ 9223372036854775807 → Holds w a1 n1 l1 → Holds w a2 n2 l2 → Zh.HoldsZ w a3 n3 Z → Zh.Sm Z 9223372036854775807 → Calls Try.prog 7 #[.agg #[.slice a1 n1 c1, .slice a2 n2 c2, .slice a3 n3 c3]] w fun e w' => e = .returned (.bool true) ∧ Below w.heap.size w w') (os : Os) (started : os.Started) (H : Type) (enc : TypeId × Value → H) :
    ReturnsInHanded {} Try.checked os 7 .any (Rows.fnExactDateBoundsSpec.pre6 enc Try.prog Try.f7 Rows.fnExactDateBoundsRow.domain false) (Rows.fnExactDateBoundsSpec.post enc Try.prog Try.f7 false true false false) := by
  refine returnsInHanded_of_change (C := Try.checked) own started (by kernel_rfl) Try.func7
    (ChangeSpec.witness6 (enc := enc) (C := Try.checked) false ⟨#[], #[.agg #[.slice none 0 0, .slice none 0 0, .slice none 0 0]], []⟩ 8 (by kernel_rfl) (by kernel_rfl) (by kernel_rfl) (by kernel_rfl)) ?_
  intro W base args ds gs before hval0 hW hcnd _
  have hval : ∀ (j : Nat) t v, Try.f7.params[j]? = some t → args[j]? = some v → Value.okWide Try.prog W .any base t v := hval0
  have hW' := hW
  obtain ⟨p, q, hA0, hV, rfl, hfz, hnd⟩ := hW
  have hA : DataW.TrodAll enc Try.prog W 0 (fun _ => true) true Try.f7.params.toList args.toList ds p := hA0
  rw [Try.params7] at hA hval
  obtain ⟨v0, vs0, d0, ds0, p0, q0, hargs, rfl, rfl, h0, r0⟩ := trodAll_cons hA
  obtain ⟨rfl, rfl, rfl⟩ := trodAll_nil r0
  obtain rfl : args = #[v0] := by cases args; simp_all
  obtain ⟨rfl, rfl⟩ := trodVars_none hV
  have k0 := h0
  have lt0 : ∀ x ∈ p0, x.block < W.heap.size := by obtain ⟨m, hm⟩ := k0; exact DataW.trod_lt m _ _ _ hm
  obtain ⟨u0, u1, u2, y0, y1, y2, m0, m1, m2, rfl, hu0, hu1, hu2⟩ := Dr.open_dr Try.underlying28 (by kernel_rfl) Try.underlying25 rfl rfl (by kernel_rfl) (by kernel_rfl) rfl rfl (by kernel_rfl) (by kernel_rfl) (hval 0 28 v0 rfl rfl) h0
  obtain ⟨a1, n1, c1, l1, rfl, z1, H1⟩ := open_pairs Try.underlying22 Try.underlying135 (by kernel_rfl) rfl rfl (by kernel_rfl) (by kernel_rfl) Try.underlying3 Try.underlying3 hu0
  obtain ⟨a2, n2, c2, l2, rfl, z2, H2⟩ := open_pairs Try.underlying23 Try.underlying137 (by kernel_rfl) rfl rfl (by kernel_rfl) (by kernel_rfl) Try.underlying3 Try.underlying3 hu1
  obtain ⟨a3, n3, c3, Z, rfl, z3, H3, H4⟩ := Zh.open_dists Try.underlying26 Try.underlying66 (by kernel_rfl) rfl rfl (by kernel_rfl) (by kernel_rfl) Try.underlying3 Try.underlying41 Try.underlying3 (by kernel_rfl) hu2
  clear hA0 hval0
  refine (hw a1 a2 a3 n1 c1 n2 c2 n3 c3 l1 l2 Z W z1 z2 z3 H1 H2 H3 H4).mono fun e W' ⟨he, bel⟩ => ?_
  subst he
  exact ⟨_, rfl, _, _, _, [], _, [], hW', trodAll_mk1 (shut_bool Try.underlying4 _), (trodAll_cons_mk (Below.trod LawKit.laidOut (by kernel_rfl) (of_decide_eq_true (by kernel_rfl)) k0 bel lt0) trodAll_mk0), rfl, bel.frame _, fun h => by cases h⟩

theorem over (hw : ∀ (a1 a2 a3 : Option Addr) (n1 c1 n2 c2 n3 c3 : Nat) (l1 l2 : List (Int × Int)) (Z : List Zh.Pt) (w : World), n1 ≤ 9223372036854775807 → n2 ≤ 9223372036854775807 → n3 ≤ 9223372036854775807 → Holds w a1 n1 l1 → Holds w a2 n2 l2 → Zh.HoldsZ w a3 n3 Z → Zh.Sm Z 9223372036854775807 → Calls Try.prog 7 #[.agg #[.slice a1 n1 c1, .slice a2 n2 c2, .slice a3 n3 c3]] w fun e w' => e = .returned (.bool true) ∧ Below w.heap.size w w') : Rows.fnExactDateBoundsRow.holds Try.pinned (OpenSpec.ofChange Rows.fnExactDateBoundsSpec) :=
  OpenClaim.holds_of_wide 7 Try.f7 rfl rfl rfl rfl rfl rfl rfl ⟨rfl, rfl, rfl, rfl, rfl⟩ rfl rfl rfl rfl rfl (by kernel_rfl) Try.func7 (by kernel_rfl)
    (of_decide_eq_true (by kernel_rfl)) (by unfold Func.isWrapper; first | (rw [if_pos (by decide +kernel)]; kernel_rfl) | (rw [if_neg (by decide +kernel)]; exact ⟨rfl, rfl⟩))
    (fun os started H enc _ => lifted hw os started H enc)
end Go.Proofs.Ytfbgekhkbbhggaa.FDateBounds

namespace Go.Proofs.Ytfbgekhkbbhggaa
theorem fnExactDateBounds_proved : Rows.FnExactDateBoundsSaid := FDateBounds.over (WDateBounds.walk BdN.bdP (fun a1 a2 a3 n1 n2 n3 l m Z w h => BdI.impl_any a1 a2 a3 n1 n1 n2 n2 n3 n3 l m Z w h) (fun a1 a2 a3 n1 n2 n3 l m Z w h => BdS.spec_any a1 a2 a3 n1 n1 n2 n2 n3 n3 l m Z w h))
#print axioms fnExactDateBounds_proved
end Go.Proofs.Ytfbgekhkbbhggaa

