/- The model's l12Respects, l12Weight. -/
import Derived.Test.YtfbgekhkbbhggaaChE
import Derived.Test.YtfbgekhkbbhggaaDr
import Derived.Test.YtfbgekhkbbhggaaWaS
import Derived.Test.YtfbgekhkbbhggaaGood2
namespace Go.Proofs.Ytfbgekhkbbhggaa.WtS
open Go Go.RowKit Pairs Rec Keep GivesI Zh Dr DvM ChM ChE Find2 GoodM AtM
set_option linter.unusedVariables false
theorem resp_next {l m : List (Int × Int)} {r : Nat} {x : Int × Int} (h : m[r]? = some x) (ys : List Int) : resp l (m.take (r + 1)) ys = (resp l (m.take r) ys && decide (ys.getD (pos l x.2) 0 ≤ ys.getD (pos l x.1) 0)) := by
  unfold resp
  rw [List.take_add_one, h, List.all_append]
  simp
theorem resp_bad {l m : List (Int × Int)} {x : Int × Int} (h : x ∈ m) {ys : List Int} (hb : ys.getD (pos l x.1) 0 < ys.getD (pos l x.2) 0) : resp l m ys = false := by
  unfold resp
  rw [Bool.eq_false_iff, ne_eq, List.all_eq_true]
  intro hh
  have := of_decide_eq_true (hh x h)
  omega
set_option maxRecDepth 100000 in
set_option maxHeartbeats 8000000 in
theorem respects_any (a1 a2 : Option Addr) (n1 c1 n2 c2 : Nat) (l m : List (Int × Int)) (p : Option Addr) (k c : Nat) (ys : List Int) (w : World) (s1 : n1 ≤ 1048576) (s2 : n2 ≤ 1048576) (h1 : Holds w a1 n1 l) (h2 : Holds w a2 n2 m) (hy : HoldsI w p k ys) (hg : good l m = true) (hk : k = n1) :
    Calls Try.prog 106 #[.agg #[.slice a1 n1 c1, .slice a2 n2 c2], .slice p k c] w fun e w' => e = .returned (.bool (resp l m ys)) ∧ Below w.heap.size w w' := by
  have hb := below_alloc w (.cells #[.slice a1 n1 c1, .slice a2 n2 c2] 34)
  have f1 := box_first w (.slice a1 n1 c1) (.slice a2 n2 c2) 34
  have f2 := box_second w (.slice a1 n1 c1) (.slice a2 n2 c2) 34
  have hlt : w.heap.size < (w.alloc (.cells #[.slice a1 n1 c1, .slice a2 n2 c2] 34)).heap.size := by simp
  have H1 := Lib.hid (h1.below hb)
  have H2 := Lib.hid (h2.below hb)
  have HY := Lib.hid (hy.below hb)
  have HB := Lib.hid hb
  have HG := Lib.hid (GoodE.good_is hg)
  have hl1 := Lib.hid h1.1
  have hl2 := Lib.hid h2.1
  clear h1 h2 hy hb hg
  go_enter Try.func106, Try.ntmps106
  go_wp2_with fail
  generalize w.alloc (.cells #[.slice a1 n1 c1, .slice a2 n2 c2] 34) = W at *
  go_loopw [5] (fun s5 wr => ∃ (r : Nat), r ≤ n2 ∧ s5 = .int .i64 r ∧ Hid (resp l (m.take r) ys = true) ∧ Hid (Below w.heap.size w wr ∧ Below W.heap.size W wr)) (fun s5 _ => n2 - (intOf s5).toNat)
  case atStart => exact ⟨0, Nat.zero_le _, rfl, rfl, HB.out, Below.refl _ _⟩
  case round =>
    obtain ⟨r, hr, rfl, HP, HR⟩ := hrel
    have g1 := (HR.out.2.cell (p := ⟨w.heap.size, 0, none⟩) hlt).trans f1
    have g2 := (HR.out.2.cell (p := ⟨w.heap.size, 1, none⟩) hlt).trans f2
    by_cases hrn : r < n2
    · have hrr : (r : Int) < (n2 : Int) := by omega
      have hr0 : (0 : Int) ≤ (r : Int) := by omega
      obtain ⟨b2, o2, x, y, rfl, hm, e4, e5⟩ := (H2.out.below HR.out.2).at r hrn
      obtain ⟨hne, ⟨u1, hu1⟩, v1, hv1⟩ := HG.out.rel (x, y) (List.mem_of_getElem? hm)
      obtain ⟨i, hi⟩ := GoodE.isAt_of_mem hu1
      obtain ⟨j, hj⟩ := GoodE.isAt_of_mem hv1
      have hil := (isAt_nb hi).1
      have hjl := (isAt_nb hj).1
      rw [hl1.out] at hil hjl
      have hfi := find_some hi
      have hfj := find_some hj
      have hpi : pos l x = i := by unfold pos; rw [hfi]; simp
      have hpj : pos l y = j := by unfold pos; rw [hfj]; simp
      have HN := Lib.hid (resp_next (l := l) hm ys)
      have HBAD := Lib.hid (fun h => resp_bad (l := l) (List.mem_of_getElem? hm) (ys := ys) h)
      simp only [hpi, hpj] at HN HBAD
      have hba := below_alloc wr (.cells #[.int .i64 x, .int .i64 y] 125)
      have t0 := box_first wr (.int .i64 x) (.int .i64 y) 125
      have t1 := box_second wr (.int .i64 x) (.int .i64 y) 125
      have q1 := (hba.cell (p := ⟨w.heap.size, 0, none⟩) (World.block_lt_of_cell? wr _ g1)).trans g1
      have q2 := (hba.cell (p := ⟨w.heap.size, 1, none⟩) (World.block_lt_of_cell? wr _ g2)).trans g2
      have HR3 := Lib.hid (And.intro (HR.out.1.trans (hba.mono HR.out.1.size)) (HR.out.2.trans (hba.mono HR.out.2.size)))
      obtain ⟨by_, oy, u, rfl, hu, e1⟩ := (HY.out.below HR3.out.2).at i (by omega)
      obtain ⟨by', oy', v, hbb, hv, e2⟩ := (HY.out.below HR3.out.2).at j (by omega)
      injection hbb with hbb
      injection hbb with hbb hoo
      subst hbb hoo
      have gu : ys.getD i 0 = u := by rw [List.getD_eq_getElem?_getD, hu]; rfl
      have gv : ys.getD j 0 = v := by rw [List.getD_eq_getElem?_getD, hv]; rfl
      simp only [gu, gv] at HN HBAD
      have hik : i < k := by omega
      have hjk : j < k := by omega
      clear hm hne hu1 hv1 hu hv gu gv hi hj hba hpi hpj u1 v1
      go_wp2_with fail
      generalize wr.alloc (.cells #[.int .i64 x, .int .i64 y] 125) = V at *
      have cX : ∀ d os, Calls Try.prog 66 #[.agg #[.slice a1 n1 c1, .slice (some ⟨b2, o2, none⟩) n2 c2], .int .i64 x] (Sort.grow (redrawn V d) os) fun e w'' => e = .returned (.int .i64 (i : Int)) ∧ ∃ p : Regrown, w'' = Sort.grow (redrawn V p.d) p.os := fun d os => by
        have := Calls.regrown_of (l2Find_any a1 (some ⟨b2, o2, none⟩) n1 c1 n2 c2 l x _ (by omega) ((H1.out.below HR3.out.2).below (below_regrown V d os)))
        rwa [hfi] at this
      have cY : ∀ d os, Calls Try.prog 66 #[.agg #[.slice a1 n1 c1, .slice (some ⟨b2, o2, none⟩) n2 c2], .int .i64 y] (Sort.grow (redrawn V d) os) fun e w'' => e = .returned (.int .i64 (j : Int)) ∧ ∃ p : Regrown, w'' = Sort.grow (redrawn V p.d) p.os := fun d os => by
        have := Calls.regrown_of (l2Find_any a1 (some ⟨b2, o2, none⟩) n1 c1 n2 c2 l y _ (by omega) ((H1.out.below HR3.out.2).below (below_regrown V d os)))
        rwa [hfj] at this
      have k1 := cell_regrown q1
      have k2 := cell_regrown q2
      have k3 := cell_regrown t0
      have k4 := cell_regrown t1
      have k5 := cell_regrown e1
      have k6 := cell_regrown e2
      have hik' : (i : Int) < (k : Int) := by omega
      have hjk' : (j : Int) < (k : Int) := by omega
      have hi0 : (0 : Int) ≤ (i : Int) := by omega
      have hj0 : (0 : Int) ≤ (j : Int) := by omega
      refine wp_region_quiet_below (by kernel_rfl) (by kernel_rfl) ?_
      repeat (go_big_quiet_step ((go_at_call 66; (first | with_reducible exact cX _ _ | with_reducible exact cY _ _))))
      refine wpQuiet_nil ?_
      intro _ hw'
      obtain ⟨⟨dq, osq⟩, hw''⟩ := hw'
      subst hw''
      have HBQ := Lib.hid (below_regrown V dq osq)
      clear k1 k2 k3 k4 k5 k6 cX cY t0 t1 q1 q2 e1 e2 hfi hfj
      generalize Sort.grow (redrawn V dq) osq = W5 at *
      have HR5 := Lib.hid (And.intro (HR3.out.1.trans (HBQ.out.mono HR3.out.1.size)) (HR3.out.2.trans (HBQ.out.mono HR3.out.2.size)))
      by_cases hlt2 : u < v
      · have HF := Lib.hid (HBAD.out hlt2)
        go_wp2_with fail
        go_ret
        exact ⟨by rw [HF.out]; rfl, HR5.out.1⟩
      · have HP2 : Hid (resp l (m.take (r + 1)) ys = true) := by
          unfold Hid
          rw [HN.out, HP.out]
          simp
          omega
        go_wp2_with fail
        go_roundw
        case rel =>
          first | exact ⟨r + 1, by omega, by go_num, HP2, HR5⟩ | exact ⟨r + 1, by omega, by omega, HP2⟩
        case measure => simp [intOf]; omega
    · obtain rfl : r = n2 := by omega
      have ht : m.take r = m := List.take_of_length_le (by rw [hl2.out]; exact Nat.le_refl _)
      have HF := Lib.hid (show resp l m ys = true by have := HP.out; rwa [ht] at this)
      have hrr : ¬ (r : Int) < (r : Int) := by omega
      go_wp2_with fail
      go_ret
      exact ⟨by rw [HF.out]; rfl, HR.out.1⟩
theorem l10At_wide (f : Int) (p : Option Addr) (n c : Nat) (M : List Int) (y : Int) (w : World) (hn : n ≤ 1048576) (hf : -1000000 ≤ f ∧ f ≤ 1000000) (h : HoldsI w p n M) :
    Calls Try.prog 87 #[.agg #[.int .i64 f, .slice p n c], .int .i64 y] w fun e w' => e = .returned (.int .i64 (wat f M y)) ∧ Below w.heap.size w w' := by
  by_cases hy : -1000000000 ≤ y ∧ y ≤ 1000000000
  · exact WaS.l10At_any f p n c M y w hn (by omega) hy h
  have hb := below_alloc w (.cells #[.int .i64 f, .slice p n c] 50)
  have f1 := box_first w (.int .i64 f) (.slice p n c) 50
  have f2 := box_second w (.int .i64 f) (.slice p n c) 50
  have hl := h.1
  have HO := Lib.hid (AtM.wat_out (f := f) (M := M) (y := y) (by rw [hl]; omega))
  clear h hl
  go_enter Try.func87, Try.ntmps87
  go_wp2_with fail
  refine (Good2.l1In_false y f (f + n - 1) (by omega) _).mono ?_
  rintro e w1 ⟨rfl, rfl⟩
  go_wp2_with fail
  go_ret
  exact ⟨by rw [HO.out]; rfl, hb⟩
end Go.Proofs.Ytfbgekhkbbhggaa.WtS
