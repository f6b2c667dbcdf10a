/- The model's l2Good: whether a record is valid. -/
import Derived.Test.YtfbgekhkbbhggaaGoodM
import Derived.Deep.QuietTactic
import Derived.BigQuiet
import Derived.Deep.RegionWith
import Derived.Lib.QuietBelow
namespace Go.Proofs.Ytfbgekhkbbhggaa.Good2
open Go.RowKit Pairs Find2 GoodM
theorem l1In_true (x a b : Int) (h1 : a ≤ x) (h2 : x ≤ b) (w : World) : Calls Try.prog 76 #[.int .i64 x, .int .i64 a, .int .i64 b] w fun e w' => e = .returned (.bool true) ∧ w' = w := by
  go_enter Try.func76, Try.ntmps76
  go_wp2
  go_ret
  exact ⟨rfl, rfl⟩
theorem l1In_false (x a b : Int) (h : ¬ (a ≤ x ∧ x ≤ b)) (w : World) : Calls Try.prog 76 #[.int .i64 x, .int .i64 a, .int .i64 b] w fun e w' => e = .returned (.bool false) ∧ w' = w := by
  go_enter Try.func76, Try.ntmps76
  by_cases h1 : a ≤ x
  · have h2 : ¬ x ≤ b := fun h2 => h ⟨h1, h2⟩
    clear h
    go_wp2
    go_ret
    exact ⟨rfl, rfl⟩
  · clear h
    go_wp2
    go_ret
    exact ⟨rfl, rfl⟩
theorem below2 (w : World) (o1 o2 : Obj) : Below w.heap.size w ((w.alloc o1).alloc o2) := ((Below.refl _ _).alloc (Nat.le_refl _) o1).alloc (by simp) o2
theorem l2Before_any (a b c d : Int) (w : World) : Calls Try.prog 121 #[.agg #[.int .i64 a, .int .i64 b], .agg #[.int .i64 c, .int .i64 d]] w fun e w' => e = .returned (.bool (before (a, b) (c, d))) ∧ Below w.heap.size w w' := by
  go_enter Try.func121, Try.ntmps121
  unfold before
  by_cases h1 : a < c
  · rw [decide_eq_true (.inl h1)]
    go_wp2
    go_ret
    exact ⟨rfl, below2 _ _ _⟩
  · by_cases h2 : a = c
    · subst h2
      by_cases h3 : b < d
      · rw [decide_eq_true (.inr ⟨rfl, h3⟩)]
        go_wp2
        go_ret
        exact ⟨rfl, below2 _ _ _⟩
      · rw [decide_eq_false (by rintro (h | ⟨-, h⟩) <;> omega)]
        go_wp2
        go_ret
        exact ⟨rfl, below2 _ _ _⟩
    · rw [decide_eq_false (by rintro (h | ⟨h, -⟩) <;> omega)]
      go_wp2
      go_ret
      exact ⟨rfl, below2 _ _ _⟩
set_option maxHeartbeats 40000000 in
theorem l2Good_any (a1 a2 : Option Addr) (n1 c1 n2 c2 : Nat) (l m : List (Int × Int)) (w : World) (h1 : Holds w a1 n1 l) (h2 : Holds w a2 n2 m) :
    Calls Try.prog 96 #[.agg #[.slice a1 n1 c1, .slice a2 n2 c2]] w fun e w' => e = .returned (.bool (good l m)) ∧ Below w.heap.size w w' := by
  have hb := below_alloc w (.cells #[.slice a1 n1 c1, .slice a2 n2 c2] 34)
  have hf := box_first w (.slice a1 n1 c1) (.slice a2 n2 c2) 34
  have hf2 := box_second w (.slice a1 n1 c1) (.slice a2 n2 c2) 34
  have H1 := Lib.hid (h1.below hb)
  have H2 := Lib.hid (h2.below hb)
  have hsz : w.heap.size < (w.alloc (.cells #[.slice a1 n1 c1, .slice a2 n2 c2] 34)).heap.size := by simp
  clear h1 h2
  go_enter Try.func96, Try.ntmps96
  by_cases hl : n1 ≤ 10 ∧ n2 ≤ 24
  · have hl1 : ¬ (10 : Int) < (n1 : Int) := by omega
    have hl2 : ¬ (24 : Int) < (n2 : Int) := by omega
    go_wp2_with fail
    generalize w.alloc (.cells #[.slice a1 n1 c1, .slice a2 n2 c2] 34) = W at *
    go_loopw [3] (fun i wr => ∃ k : Nat, k ≤ n1 ∧ i = .int .i64 k ∧ Below W.heap.size W wr ∧ Hid (Past l k)) (fun i _ => n1 - (intOf i).toNat)
    case atStart => exact ⟨0, Nat.zero_le _, rfl, Below.refl _ _, fun j hj => absurd hj (by omega)⟩
    case round =>
      obtain ⟨k, hk, rfl, hbr, HM⟩ := hrel
      have hfr := (hbr.cell (p := ⟨w.heap.size, 0, none⟩) hsz).trans hf
      have hfr2 := (hbr.cell (p := ⟨w.heap.size, 1, none⟩) hsz).trans hf2
      by_cases hlt : k < n1
      · obtain ⟨b, off, x, y, rfl, hx, e1, e2⟩ := (H1.out.below hbr).at k hlt
        have HX := Lib.hid hx
        have hkl : k < l.length := by rw [H1.out.1]; exact hlt
        clear hx
        have hi : (k : Int) < (n1 : Int) := by omega
        have hb7 := below_alloc wr (.cells #[.int .i64 x, .int .i64 y] 123)
        have u1 := box_first wr (.int .i64 x) (.int .i64 y) 123
        have u2' := box_second wr (.int .i64 x) (.int .i64 y) 123
        have hlw : w.heap.size < wr.heap.size := Nat.lt_of_lt_of_le hsz hbr.size
        have hf7 := (hb7.cell (p := ⟨w.heap.size, 0, none⟩) hlw).trans hfr
        have hh7 := (H1.out.below hbr).below hb7
        have HH7 := Lib.hid hh7
        have hbb := hbr.trans (hb7.mono hbr.size)
        have HBB := Lib.hid (hb.trans (hbb.mono hb.size))
        clear hh7
        go_wp2_with fail
        generalize wr.alloc (.cells #[.int .i64 x, .int .i64 y] 123) = W7 at *
        clear hfr hfr2 e1 e2 hf hf2 hb hb7 hlw
        by_cases hX : 1 ≤ x ∧ x ≤ 999
        · by_cases hY : 1 ≤ y ∧ y ≤ 4
          · cases k with
            | zero =>
              have hg := HM.out.next (okC_first HX.out hX hY)
              have HG := Lib.hid hg
              clear hg
              go_quiet (first | (go_at_call_of 76 x; exact Calls.quiet_of_same (l1In_true x 1 999 hX.1 hX.2 _)) | (go_at_call_of 76 y; exact Calls.quiet_of_same (l1In_true y 1 4 hY.1 hY.2 _)))
              go_wp2_with fail
              exact ⟨⟨1, by omega, by go_num, hbb.trans (Joins.below_draws _ _ _), HG⟩, by simp [intOf]; omega⟩
            | succ j =>
              obtain ⟨b', off', p, q, he, hp, p1, p2⟩ := HH7.out.at j (by omega)
              obtain ⟨rfl, rfl⟩ : b' = b ∧ off' = off := by
                injection he with he
                injection he with h1 h2 h3
                exact ⟨h1.symm, h2.symm⟩
              have HP := Lib.hid hp
              clear hp he
              have hw1 : IntKind.i64.wrap (((j + 1 : Nat) : Int) - 1) = (j : Int) := by rw [IntKind.wrap_i64]; omega
              by_cases hlt3 : p < x
              · have hg := HM.out.next (okC_next HX.out HP.out hX hY hlt3)
                have HG := Lib.hid hg
                clear hg
                go_quiet (first | (go_at_call_of 76 x; exact Calls.quiet_of_same (l1In_true x 1 999 hX.1 hX.2 _)) | (go_at_call_of 76 y; exact Calls.quiet_of_same (l1In_true y 1 4 hY.1 hY.2 _)))
                go_wp2_with fail
                exact ⟨⟨j + 1 + 1, by omega, by go_num, hbb.trans (Joins.below_draws _ _ _), HG⟩, by simp [intOf]; omega⟩
              · have hg := good_badC (m := m) hkl (okC_bad3 HX.out HP.out hlt3)
                have HG := Lib.hid hg
                clear hg
                go_quiet (first | (go_at_call_of 76 x; exact Calls.quiet_of_same (l1In_true x 1 999 hX.1 hX.2 _)) | (go_at_call_of 76 y; exact Calls.quiet_of_same (l1In_true y 1 4 hY.1 hY.2 _)))
                go_wp2_with fail
                go_ret
                exact ⟨by rw [HG.out]; rfl, HBB.out.trans (Joins.below_draws _ _ _)⟩
          · have hg := good_badC (m := m) hkl (okC_bad2 HX.out hY)
            have HG := Lib.hid hg
            clear hg
            go_quiet (first | (go_at_call_of 76 x; exact Calls.quiet_of_same (l1In_true x 1 999 hX.1 hX.2 _)) | (go_at_call_of 76 y; exact Calls.quiet_of_same (l1In_false y 1 4 hY _)))
            go_wp2_with fail
            go_ret
            exact ⟨by rw [HG.out]; rfl, HBB.out.trans (Joins.below_draws _ _ _)⟩
        · have hg := good_badC (m := m) hkl (okC_bad1 HX.out hX)
          have HG := Lib.hid hg
          clear hg
          go_quiet ((go_at_call 76; exact Calls.quiet_of_same (l1In_false x 1 999 hX _)))
          go_wp2_with fail
          go_ret
          exact ⟨by rw [HG.out]; rfl, HBB.out.trans (Joins.below_draws _ _ _)⟩
      · obtain rfl : k = n1 := by omega
        have hi : ¬ (k : Int) < (k : Int) := by omega
        have HBB := Lib.hid (hb.trans (hbr.mono hb.size))
        go_wp2_with fail
        generalize hlk : k = n1 at *
        go_loopw [5] (fun i wq => ∃ j : Nat, j ≤ n2 ∧ i = .int .i64 j ∧ Below W.heap.size W wq ∧ Hid (PastR l m j)) (fun i _ => n2 - (intOf i).toNat)
        case atStart => exact ⟨0, Nat.zero_le _, rfl, hbr, fun j hj => absurd hj (by omega)⟩
        case round =>
          obtain ⟨j, hj, rfl, hbq, HN⟩ := hrel
          have g1 := (hbq.cell (p := ⟨w.heap.size, 0, none⟩) hsz).trans hf
          have g2 := (hbq.cell (p := ⟨w.heap.size, 1, none⟩) hsz).trans hf2
          by_cases hjt : j < n2
          · obtain ⟨b, off, u, v, rfl, hx, e1, e2⟩ := (H2.out.below hbq).at j hjt
            have HX := Lib.hid hx
            have hjl : j < m.length := by rw [H2.out.1]; exact hjt
            have hji : (j : Int) < (n2 : Int) := by omega
            have hb7 := below_alloc wr (.cells #[.int .i64 u, .int .i64 v] 125)
            have u1 := box_first wr (.int .i64 u) (.int .i64 v) 125
            have u2' := box_second wr (.int .i64 u) (.int .i64 v) 125
            have hlw : w.heap.size < wr.heap.size := Nat.lt_of_lt_of_le hsz hbq.size
            have q1 := (hb7.cell (p := ⟨w.heap.size, 0, none⟩) hlw).trans g1
            have q2 := (hb7.cell (p := ⟨w.heap.size, 1, none⟩) hlw).trans g2
            have HL8 := Lib.hid ((H1.out.below hbq).below hb7)
            have HM8 := Lib.hid ((H2.out.below hbq).below hb7)
            have hb8 := hbq.trans (hb7.mono hbq.size)
            have HB8 := Lib.hid (hb.trans (hb8.mono hb.size))
            clear hx
            go_wp2_with fail
            generalize wr.alloc (.cells #[.int .i64 u, .int .i64 v] 125) = W8 at *
            clear e1 e2 g1 g2 hf hf2 hb hbr hb7 hbq hlw hfr hfr2
            have k1 := cell_regrown u1
            have k2 := cell_regrown u2'
            have k3 := cell_regrown q1
            have k4 := cell_regrown q2
            clear u1 u2' q1 q2
            by_cases huv : u = v
            · subst huv
              have hg := good_badR (l := l) hjl (okR_bad1 HX.out)
              have HG := Lib.hid hg
              clear hg
              refine wp_region_quiet_below (by kernel_rfl) (by kernel_rfl) ?_
              repeat (go_big_quiet_step (first | (fail)))
              refine wpQuiet_nil ?_
              intro _ hw'
              obtain ⟨⟨dq, osq⟩, hw''⟩ := hw'
              subst hw''
              go_wp2_with fail
              go_ret
              exact ⟨by rw [HG.out]; rfl, HB8.out.trans ((below_regrown W8 dq osq).mono HB8.out.size)⟩
            · have hq1 : (u == v) = false := by simpa using huv
              have hq2 : decide (u = v) = false := decide_eq_false huv
              cases hau : isAt l u with
              | none =>
                have hg := good_badR hjl (okR_bad2 HX.out hau)
                have cU : ∀ d os, Calls Try.prog 66 #[.agg #[.slice a1 n1 c1, .slice (some ⟨b, off, none⟩) n2 c2], .int .i64 u] (Sort.grow (redrawn W8 d) os) fun e w'' => e = .returned (.int .i64 (-1)) ∧ ∃ p : Regrown, w'' = Sort.grow (redrawn W8 p.d) p.os := fun d os => Calls.regrown_of (by rw [← find_none hau]; exact l2Find_any a1 _ n1 c1 n2 c2 l u _ (by omega) (HL8.out.below (below_regrown W8 d os)))
                clear hau
                have HG := Lib.hid hg
                clear hg
                refine wp_region_quiet_below (by kernel_rfl) (by kernel_rfl) ?_
                repeat (go_big_quiet_step (first | (go_at_call_of 66 u; exact cU _ _)))
                refine wpQuiet_nil ?_
                intro _ hw'
                obtain ⟨⟨dq, osq⟩, hw''⟩ := hw'
                subst hw''
                go_wp2_with fail
                go_ret
                exact ⟨by rw [HG.out]; rfl, HB8.out.trans ((below_regrown W8 dq osq).mono HB8.out.size)⟩
              | some iu =>
                have cU : ∀ d os, Calls Try.prog 66 #[.agg #[.slice a1 n1 c1, .slice (some ⟨b, off, none⟩) n2 c2], .int .i64 u] (Sort.grow (redrawn W8 d) os) fun e w'' => e = .returned (.int .i64 (iu : Int)) ∧ ∃ p : Regrown, w'' = Sort.grow (redrawn W8 p.d) p.os := fun d os => Calls.regrown_of (by rw [← find_some hau]; exact l2Find_any a1 _ n1 c1 n2 c2 l u _ (by omega) (HL8.out.below (below_regrown W8 d os)))
                have hu0 : ¬ (iu : Int) < 0 := by omega
                cases hav : isAt l v with
                | none =>
                  have hg := good_badR hjl (okR_bad3 HX.out hav)
                  have cV : ∀ d os, Calls Try.prog 66 #[.agg #[.slice a1 n1 c1, .slice (some ⟨b, off, none⟩) n2 c2], .int .i64 v] (Sort.grow (redrawn W8 d) os) fun e w'' => e = .returned (.int .i64 (-1)) ∧ ∃ p : Regrown, w'' = Sort.grow (redrawn W8 p.d) p.os := fun d os => Calls.regrown_of (by rw [← find_none hav]; exact l2Find_any a1 _ n1 c1 n2 c2 l v _ (by omega) (HL8.out.below (below_regrown W8 d os)))
                  clear hav hau
                  have HG := Lib.hid hg
                  clear hg
                  refine wp_region_quiet_below (by kernel_rfl) (by kernel_rfl) ?_
                  repeat (go_big_quiet_step (first | (go_at_call_of 66 u; exact cU _ _) | (go_at_call_of 66 v; exact cV _ _)))
                  refine wpQuiet_nil ?_
                  intro _ hw'
                  obtain ⟨⟨dq, osq⟩, hw''⟩ := hw'
                  subst hw''
                  go_wp2_with fail
                  go_ret
                  exact ⟨by rw [HG.out]; rfl, HB8.out.trans ((below_regrown W8 dq osq).mono HB8.out.size)⟩
                | some iv =>
                  have cV : ∀ d os, Calls Try.prog 66 #[.agg #[.slice a1 n1 c1, .slice (some ⟨b, off, none⟩) n2 c2], .int .i64 v] (Sort.grow (redrawn W8 d) os) fun e w'' => e = .returned (.int .i64 (iv : Int)) ∧ ∃ p : Regrown, w'' = Sort.grow (redrawn W8 p.d) p.os := fun d os => Calls.regrown_of (by rw [← find_some hav]; exact l2Find_any a1 _ n1 c1 n2 c2 l v _ (by omega) (HL8.out.below (below_regrown W8 d os)))
                  have hv0 : ¬ (iv : Int) < 0 := by omega
                  cases j with
                  | zero =>
                    have hg := HN.out.next (okR_first HX.out huv hau hav)
                    clear hav hau
                    have HG := Lib.hid hg
                    clear hg
                    refine wp_region_quiet_below (by kernel_rfl) (by kernel_rfl) ?_
                    repeat (go_big_quiet_step (first | (go_at_call_of 66 u; exact cU _ _) | (go_at_call_of 66 v; exact cV _ _)))
                    refine wpQuiet_nil ?_
                    intro _ hw'
                    obtain ⟨⟨dq, osq⟩, hw''⟩ := hw'
                    subst hw''
                    go_wp2_with fail
                    exact ⟨⟨1, by omega, by go_num, hb8.trans ((below_regrown W8 dq osq).mono hb8.size), HG⟩, by simp [intOf]; omega⟩
                  | succ j =>
                    obtain ⟨b', off', p, q, he, hp, p1, p2⟩ := HM8.out.at j (by omega)
                    obtain ⟨rfl, rfl⟩ : b' = b ∧ off' = off := by
                      injection he with he
                      injection he with h1 h2 h3
                      exact ⟨h1.symm, h2.symm⟩
                    have hok := okR_prev HX.out hp huv hau hav
                    have r1 := cell_regrown p1
                    have r2 := cell_regrown p2
                    have hw1 : IntKind.i64.wrap (((j + 1 : Nat) : Int) - 1) = (j : Int) := by rw [IntKind.wrap_i64]; omega
                    clear hp he p1 p2 hau hav
                    cases hbf : before (p, q) (u, v) with
                    | true =>
                      have hg := HN.out.next (hok.trans hbf)
                      have cB : ∀ d os, Calls Try.prog 121 #[.agg #[.int .i64 p, .int .i64 q], .agg #[.int .i64 u, .int .i64 v]] (Sort.grow (redrawn W8 d) os) fun e w'' => e = .returned (.bool true) ∧ ∃ p : Regrown, w'' = Sort.grow (redrawn W8 p.d) p.os := fun d os => Calls.regrown_of (by rw [← hbf]; exact l2Before_any p q u v _)
                      clear hok hbf
                      have HG := Lib.hid hg
                      clear hg
                      refine wp_region_quiet_below (by kernel_rfl) (by kernel_rfl) ?_
                      repeat (go_big_quiet_step (first | (go_at_call_of 66 u; exact cU _ _) | (go_at_call_of 66 v; exact cV _ _) | (go_at_call 121; exact cB _ _)))
                      refine wpQuiet_nil ?_
                      intro _ hw'
                      obtain ⟨⟨dq, osq⟩, hw''⟩ := hw'
                      subst hw''
                      go_wp2_with fail
                      exact ⟨⟨j + 1 + 1, by omega, by go_num, hb8.trans ((below_regrown W8 dq osq).mono hb8.size), HG⟩, by simp [intOf]; omega⟩
                    | false =>
                      have hg := good_badR hjl (hok.trans hbf)
                      have cB : ∀ d os, Calls Try.prog 121 #[.agg #[.int .i64 p, .int .i64 q], .agg #[.int .i64 u, .int .i64 v]] (Sort.grow (redrawn W8 d) os) fun e w'' => e = .returned (.bool false) ∧ ∃ p : Regrown, w'' = Sort.grow (redrawn W8 p.d) p.os := fun d os => Calls.regrown_of (by rw [← hbf]; exact l2Before_any p q u v _)
                      clear hok hbf
                      have HG := Lib.hid hg
                      clear hg
                      refine wp_region_quiet_below (by kernel_rfl) (by kernel_rfl) ?_
                      repeat (go_big_quiet_step (first | (go_at_call_of 66 u; exact cU _ _) | (go_at_call_of 66 v; exact cV _ _) | (go_at_call 121; exact cB _ _)))
                      refine wpQuiet_nil ?_
                      intro _ hw'
                      obtain ⟨⟨dq, osq⟩, hw''⟩ := hw'
                      subst hw''
                      go_wp2_with fail
                      go_ret
                      exact ⟨by rw [HG.out]; rfl, HB8.out.trans ((below_regrown W8 dq osq).mono HB8.out.size)⟩
          · obtain rfl : j = n2 := by omega
            have hg : good l m = true := good_true (by rw [H1.out.1]; omega) (by rw [H2.out.1]; omega) (fun i hi => HM.out i (by rw [H1.out.1] at hi; omega)) (fun i hi => HN.out i (by rw [H2.out.1] at hi; exact hi))
            have HG := Lib.hid hg
            clear hg
            have hji : ¬ (j : Int) < (j : Int) := by omega
            have HB9 := Lib.hid (hb.trans (hbq.mono hb.size))
            go_wp2_with fail
            go_ret
            exact ⟨by rw [HG.out]; rfl, HB9.out⟩
  · have hg := good_big (l := l) (m := m) (by rw [H1.out.1, H2.out.1]; exact hl)
    have HG := Lib.hid hg
    clear hg
    by_cases hl1 : (10 : Int) < (n1 : Int)
    · clear hl
      go_wp2_with fail
      go_ret
      exact ⟨by rw [HG.out]; rfl, hb⟩
    · have hl2 : (24 : Int) < (n2 : Int) := by omega
      clear hl
      go_wp2_with fail
      go_ret
      exact ⟨by rw [HG.out]; rfl, hb⟩
end Go.Proofs.Ytfbgekhkbbhggaa.Good2
