/- The program's search among relations in their order. -/
import Derived.Test.YtknlackphdcflaaAvr
namespace Go.Proofs.Ytknlackphdcflaa.SearchR
open Go.RowKit Pairs Find2 GoodM RelM Cmp Search

/-- Relations in their order. -/
def Asc2 (m : List (Int × Int)) : Prop := ∀ (i j : Nat) (x y : Int × Int), i ≤ j → m[i]? = some x → m[j]? = some y → x = y ∨ before x y = true
def isAtR (m : List (Int × Int)) (t : Int × Int) : Bool := decide (m[plR m t]? = some t)
theorem isAtR_eq {m : List (Int × Int)} {t : Int × Int} {i : Nat} (h : plR m t = i) : isAtR m t = decide (m[i]? = some t) := by unfold isAtR; rw [h]
set_option maxRecDepth 100000 in
set_option maxHeartbeats 8000000 in
theorem search_any (a : Option Addr) (n c : Nat) (m : List (Int × Int)) (tu tv : Int) (w : World) (hz : n ≤ 1048576) (h : Holds w a n m) (hA : Asc2 m) :
    Calls Try.prog 54 #[.slice a n c, .agg #[.int .i64 tu, .int .i64 tv], .func (.func 55) #[] #[]] w fun e w' => e = .returned (.tuple #[.int .i64 (plR m (tu, tv) : Nat), .bool (isAtR m (tu, tv))]) ∧ Below w.heap.size w w' := by
  have hb0 := below_alloc w (.cells #[.int .i64 tu, .int .i64 tv] 44)
  have f1 := box_first w (.int .i64 tu) (.int .i64 tv) 44
  have f2 := box_second w (.int .i64 tu) (.int .i64 tv) 44
  have hsz : w.heap.size < (w.alloc (.cells #[.int .i64 tu, .int .i64 tv] 44)).heap.size := by simp
  have HH := Lib.hid (h.below hb0)
  have HA := Lib.hid hA
  clear h hA
  go_enter Try.func54, Try.ntmps54
  go_wp2_with fail
  generalize w.alloc (.cells #[.int .i64 tu, .int .i64 tv] 44) = W at *
  go_loopg [9, 10] n (fun kx s9 s10 wr => ∃ lo hi : Nat, s9 = .int .i64 lo ∧ s10 = .int .i64 hi ∧ lo ≤ hi ∧ hi ≤ n ∧ hi - lo ≤ kx ∧ Below W.heap.size W wr ∧ Hid ((∀ (j : Nat) x, j < lo → m[j]? = some x → before x (tu, tv) = true) ∧ (∀ (j : Nat) x, hi ≤ j → m[j]? = some x → before x (tu, tv) = false)))
  case atStart => exact ⟨0, n, rfl, rfl, Nat.zero_le _, Nat.le_refl _, by omega, Below.refl _ _, ⟨fun j x hj => absurd hj (by omega), fun j x hj hx => absurd (List.getElem?_eq_some_iff.1 hx).1 (by rw [HH.out.1]; omega)⟩⟩
  case round =>
    obtain ⟨lo, hi, rfl, rfl, hlh, hin, hg, hb, I⟩ := hrel
    have q1 := (hb.cell (p := ⟨w.heap.size, 0, none⟩) hsz).trans f1
    have q2 := (hb.cell (p := ⟨w.heap.size, 1, none⟩) hsz).trans f2
    by_cases hlt : lo < hi
    · obtain ⟨b, off, x, y, rfl, hx, e1, e2⟩ := (HH.out.below hb).at ((lo + hi) / 2) (by omega)
      have HX := Lib.hid hx
      have cB : ∀ d os, Calls Try.prog 55 #[.agg #[.int .i64 x, .int .i64 y], .agg #[.int .i64 tu, .int .i64 tv]] (Sort.grow (redrawn wr d) os) fun e w'' => e = .returned (.int .i64 (cmpR (x, y) (tu, tv))) ∧ ∃ p : Regrown, w'' = Sort.grow (redrawn wr p.d) p.os := fun d os => Calls.regrown_of (Avr.compareRel_below x y tu tv _)
      clear hx
      cases hbf : before (x, y) (tu, tv) with
      | true =>
        have hcm : cmpR (x, y) (tu, tv) < 0 := (cmpR_lt _ _).2 hbf
        have HBF := Lib.hid hbf
        clear hbf
        generalize cmpR (x, y) (tu, tv) = r at *
        go_wp2_with fail
        have k1 := cell_regrown e1
        have k2 := cell_regrown e2
        have k3 := cell_regrown q1
        have k4 := cell_regrown q2
        refine wp_region_quiet_below (by kernel_rfl) (by kernel_rfl) ?_
        repeat (go_big_quiet_step ((go_at_call 55; exact cB _ _)))
        refine wpQuiet_nil ?_
        intro _ hw'
        obtain ⟨⟨dq, osq⟩, hw''⟩ := hw'
        subst hw''
        go_wp2_with fail
        go_roundg (hi - ((lo + hi) / 2 + 1))
        case measure => omega
        case rel =>
          exact ⟨(lo + hi) / 2 + 1, hi, by rw [show ((lo : Int) + (hi : Int)) / 2 + 1 = (((lo + hi) / 2 + 1 : Nat) : Int) by omega], rfl, by omega, hin, Nat.le_refl _, hb.trans ((below_regrown wr dq osq).mono hb.size), ⟨fun j z hj hz => by
            rcases HA.out j ((lo + hi) / 2) z (x, y) (by omega) hz HX.out with e | e
            · rw [e]; exact HBF.out
            · exact before_trans e HBF.out, I.out.2⟩⟩
      | false =>
        have hcm : ¬ cmpR (x, y) (tu, tv) < 0 := fun h => by rw [(cmpR_lt _ _).1 h] at hbf; cases hbf
        have HBF := Lib.hid hbf
        clear hbf
        generalize cmpR (x, y) (tu, tv) = r at *
        go_wp2_with fail
        have k1 := cell_regrown e1
        have k2 := cell_regrown e2
        have k3 := cell_regrown q1
        have k4 := cell_regrown q2
        refine wp_region_quiet_below (by kernel_rfl) (by kernel_rfl) ?_
        repeat (go_big_quiet_step ((go_at_call 55; exact cB _ _)))
        refine wpQuiet_nil ?_
        intro _ hw'
        obtain ⟨⟨dq, osq⟩, hw''⟩ := hw'
        subst hw''
        go_wp2_with fail
        go_roundg ((lo + hi) / 2 - lo)
        case measure => omega
        case rel =>
          exact ⟨lo, (lo + hi) / 2, rfl, by rw [show ((lo : Int) + (hi : Int)) / 2 = (((lo + hi) / 2 : Nat) : Int) by omega], by omega, by omega, Nat.le_refl _, hb.trans ((below_regrown wr dq osq).mono hb.size), ⟨I.out.1, fun j z hj hz => by
            rcases HA.out ((lo + hi) / 2) j (x, y) z hj HX.out hz with e | e
            · rw [← e]; exact HBF.out
            · cases hq : before z (tu, tv) with
              | false => rfl
              | true =>
                have h3 := HBF.out
                rw [before_trans e hq] at h3
                cases h3⟩⟩
    · obtain rfl : hi = lo := by omega
      have hM := plR_eq (m := m) (x := (tu, tv)) (i := hi) (by rw [HH.out.1]; exact hin) I.out.1 (fun x hx => I.out.2 hi x (Nat.le_refl _) hx)
      have HP := Lib.hid hM
      have HQ := Lib.hid (isAtR_eq hM)
      clear hM
      have HBB := Lib.hid (hb0.trans (hb.mono hb0.size))
      by_cases hn : hi < n
      · obtain ⟨b, off, x, y, rfl, hx, e1, e2⟩ := (HH.out.below hb).at hi hn
        have HX := Lib.hid hx
        have hni : (hi : Int) < (n : Int) := by omega
        have cB : ∀ d os, Calls Try.prog 55 #[.agg #[.int .i64 x, .int .i64 y], .agg #[.int .i64 tu, .int .i64 tv]] (Sort.grow (redrawn wr d) os) fun e w'' => e = .returned (.int .i64 (cmpR (x, y) (tu, tv))) ∧ ∃ p : Regrown, w'' = Sort.grow (redrawn wr p.d) p.os := fun d os => Calls.regrown_of (Avr.compareRel_below x y tu tv _)
        clear hx
        by_cases hxy : (x, y) = (tu, tv)
        · have hcm : cmpR (x, y) (tu, tv) = 0 := (cmpR_eq _ _).2 hxy
          have HS : Hid (isAtR m (tu, tv) = true) := by unfold Hid; rw [HQ.out, HX.out, hxy]; simp
          rw [hcm] at cB
          clear hxy hcm
          go_wp2_with fail
          have k1 := cell_regrown e1
          have k2 := cell_regrown e2
          have k3 := cell_regrown q1
          have k4 := cell_regrown q2
          refine wp_region_quiet_below (by kernel_rfl) (by kernel_rfl) ?_
          repeat (go_big_quiet_step ((go_at_call 55; exact cB _ _)))
          refine wpQuiet_nil ?_
          intro _ hw'
          obtain ⟨⟨dq, osq⟩, hw''⟩ := hw'
          subst hw''
          go_wp2_with fail
          go_ret2
          exact ⟨by rw [HP.out, HS.out]; rfl, HBB.out.trans ((below_regrown wr dq osq).mono HBB.out.size)⟩
        · have hcm : ¬ cmpR (x, y) (tu, tv) = 0 := fun h => hxy ((cmpR_eq _ _).1 h)
          have HS : Hid (isAtR m (tu, tv) = false) := by unfold Hid; rw [HQ.out, HX.out]; exact decide_eq_false (fun e => hxy (by injection e))
          clear hxy
          generalize cmpR (x, y) (tu, tv) = r at *
          have hcq : (r == 0) = false := by simpa using hcm
          go_wp2_with fail
          have k1 := cell_regrown e1
          have k2 := cell_regrown e2
          have k3 := cell_regrown q1
          have k4 := cell_regrown q2
          refine wp_region_quiet_below (by kernel_rfl) (by kernel_rfl) ?_
          repeat (go_big_quiet_step ((go_at_call 55; exact cB _ _)))
          refine wpQuiet_nil ?_
          intro _ hw'
          obtain ⟨⟨dq, osq⟩, hw''⟩ := hw'
          subst hw''
          go_wp2_with fail
          go_ret2
          exact ⟨by rw [HP.out, HS.out]; rfl, HBB.out.trans ((below_regrown wr dq osq).mono HBB.out.size)⟩
      · have hni : ¬ (hi : Int) < (n : Int) := by omega
        have HS : Hid (isAtR m (tu, tv) = false) := by unfold Hid; rw [HQ.out, List.getElem?_eq_none (by rw [HH.out.1]; omega)]; rfl
        have k3 := cell_regrown q1
        have k4 := cell_regrown q2
        go_wp2_with fail
        refine wp_region_quiet_below (by kernel_rfl) (by kernel_rfl) ?_
        repeat (go_big_quiet_step (fail))
        refine wpQuiet_nil ?_
        intro _ hw'
        obtain ⟨⟨dq, osq⟩, hw''⟩ := hw'
        subst hw''
        go_wp2_with fail
        go_ret2
        exact ⟨by rw [HP.out, HS.out]; rfl, HBB.out.trans ((below_regrown wr dq osq).mono HBB.out.size)⟩
end Go.Proofs.Ytknlackphdcflaa.SearchR
