/- The program's ShortestInterval. -/
import Derived.Test.YtfnbjfmegikciaaPoI
import Derived.Test.YtfnbjfmegikciaaSiM
import Derived.Deep.DeepCutAuto
namespace Go.Proofs.Ytfnbjfmegikciaa.SiI
open Go Go.RowKit Pairs Rec Keep GivesI DvM DvG DvI Di ShI Yr In AtM WwI PoI FvI SiM
set_option linter.unusedVariables false
set_option maxRecDepth 100000 in
set_option maxHeartbeats 16000000 in
theorem impl_any (num den f : Int) (p : Option Addr) (n c : Nat) (M : List Int) (w : World) (hn : n ≤ 1048576) (h : HoldsI w p n M) :
    Calls Try.prog 38 #[.agg #[.int .i64 f, .slice p n c], .int .i64 num, .int .i64 den] w fun e w' => e = .returned (.tuple #[.int .i64 (siP num den f M).1, .int .i64 (siP num den f M).2.1, .bool (siP num den f M).2.2]) ∧ Below w.heap.size w w' := by
  have hb := below_alloc w (.cells #[.int .i64 f, .slice p n c] 27)
  have f1 := box_first w (.int .i64 f) (.slice p n c) 27
  have f2 := box_second w (.int .i64 f) (.slice p n c) 27
  have hlt : w.heap.size < (w.alloc (.cells #[.int .i64 f, .slice p n c] 27)).heap.size := by simp
  have HL := Lib.hid h.1
  have H := Lib.hid (h.below hb)
  have HB := Lib.hid hb
  clear h hb
  obtain ⟨r, hr⟩ : ∃ r, r = siP num den f M := ⟨_, rfl⟩
  rw [← hr]
  have HR := Lib.hid hr
  clear hr
  go_enter Try.func38, Try.ntmps38
  go_wp2_with fail
  generalize w.alloc (.cells #[.int .i64 f, .slice p n c] 27) = W at *
  refine (portionOf_any num den f p n c M W hn H.out).mono ?_
  rintro e w1 ⟨rfl, b⟩
  replace f1 := (b.cell (p := ⟨w.heap.size, 0, none⟩) hlt).trans f1
  replace f2 := (b.cell (p := ⟨w.heap.size, 1, none⟩) hlt).trans f2
  replace hlt := Nat.lt_of_lt_of_le hlt b.size
  replace H := Lib.hid (H.out.below b)
  replace HB := Lib.hid (HB.out.trans (b.mono HB.out.size))
  clear b
  cases hv : (okD f M && isF num den) with
  | false =>
    have hno : okD f M = true → isF num den = true → False := fun e1 e2 => by rw [e1, e2] at hv; cases hv
    have HN := Lib.hid (HR.out.trans (siP_no hno))
    rw [poV_no hno]
    have HB2 := Lib.hid (HB.out.trans ((below_alloc w1 (.cells #[.int .i64 0, .slice none 0 0, .int .i64 0] 67)).mono HB.out.size))
    go_wp2_with fail
    go_ret3
    exact ⟨by rw [HN.out]; rfl, HB2.out⟩
  | true =>
    rw [Bool.and_eq_true] at hv
    obtain ⟨hv1, hv2⟩ := hv
    rw [poV_yes hv1 hv2]
    have O := okD_iff.1 hv1
    have o1 := O.lo
    have o2 := O.hi
    have o3 := O.pos
    rw [HL.out] at o2 o3
    have HM := Lib.hid (show ∀ x ∈ M, 0 ≤ x ∧ x ≤ 1000000 from fun x hx => upTo_mem O.all hx)
    have HN := Lib.hid (HR.out.trans (siP_yes hv1 hv2))
    rw [HL.out] at HN
    have hb := below_alloc w1 (.cells #[.int .i64 f, .slice p n c, .int .i64 (least num den M)] 67)
    obtain ⟨g1, g2, g3⟩ := box3 w1 (.int .i64 f) (.slice p n c) (.int .i64 (least num den M)) 67
    have hlt2 : w1.heap.size < (w1.alloc (.cells #[.int .i64 f, .slice p n c, .int .i64 (least num den M)] 67)).heap.size := by simp
    replace f1 := (hb.cell (p := ⟨w.heap.size, 0, none⟩) hlt).trans f1
    replace f2 := (hb.cell (p := ⟨w.heap.size, 1, none⟩) hlt).trans f2
    replace hlt := Nat.lt_of_lt_of_le hlt hb.size
    replace H := Lib.hid (H.out.below hb)
    replace HB := Lib.hid (HB.out.trans (hb.mono HB.out.size))
    clear hb O hv1 hv2
    generalize hz : least num den M = z at *
    go_wp2_with fail
    generalize w1.alloc (.cells #[.int .i64 f, .slice p n c, .int .i64 z] 67) = W2 at *
    have bd : Below W2.heap.size W2 W2.drew := (Below.refl W2.heap.size W2).drew
    have ba := below_alloc W2 (.cells #[.int .i64 0, .int .i64 0] 53)
    have bad : Below W2.heap.size W2 (W2.alloc (.cells #[.int .i64 0, .int .i64 0] 53)).drew := ba.drew
    have BNa := Lib.hid (show Bx (W2.alloc (.cells #[.int .i64 0, .int .i64 0] 53)).drew W2.heap.size (.int .i64 0) (.int .i64 0) from ⟨(bx_new W2 _ _ _).c0, (bx_new W2 _ _ _).c1, (bx_new W2 _ _ _).f0, (bx_new W2 _ _ _).f1, (bx_new W2 _ _ _).lt⟩)
    have f1e := (ba.cell (p := ⟨w.heap.size, 0, none⟩) hlt).trans f1
    have f2e := (ba.cell (p := ⟨w.heap.size, 1, none⟩) hlt).trans f2
    have g1e := (ba.cell (p := ⟨w1.heap.size, 0, none⟩) hlt2).trans g1
    have g2e := (ba.cell (p := ⟨w1.heap.size, 1, none⟩) hlt2).trans g2
    have g3e := (ba.cell (p := ⟨w1.heap.size, 2, none⟩) hlt2).trans g3
    obtain ⟨r1, hq1⟩ : ∃ r1, r1 = (fst2 (fun q => decide (z ≤ sw f M (yrs q.1 q.2))) (ivs f (f + n - 1))).1.1 := ⟨_, rfl⟩
    obtain ⟨r2, hq2⟩ : ∃ r2, r2 = (fst2 (fun q => decide (z ≤ sw f M (yrs q.1 q.2))) (ivs f (f + n - 1))).1.2 := ⟨_, rfl⟩
    obtain ⟨r3, hq3⟩ : ∃ r3, r3 = (fst2 (fun q => decide (z ≤ sw f M (yrs q.1 q.2))) (ivs f (f + n - 1))).2 := ⟨_, rfl⟩
    rw [← hq1, ← hq2, ← hq3] at HN
    have HQ1 := Lib.hid hq1
    have HQ2 := Lib.hid hq2
    have HQ3 := Lib.hid hq3
    clear hq1 hq2 hq3
    go_upto_region 4 with fail
    go_cut [11, 12] (fun sx sy wc => ∃ gb, sx = .pointer (some ⟨gb, 0, none⟩) ∧ sy = .bool r3 ∧ Hid (Bx wc gb (.int .i64 r1) (.int .i64 r2) ∧ Below W2.heap.size W2 wc))
    case first =>
      go_region_held3 (fun w' => w'.cell? ⟨w.heap.size, 0, none⟩ = some (.int .i64 f) ∧ w'.cell? ⟨w.heap.size, 1, none⟩ = some (.slice p n c) ∧ w'.cell? ⟨w1.heap.size, 0, none⟩ = some (.int .i64 f) ∧ w'.cell? ⟨w1.heap.size, 1, none⟩ = some (.slice p n c) ∧ w'.cell? ⟨w1.heap.size, 2, none⟩ = some (.int .i64 z))
        (first | go_keep | (exact ⟨by first | assumption | exact f1s _ (by first | exact Nat.le_refl _ | exact bw1.size | exact bw2.size), by first | assumption | exact f2s _ (by first | exact Nat.le_refl _ | exact bw1.size | exact bw2.size), by first | assumption | exact g1s _ (by first | exact Nat.le_refl _ | exact bw1.size | exact bw2.size), by first | assumption | exact g2s _ (by first | exact Nat.le_refl _ | exact bw1.size | exact bw2.size), by first | assumption | exact g3s _ (by first | exact Nat.le_refl _ | exact bw1.size | exact bw2.size)⟩))
        (first
          | (go_at_call 45; refine (years_any f p n c _ (by omega) (by omega) hn).mono ?_; rintro e v1 ⟨rfl, bA⟩; have bw1 : Below W2.heap.size W2 v1 := (by first | exact bd.trans (bA.mono bd.size) | exact bad.trans (bA.mono bad.size)); have bw1a : Below W2.heap.size W2 (v1.alloc (.cells #[.int .i64 0, .int .i64 0] 53)) := bw1.trans ((below_alloc v1 (.cells #[.int .i64 0, .int .i64 0] 53)).mono bw1.size); have f1v1 := (bw1.cell (p := ⟨w.heap.size, 0, none⟩) hlt).trans f1; have f1v1e := (bw1a.cell (p := ⟨w.heap.size, 0, none⟩) hlt).trans f1; have f2v1 := (bw1.cell (p := ⟨w.heap.size, 1, none⟩) hlt).trans f2; have f2v1e := (bw1a.cell (p := ⟨w.heap.size, 1, none⟩) hlt).trans f2; have g1v1 := (bw1.cell (p := ⟨w1.heap.size, 0, none⟩) hlt2).trans g1; have g1v1e := (bw1a.cell (p := ⟨w1.heap.size, 0, none⟩) hlt2).trans g1; have g2v1 := (bw1.cell (p := ⟨w1.heap.size, 1, none⟩) hlt2).trans g2; have g2v1e := (bw1a.cell (p := ⟨w1.heap.size, 1, none⟩) hlt2).trans g2; have g3v1 := (bw1.cell (p := ⟨w1.heap.size, 2, none⟩) hlt2).trans g3; have g3v1e := (bw1a.cell (p := ⟨w1.heap.size, 2, none⟩) hlt2).trans g3; try have N1 := Lib.hid (BNa.out.below bA))
          | (go_at_call 68; refine (intervalsIn_b f (f + n - 1) _).mono ?_; rintro e v2 ⟨rfl, bB, y1, y2⟩; have bw2 : Below W2.heap.size W2 v2 := (by first | exact bw1.trans (bB.mono bw1.size) | exact bw1a.trans (bB.mono bw1a.size)); have bw2a : Below W2.heap.size W2 (v2.alloc (.cells #[.int .i64 0, .int .i64 0] 53)) := bw2.trans ((below_alloc v2 (.cells #[.int .i64 0, .int .i64 0] 53)).mono bw2.size); have f1v2 := (bw2.cell (p := ⟨w.heap.size, 0, none⟩) hlt).trans f1; have f1v2e := (bw2a.cell (p := ⟨w.heap.size, 0, none⟩) hlt).trans f1; have f2v2 := (bw2.cell (p := ⟨w.heap.size, 1, none⟩) hlt).trans f2; have f2v2e := (bw2a.cell (p := ⟨w.heap.size, 1, none⟩) hlt).trans f2; have g1v2 := (bw2.cell (p := ⟨w1.heap.size, 0, none⟩) hlt2).trans g1; have g1v2e := (bw2a.cell (p := ⟨w1.heap.size, 0, none⟩) hlt2).trans g1; have g2v2 := (bw2.cell (p := ⟨w1.heap.size, 1, none⟩) hlt2).trans g2; have g2v2e := (bw2a.cell (p := ⟨w1.heap.size, 1, none⟩) hlt2).trans g2; have g3v2 := (bw2.cell (p := ⟨w1.heap.size, 2, none⟩) hlt2).trans g3; have g3v2e := (bw2a.cell (p := ⟨w1.heap.size, 2, none⟩) hlt2).trans g3; have y1e := ((below_alloc v2 (.cells #[.int .i64 0, .int .i64 0] 53)).cell (World.block_lt_of_cell? v2 _ y1)).trans y1; have y2e := ((below_alloc v2 (.cells #[.int .i64 0, .int .i64 0] 53)).cell (World.block_lt_of_cell? v2 _ y2)).trans y2; first | have N2 := Lib.hid (N1.out.below bB) | have N2 := Lib.hid ((bx_new v1 (.int .i64 0) (.int .i64 0) 53).below bB) | skip)
          | (go_at_call 67; refine (FvI.first_any 69 (.agg #[.int .i64 f, .slice p n c, .int .i64 z]) (fun q => decide (z ≤ sw f M (yrs q.1 q.2))) f (f + n - 1) _ _ (by omega) (by omega) (by first | exact y1 | exact y1e | simpa using y1 | simpa using y1e) (by first | exact y2 | exact y2e | simpa using y2 | simpa using y2e) (fun args W => FuncI.call_enter Try.func69 (by kernel_rfl) rfl args W) (fun a b wr h1 h2 h3 hbr => within_meets f p n c M z a b wr hn (by omega) (by omega) (by omega) HM.out ((by first | exact H.out.below bw2 | exact H.out.below bw2a : HoldsI _ p n M).below hbr))).mono ?_; rw [← HQ1.out, ← HQ2.out, ← HQ3.out]; rintro e v3 ⟨rfl, bM⟩; have bw3 : Below W2.heap.size W2 v3 := (by first | exact bw2.trans (bM.mono bw2.size) | exact bw2a.trans (bM.mono bw2a.size)); have bw3a : Below W2.heap.size W2 (v3.alloc (.cells #[.int .i64 0, .int .i64 0] 53)) := bw3.trans ((below_alloc v3 (.cells #[.int .i64 0, .int .i64 0] 53)).mono bw3.size); have f1v3 := (bw3.cell (p := ⟨w.heap.size, 0, none⟩) hlt).trans f1; have f1v3e := (bw3a.cell (p := ⟨w.heap.size, 0, none⟩) hlt).trans f1; have f2v3 := (bw3.cell (p := ⟨w.heap.size, 1, none⟩) hlt).trans f2; have f2v3e := (bw3a.cell (p := ⟨w.heap.size, 1, none⟩) hlt).trans f2; have g1v3 := (bw3.cell (p := ⟨w1.heap.size, 0, none⟩) hlt2).trans g1; have g1v3e := (bw3a.cell (p := ⟨w1.heap.size, 0, none⟩) hlt2).trans g1; have g2v3 := (bw3.cell (p := ⟨w1.heap.size, 1, none⟩) hlt2).trans g2; have g2v3e := (bw3a.cell (p := ⟨w1.heap.size, 1, none⟩) hlt2).trans g2; have g3v3 := (bw3.cell (p := ⟨w1.heap.size, 2, none⟩) hlt2).trans g3; have g3v3e := (bw3a.cell (p := ⟨w1.heap.size, 2, none⟩) hlt2).trans g3; have f1s := fun k (hk : W2.heap.size ≤ k) => cell_off (k := k) (.int .i64 r1) (.int .i64 r2) f1v3 (by omega); have f2s := fun k (hk : W2.heap.size ≤ k) => cell_off (k := k) (.int .i64 r1) (.int .i64 r2) f2v3 (by omega); have g1s := fun k (hk : W2.heap.size ≤ k) => cell_off (k := k) (.int .i64 r1) (.int .i64 r2) g1v3 (by omega); have g2s := fun k (hk : W2.heap.size ≤ k) => cell_off (k := k) (.int .i64 r1) (.int .i64 r2) g2v3 (by omega); have g3s := fun k (hk : W2.heap.size ≤ k) => cell_off (k := k) (.int .i64 r1) (.int .i64 r2) g3v3 (by omega); first | (have N3 := Lib.hid (N2.out.below bM); obtain ⟨n0, n1, n2, n3, -⟩ := N3.out) | (have N3 := Lib.hid ((bx_new v2 (.int .i64 0) (.int .i64 0) 53).below bM); obtain ⟨n0, n1, n2, n3, -⟩ := N3.out) | skip))
      all_goals go_wp2_with fail
      all_goals go_meet
      all_goals exact ⟨_, rfl, rfl, by first | exact ⟨bx_new _ _ _ _, bw3.trans ((below_alloc v3 _).mono bw3.size)⟩ | exact ⟨bx_put N3.out _ _, (bw3.setCell (p := ⟨_, 0, none⟩) (by first | exact Nat.le_refl _ | exact bw1.size | exact bw2.size) _).setCell (p := ⟨_, 1, none⟩) (by first | exact Nat.le_refl _ | exact bw1.size | exact bw2.size) _⟩⟩
    case rest =>
      obtain ⟨gb, rfl, rfl, HC⟩ := hcut
      obtain ⟨⟨c0, c1, -, -, -⟩, bb⟩ := HC.out
      have HZ := Lib.hid (HB.out.trans (bb.mono HB.out.size))
      have k1 := cell_regrown c0
      have k2 := cell_regrown c1
      clear HC bb BNa bd ba bad f1 f2 g1 g2 g3 f1e f2e g1e g2e g3e
      go_wp2_with fail
      refine wp_region_quiet_below (by kernel_rfl) (by kernel_rfl) ?_
      repeat (go_big_quiet_step (fail))
      refine wpQuiet_nil ?_
      intro _ hw'
      obtain ⟨⟨dq, osq⟩, hw''⟩ := hw'
      subst hw''
      have HBQ := Lib.hid (below_regrown wc dq osq)
      clear k1 k2 c0 c1
      generalize Sort.grow (redrawn wc dq) osq = W5 at *
      go_wp2_with fail
      go_ret3
      exact ⟨by rw [HN.out]; rfl, HZ.out.trans (HBQ.out.mono HZ.out.size)⟩
end Go.Proofs.Ytfnbjfmegikciaa.SiI
