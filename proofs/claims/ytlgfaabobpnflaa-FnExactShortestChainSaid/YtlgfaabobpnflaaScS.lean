/- The model's ShortestChain. -/
import Derived.Test.YtlgfaabobpnflaaStpD
import Derived.Test.YtlgfaabobpnflaaScP
namespace Go.Proofs.Ytlgfaabobpnflaa.ScS
open Go.RowKit Pairs Rec RecEq Chain Find2 GoodM Keep GivesI Lows Order Bit Table Idx That IsLater Consist OrdM RedS BfsM ScM ScI StpM StpS StpC StpD ScP
set_option maxRecDepth 100000 in
set_option maxHeartbeats 8000000 in
theorem spec_any (a b : Int) : GivesC.Gives2 45 (.int .i64 a) (.int .i64 b) (scP a b) := by
  intro a1 a2 n1 n2 l m w hz1 hz2 h1 h2
  have hb := below_alloc w (.cells #[.slice a1 n1 n1, .slice a2 n2 n2] 33)
  have hf := box_first w (.slice a1 n1 n1) (.slice a2 n2 n2) 33
  have hf2 := box_second w (.slice a1 n1 n1) (.slice a2 n2 n2) 33
  have H1 := Lib.hid (h1.below hb)
  have H2 := Lib.hid (h2.below hb)
  have HL1 := Lib.hid h1.1
  have hsz : w.heap.size < (w.alloc (.cells #[.slice a1 n1 n1, .slice a2 n2 n2] 33)).heap.size := by simp
  clear h1 h2
  go_enter Try.func45, Try.ntmps45
  go_wp2_with fail
  generalize w.alloc (.cells #[.slice a1 n1 n1, .slice a2 n2 n2] 33) = W0 at *
  have k1 := cell_regrown hf
  have k2 := cell_regrown hf2
  have cU : ∀ d os, Calls Try.prog 90 #[.agg #[.slice a1 n1 n1, .slice a2 n2 n2], .int .i64 a] (Sort.grow (redrawn W0 d) os) fun e w'' => e = .returned (.int .i64 (find l a)) ∧ ∃ p : Regrown, w'' = Sort.grow (redrawn W0 p.d) p.os := fun d os => Calls.regrown_of (l2Find_any a1 _ n1 n1 n2 n2 l a _ (by omega) (H1.out.below (below_regrown W0 d os)))
  have cV : ∀ d os, Calls Try.prog 90 #[.agg #[.slice a1 n1 n1, .slice a2 n2 n2], .int .i64 b] (Sort.grow (redrawn W0 d) os) fun e w'' => e = .returned (.int .i64 (find l b)) ∧ ∃ p : Regrown, w'' = Sort.grow (redrawn W0 p.d) p.os := fun d os => Calls.regrown_of (l2Find_any a1 _ n1 n1 n2 n2 l b _ (by omega) (H1.out.below (below_regrown W0 d os)))
  refine wp_region_quiet_below (by kernel_rfl) (by kernel_rfl) ?_
  repeat (go_big_quiet_step (first | (go_at_call_of 90 a; exact cU _ _) | (go_at_call_of 90 b; exact cV _ _)))
  refine wpQuiet_nil ?_
  intro _ hw'
  obtain ⟨⟨dq, osq⟩, hw''⟩ := hw'
  subst hw''
  have hbq := below_regrown W0 dq osq
  have r1 := (hbq.cell (p := ⟨w.heap.size, 0, none⟩) hsz).trans hf
  have r2 := (hbq.cell (p := ⟨w.heap.size, 1, none⟩) hsz).trans hf2
  have hszq := Nat.lt_of_lt_of_le hsz hbq.size
  have K1 := Lib.hid (H1.out.below hbq)
  have K2 := Lib.hid (H2.out.below hbq)
  have HB := Lib.hid (hb.trans (hbq.mono hb.size))
  clear k1 k2 cU cV hf hf2 hbq hb
  generalize Sort.grow (redrawn W0 dq) osq = W5 at *
  go_wp2_with fail
  refine (Good2.l2Good_any a1 a2 n1 n1 n2 n2 l m W5 K1.out K2.out).mono ?_
  rintro e w1 ⟨rfl, b1⟩
  have q1 := (b1.cell (p := ⟨w.heap.size, 0, none⟩) hszq).trans r1
  have q2 := (b1.cell (p := ⟨w.heap.size, 1, none⟩) hszq).trans r2
  have HB1 := Lib.hid (HB.out.trans (b1.mono HB.out.size))
  have K11 := Lib.hid (K1.out.below b1)
  have K12 := Lib.hid (K2.out.below b1)
  clear r1 r2 b1
  cases hg : good l m with
  | false =>
    have HE := Lib.hid (sc_no (a := a) (b := b) (has2_no (l := l) (m := m) (a := a) (b := b) (fun h => by rw [hg] at h; exact absurd h.1 (by simp))))
    clear hg
    go_wp2_with fail
    refine bodyPost_ret (v := .tuple #[.slice (some ⟨w1.heap.size, 0, none⟩) 0 0, .bool false, .bool false]) (by simp [results, Try.results45, go_sem]) rfl ?_
    rw [HE.out]
    exact ⟨_, _, _, rfl, ownsRow_base (That.empty_own w1) HB1.out.size, by omega, HB1.out.trans ((below_alloc _ _).mono HB1.out.size)⟩
  | true =>
    have HG := Lib.hid hg
    cases hi : isAt l a with
    | none =>
      have HE := Lib.hid (sc_no (a := a) (b := b) (has2_no (l := l) (m := m) (a := a) (b := b) (fun h => by obtain ⟨_, ⟨i, h2⟩, _⟩ := h; rw [hi] at h2; cases h2)))
      rw [find_none hi]
      clear hg hi
      go_wp2_with fail
      refine bodyPost_ret (v := .tuple #[.slice (some ⟨w1.heap.size, 0, none⟩) 0 0, .bool false, .bool false]) (by simp [results, Try.results45, go_sem]) rfl ?_
      rw [HE.out]
      exact ⟨_, _, _, rfl, ownsRow_base (That.empty_own w1) HB1.out.size, by omega, HB1.out.trans ((below_alloc _ _).mono HB1.out.size)⟩
    | some i =>
      have hi0 : ¬ (i : Int) < 0 := by omega
      rw [find_some hi]
      cases hj : isAt l b with
      | none =>
        have HE := Lib.hid (sc_no (a := a) (b := b) (has2_no (l := l) (m := m) (a := a) (b := b) (fun h => by obtain ⟨_, _, j, h2⟩ := h; rw [hj] at h2; cases h2)))
        rw [find_none hj]
        clear hg hi hj
        go_wp2_with fail
        refine bodyPost_ret (v := .tuple #[.slice (some ⟨w1.heap.size, 0, none⟩) 0 0, .bool false, .bool false]) (by simp [results, Try.results45, go_sem]) rfl ?_
        rw [HE.out]
        exact ⟨_, _, _, rfl, ownsRow_base (That.empty_own w1) HB1.out.size, by omega, HB1.out.trans ((below_alloc _ _).mono HB1.out.size)⟩
      | some j =>
        have hj0 : ¬ (j : Int) < 0 := by omega
        have HE := Lib.hid (sc_yes (a := a) (b := b) (has2_iff.2 ⟨hg, ⟨i, hi⟩, j, hj⟩))
        rw [find_some hj]
        have HI := Lib.hid hi
        have HJ := Lib.hid hj
        have hin : i < n1 := by rw [← HL1.out]; exact isAt_lt hi
        have hjn : j < n1 := by rw [← HL1.out]; exact isAt_lt hj
        have hn10 : n1 ≤ 10 := by rw [← HL1.out]; exact (Table.good_few hg).1
        clear hg hi hj
        go_wp2_with fail
        refine (l4Chain_any a b i j a1 a2 n1 n1 n2 n2 l m w1 HG.out HI.out HJ.out K11.out K12.out).mono ?_
        rintro e w2 ⟨p, k, d, rfl, hown, hk, b3⟩
        have hkl : (chainP m a b).length = k := by have h := hown.1; rw [ints_len] at h; omega
        have HO := Lib.hid hown
        have HB3 := Lib.hid (HB1.out.trans (b3.mono HB1.out.size))
        have hs2 := HB1.out.size
        rw [hkl] at HE
        clear hown b3 hkl
        go_wp2_with fail
        refine bodyPost_ret (v := .tuple #[.slice p k d, .bool (decide (0 < k)), .bool true]) (by simp [results, Try.results45, go_sem]) rfl ?_
        rw [HE.out]
        exact ⟨p, k, d, rfl, ownsRow_base HO.out hs2, hk, HB3.out⟩
end Go.Proofs.Ytlgfaabobpnflaa.ScS
