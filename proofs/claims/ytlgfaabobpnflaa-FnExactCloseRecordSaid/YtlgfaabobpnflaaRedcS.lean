/- The model's l5Reduced and ReduceRecord. -/
import Derived.Test.YtlgfaabobpnflaaTwoBs
import Derived.Test.YtlgfaabobpnflaaAppH
import Derived.Test.YtlgfaabobpnflaaCloneC
import Derived.Test.YtlgfaabobpnflaaRedS
import Derived.Test.YtlgfaabobpnflaaRedcM
import Derived.Deep.RegionHeld3
namespace Go.Proofs.Ytlgfaabobpnflaa.RedcS
open Go.RowKit Pairs Rec RecEq Chain Find2 GoodM Keep GivesI Lows Order Bit Table Idx That IsLater Consist OrdM RedM RedS Row2 Copy Two TwoBs RowTake Gives RedcM
def RecAns (L M : List (Int × Int)) (w : World) (e : Ending) (w' : World) : Prop := ∃ (p1 : Option Addr) (d1 : Nat) (p2 : Option Addr) (d2 : Nat), e = .returned (.agg #[.slice p1 L.length d1, .slice p2 M.length d2]) ∧ Got w' w.heap.size p1 L.length d1 p2 M.length d2 L M ∧ Below w.heap.size w w'
theorem got_set2 {W : World} {B B' r : Nat} {p1 p2 : Option Addr} {k1 d1 k2 d2 : Nat} {L M : List (Int × Int)} (h : Got W B p1 k1 d1 p2 k2 d2 L M) (hr : r < B) (hB : B' ≤ B) (u v : Value) : Got ((W.setCell ⟨r, 0, none⟩ u).setCell ⟨r, 1, none⟩ v) B' p1 k1 d1 p2 k2 d2 L M := by
  have f1 : (Value.slice p1 k1 d1).ownBlock ≠ some r := fun e => by have := (h.ctx.lt r e).1; omega
  have f2 : (Value.slice p2 k2 d2).ownBlock ≠ some r := fun e => by have := (h.rel.lt r e).1; omega
  exact ⟨ownsRow_base (setCell_far (setCell_far h.ctx f1) f1) hB, ownsRow_base (setCell_far (setCell_far h.rel f2) f2) hB, h.ne⟩
set_option maxRecDepth 100000 in
set_option maxHeartbeats 8000000 in
theorem l5Reduced_any (a1 a2 : Option Addr) (n1 c1 n2 c2 : Nat) (l m : List (Int × Int)) (w : World) (hgood : good l m = true) (hc : cyc l m = false) (h1 : Holds w a1 n1 l) (h2 : Holds w a2 n2 m) :
    Calls Try.prog 82 #[.agg #[.slice a1 n1 c1, .slice a2 n2 c2]] w (RecAns l (m.filter (kept m)) w) := by
  obtain ⟨i1, hi1, hy0, hy1, hy2⟩ := info_parts infoContext
  obtain ⟨i2, hi2, hv0, hv1, hv2⟩ := info_parts infoRelation
  obtain ⟨fy1, fy2⟩ := fz_box2 w (.slice a1 n1 c1) (.slice a2 n2 c2) (.slice none 0 0) (.slice none 0 0) 33 33
  obtain ⟨hs, x1, x2, y1, y2, hb0⟩ := boxes2 w (.slice a1 n1 c1) (.slice a2 n2 c2) (.slice none 0 0) (.slice none 0 0) 33 33
  have HS := Lib.hid hs
  have H1 := Lib.hid (h1.below hb0)
  have H2 := Lib.hid (h2.below hb0)
  have HLL := Lib.hid h1.1
  have HML := Lib.hid h2.1
  have HV := Lib.hid hgood
  have HC := Lib.hid hc
  clear h1 h2 hs hgood hc
  go_enter Try.func82, Try.ntmps82
  have hem := CloneC.empty_own (T := 69) ((w.alloc (.cells #[.slice a1 n1 c1, .slice a2 n2 c2] 33)).alloc (.cells #[.slice none 0 0, .slice none 0 0] 33))
  rw [HS.out] at hem
  have HA1 := Lib.hid (H1.out.below (below_alloc _ (.cells #[] 69)))
  have hn1 : n1 ≤ 10 := by rw [← HLL.out]; exact (Table.good_few HV.out).1
  have hn2 : n2 ≤ 24 := by rw [← HML.out]; exact (Table.good_few HV.out).2
  have HSA : Hid ((((w.alloc (.cells #[.slice a1 n1 c1, .slice a2 n2 c2] 33)).alloc (.cells #[.slice none 0 0, .slice none 0 0] 33)).alloc (.cells #[] 69)).heap.size = w.heap.size + 3) := by unfold Hid; simp
  have x1' := ((below_alloc _ (.cells #[] 69)).cell (p := ⟨w.heap.size, 0, none⟩) (by have := HS.out; show w.heap.size < _; omega)).trans x1
  go_wp2_with (at_builtin; refine AppH.wpList_append_holds rfl _ _ 30 rfl (w.heap.size + 2) 69 i1 (.agg #[.int .i64 0, .int .i64 0]) Try.underlying30 hi1 hy0 hy1 hy2 rfl (w.heap.size + 2) 0 0 [] rfl hem a1 n1 c1 l rfl HA1.out (by omega) (by have := HSA.out; omega) (w.heap.size + 3) HSA.out ?_; intro g cap w3 hown' hgrow hat hltg)
  generalize ((w.alloc (.cells #[.slice a1 n1 c1, .slice a2 n2 c2] 33)).alloc (.cells #[.slice none 0 0, .slice none 0 0] 33)) = E at *
  have hsE := HS.out
  have hb3 : Below E.heap.size E w3 := (below_alloc E _).grown hgrow (by simp) (fun k hk => by have := CloneC.own_here hk; omega)
  have HT0 : Hid (TwoB E (w3.alloc (.cells #[.slice (some ⟨g, 0, none⟩) (0 + n1) cap, .slice none 0 0] 33)) w3.heap.size (.slice (some ⟨g, 0, none⟩) (0 + n1) cap) (.slice none 0 0) l ((m.take 0).filter (kept m))) :=
    twoB_new (by rw [hsE, HLL.out]; simpa using hown') hb3
  rw [Nat.zero_add] at HT0
  have HM3 : Hid (∀ wr, Below E.heap.size E wr → ((Holds wr a1 n1 l ∧ Holds wr a2 n2 m) ∧ wr.cell? ⟨w.heap.size, 0, none⟩ = some (.slice a1 n1 c1) ∧ wr.cell? ⟨w.heap.size, 1, none⟩ = some (.slice a2 n2 c2)) ∧ (wr.cell? ⟨w.heap.size + 1, 0, none⟩ = some (.slice none 0 0) ∧ wr.cell? ⟨w.heap.size + 1, 1, none⟩ = some (.slice none 0 0)) ∧ wr.frozen? ⟨w.heap.size + 1, 0, none⟩ = false ∧ wr.frozen? ⟨w.heap.size + 1, 1, none⟩ = false ∧ Below w.heap.size w wr) := fun wr hwr =>
    ⟨⟨⟨H1.out.below hwr, H2.out.below hwr⟩, (hwr.cell (World.block_lt_of_cell? E _ x1)).trans x1, (hwr.cell (World.block_lt_of_cell? E _ x2)).trans x2⟩, ⟨(hwr.cell (World.block_lt_of_cell? E _ y1)).trans y1, (hwr.cell (World.block_lt_of_cell? E _ y2)).trans y2⟩, fz hwr ⟨w.heap.size + 1, 0, none⟩ (by show w.heap.size + 1 < _; omega) fy1, fz hwr ⟨w.heap.size + 1, 1, none⟩ (by show w.heap.size + 1 < _; omega) fy2, hb0.trans (hwr.mono hb0.size)⟩
  clear hem hown' hgrow hat hltg hb3 x1 x2 y1 y2 fy1 fy2 x1' hb0
  go_loopw [4] (fun s4 wr => ∃ k : Nat, k ≤ n2 ∧ s4 = .int .i64 k ∧ ∃ v2, Hid (TwoB E wr w3.heap.size (.slice (some ⟨g, 0, none⟩) n1 cap) v2 l ((m.take k).filter (kept m)))) (fun s4 _ => n2 - (intOf s4).toNat)
  case atStart => exact ⟨0, Nat.zero_le _, rfl, _, HT0⟩
  case round =>
    clear HT0
    obtain ⟨k, hk, rfl, v2, HT⟩ := hrel
    have p1 := (HM3.out wr HT.out.bel).1.2.1
    have p2 := (HM3.out wr HT.out.bel).1.2.2
    by_cases hlt : k < n2
    · have hkn : (k : Int) < (n2 : Int) := by omega
      have hk0 : (0 : Int) ≤ (k : Int) := by omega
      obtain ⟨b, off, x, y, rfl, hx, e1, e2⟩ := (HM3.out wr HT.out.bel).1.1.2.at k hlt
      have HX := Lib.hid (TwoBs.filt_next (kept m) hx)
      have HXM : Hid ((x, y) ∈ m) := List.mem_of_getElem? hx
      have hfl := TwoBs.filt_len (kept m) m k
      have hbdr := (Below.refl wr.heap.size wr).drew
      have HMR := Lib.hid (HM3.out wr HT.out.bel).1.1
      have HSS : Hid (∀ X, Below wr.heap.size wr X → X.cell? ⟨w.heap.size, 0, none⟩ = some (.slice a1 n1 c1) ∧ X.cell? ⟨w.heap.size, 1, none⟩ = some (.slice (some ⟨b, off, none⟩) n2 c2) ∧ X.cell? ⟨b, off + k * 2, none⟩ = some (.int .i64 x) ∧ X.cell? ⟨b, off + k * 2 + 1, none⟩ = some (.int .i64 y)) := fun X hX =>
        ⟨(hX.cell (World.block_lt_of_cell? wr _ p1)).trans p1, (hX.cell (World.block_lt_of_cell? wr _ p2)).trans p2, (hX.cell (World.block_lt_of_cell? wr _ e1)).trans e1, (hX.cell (World.block_lt_of_cell? wr _ e2)).trans e2⟩
      clear hx
      go_wp2_with fail
      go_region_held3 (fun X => X.cell? ⟨w.heap.size, 0, none⟩ = some (.slice a1 n1 c1) ∧ X.cell? ⟨w.heap.size, 1, none⟩ = some (.slice (some ⟨b, off, none⟩) n2 c2) ∧ X.cell? ⟨b, off + k * 2, none⟩ = some (.int .i64 x) ∧ X.cell? ⟨b, off + k * 2 + 1, none⟩ = some (.int .i64 y))
        (first | exact s3 | (refine HSS.out _ ?_; (repeat (first | exact Below.refl _ _ | refine Lows.belA ?_ _ | refine Below.drew ?_)); done))
        (first
          | (go_at_call 78; refine (l5Redundant_any x y a1 (some ⟨b, off, none⟩) n1 c1 n2 c2 l m _ HV.out HC.out HXM.out (HMR.out.1.below hbdr) (HMR.out.2.below hbdr)).mono ?_; rintro e w5 ⟨rfl, b5⟩; have HB5 := Lib.hid (hbdr.trans b5); have s3 := HSS.out w5 HB5.out)
          | fail)
      have HT5 := Lib.hid (HT.out.drawn HB5.out)
      obtain ⟨p1, p2, e1, e2⟩ := s3
      obtain ⟨o1, o2, o3, o4, o5⟩ := HT5.out.cells
      have hsE5 := HT5.out.bel.size
      clear b5 hbdr HSS
      cases hq : red m (x, y) with
      | true =>
        have HT2 : Hid (TwoB E w5 w3.heap.size (.slice (some ⟨g, 0, none⟩) n1 cap) v2 l ((m.take (k + 1)).filter (kept m))) := by
          unfold Hid
          rw [HX.out, if_neg (by unfold kept; rw [hq]; simp), List.append_nil]
          exact HT5.out
        clear hq HX
        go_wp2_with fail
        exact ⟨⟨k + 1, by omega, by go_num, v2, HT2⟩, by simp [intOf]; omega⟩
      | false =>
        have HX2 : Hid ((m.take (k + 1)).filter (kept m) = (m.take k).filter (kept m) ++ [(x, y)]) := by unfold Hid; rw [HX.out, if_pos (by unfold kept; rw [hq]; rfl)]
        have hown := HT5.out.rel
        clear HX hq
        go_wp2_with fail
        go_region_law (first | (refine step_append_lies _ (by rfl) _ _ _ (by rfl) E.heap.size 89 i2 _ 2 16 Try.underlying31 hi2 hv0 hv1 hv2 rfl (by omega) v2 _ _ (by rfl) (own_drew (hown.alloc _)) ⟨w5.heap.size, 0, none⟩ 1 1 [.int .i64 x, .int .i64 y] (by rfl) (by rfl) (new_pair w5 _ _ _) (by simp [Value.oneCell']) (by omega) (by unfold maxLen; omega) (by omega) (by simp; omega) (w5.heap.size + 1) (by simp) ?_; intro g9 cap9 w9 hown9 hgrow9 hat9 hltg9; have hc9 := (HT5.out.after hgrow9 HT5.out.n2).2.1; have hf9 := (HT5.out.after hgrow9 HT5.out.n2).2.2.2))
        all_goals (have HT2 := Lib.hid (HT5.out.more2 hown9 hgrow9 hat9))
        all_goals (clear hown9 hgrow9 hat9 hltg9 hc9 hf9)
        all_goals go_wp2_with fail
        all_goals exact ⟨⟨k + 1, by omega, by go_num, _, by rw [HX2.out]; exact HT2⟩, by simp [intOf]; omega⟩
    · obtain rfl : k = n2 := by omega
      have hkn : ¬ (k : Int) < (k : Int) := by omega
      have hT2 := HT.out
      rw [List.take_of_length_le (by rw [HML.out]; omega)] at hT2
      obtain ⟨o1, o2, o3, o4, o5⟩ := hT2.cells
      have hM4 := (HM3.out wr HT.out.bel).2
      have s1 := hM4.1.1
      have s2 := hM4.1.2
      have t1 := hM4.2.1
      have t2 := hM4.2.2.1
      have HBD := Lib.hid hM4.2.2.2
      obtain ⟨pb, db, rfl⟩ := Two.own_form hT2.rel
      have HT3 := Lib.hid hT2
      clear hT2 HT hM4
      go_wp2_with fail
      obtain ⟨q1, q2⟩ := set2_cells (u := .slice (some ⟨g, 0, none⟩) n1 cap) (v := .slice pb (m.filter (kept m)).length db) s1 s2
      refine bodyPost_ret (v := .agg #[.slice (some ⟨g, 0, none⟩) n1 cap, .slice pb (m.filter (kept m)).length db]) (by simp [results, Try.results82, go_sem, q1, q2]) rfl ?_
      have hl1 := HLL.out
      subst hl1
      exact ⟨_, cap, pb, db, rfl, HT3.out.got (by omega) (by omega) _ _, ((HBD.out.setCell (p := ⟨w.heap.size + 1, 0, none⟩) (Nat.le_succ _) _).setCell (p := ⟨w.heap.size + 1, 1, none⟩) (Nat.le_succ _) _)⟩
set_option maxRecDepth 100000 in
set_option maxHeartbeats 8000000 in
theorem spec_any : GivesN0 29 redcP := by
  intro a1 a2 n1 n2 l m w hz1 hz2 h1 h2
  obtain ⟨fy1, fy2⟩ := fz_box2 w (.slice a1 n1 n1) (.slice a2 n2 n2) (.slice none 0 0) (.slice none 0 0) 33 33
  obtain ⟨hs, x1, x2, y1, y2, hb0⟩ := boxes2 w (.slice a1 n1 n1) (.slice a2 n2 n2) (.slice none 0 0) (.slice none 0 0) 33 33
  have HS := Lib.hid hs
  have H1 := Lib.hid (h1.below hb0)
  have H2 := Lib.hid (h2.below hb0)
  have HLL := Lib.hid h1.1
  have HML := Lib.hid h2.1
  clear h1 h2 hs
  go_enter Try.func29, Try.ntmps29
  go_wp2_with fail
  generalize ((w.alloc (.cells #[.slice a1 n1 n1, .slice a2 n2 n2] 33)).alloc (.cells #[.slice none 0 0, .slice none 0 0] 33)) = W at *
  have lw : w.heap.size < W.heap.size := by rw [HS.out]; omega
  have lw1 : w.heap.size + 1 < W.heap.size := by rw [HS.out]; omega
  refine (l5Good_any a1 a2 n1 n1 n2 n2 l m W H1.out H2.out).mono ?_
  rintro e w1 ⟨rfl, b1⟩
  have r1 := (b1.cell (p := ⟨w.heap.size, 0, none⟩) lw).trans x1
  have r2 := (b1.cell (p := ⟨w.heap.size, 1, none⟩) lw).trans x2
  have s1 := (b1.cell (p := ⟨w.heap.size + 1, 0, none⟩) lw1).trans y1
  have s2 := (b1.cell (p := ⟨w.heap.size + 1, 1, none⟩) lw1).trans y2
  have t1 := fz b1 ⟨w.heap.size + 1, 0, none⟩ lw1 fy1
  have t2 := fz b1 ⟨w.heap.size + 1, 1, none⟩ lw1 fy2
  have HB1 := Lib.hid (hb0.trans (b1.mono hb0.size))
  have K1 := Lib.hid (H1.out.below b1)
  have K2 := Lib.hid (H2.out.below b1)
  have hs1 := b1.size
  clear b1 x1 x2 y1 y2 fy1 fy2 hb0
  cases hg : good l m with
  | false =>
    have HE := Lib.hid (redc_bad hg)
    simp only [Bool.false_and]
    clear hg
    go_wp2_with fail
    obtain ⟨q1, q2⟩ := set2_cells (u := .slice none 0 0) (v := .slice none 0 0) s1 s2
    refine bodyPost_ret (v := .tuple #[.agg #[.slice none 0 0, .slice none 0 0], .bool false]) (by simp [results, Try.results29, go_sem, q1, q2]) rfl ?_
    rw [HE.out]
    exact ⟨none, 0, 0, none, 0, 0, rfl, Got.nil _ _, by omega, by omega, ((HB1.out.setCell (p := ⟨w.heap.size + 1, 0, none⟩) (Nat.le_succ _) _).setCell (p := ⟨w.heap.size + 1, 1, none⟩) (Nat.le_succ _) _)⟩
  | true =>
    cases hc : cyc l m with
    | true =>
      have HE := Lib.hid (redc_cyc hg hc)
      simp only [Bool.not_true, Bool.and_false]
      clear hg hc
      go_wp2_with fail
      obtain ⟨q1, q2⟩ := set2_cells (u := .slice none 0 0) (v := .slice none 0 0) s1 s2
      refine bodyPost_ret (v := .tuple #[.agg #[.slice none 0 0, .slice none 0 0], .bool false]) (by simp [results, Try.results29, go_sem, q1, q2]) rfl ?_
      rw [HE.out]
      exact ⟨none, 0, 0, none, 0, 0, rfl, Got.nil _ _, by omega, by omega, ((HB1.out.setCell (p := ⟨w.heap.size + 1, 0, none⟩) (Nat.le_succ _) _).setCell (p := ⟨w.heap.size + 1, 1, none⟩) (Nat.le_succ _) _)⟩
    | false =>
      have HE := Lib.hid (redc_yes hg hc)
      have HG := Lib.hid hg
      have HC := Lib.hid hc
      have hn1 : n1 ≤ 10 := by rw [← HLL.out]; exact (Table.good_few hg).1
      have hn2 : n2 ≤ 24 := by rw [← HML.out]; exact (Table.good_few hg).2
      simp only [Bool.not_false, Bool.and_true]
      clear hg hc
      go_wp2_with fail
      refine (l5Reduced_any a1 a2 n1 n1 n2 n2 l m w1 HG.out HC.out K1.out K2.out).mono ?_
      rintro e w2 ⟨p1, d1, p2, d2, rfl, hgot, b2⟩
      have s1 := (b2.cell (World.block_lt_of_cell? w1 _ s1)).trans s1
      have s2 := (b2.cell (World.block_lt_of_cell? w1 _ s2)).trans s2
      have t1 := fz b2 ⟨w.heap.size + 1, 0, none⟩ (by show w.heap.size + 1 < _; omega) t1
      have t2 := fz b2 ⟨w.heap.size + 1, 1, none⟩ (by show w.heap.size + 1 < _; omega) t2
      have HB2 := Lib.hid (HB1.out.trans (b2.mono HB1.out.size))
      have HGOT := Lib.hid hgot
      clear b2 hgot r1 r2
      go_wp2_with fail
      obtain ⟨q1, q2⟩ := set2_cells (u := .slice p1 l.length d1) (v := .slice p2 (m.filter (kept m)).length d2) s1 s2
      refine bodyPost_ret (v := .tuple #[.agg #[.slice p1 l.length d1, .slice p2 (m.filter (kept m)).length d2], .bool true]) (by simp [results, Try.results29, go_sem, q1, q2]) rfl ?_
      rw [HE.out]
      have hfm := List.length_filter_le (kept m) m
      rw [HML.out] at hfm
      refine ⟨p1, _, d1, p2, _, d2, rfl, ?_, by show l.length ≤ _; rw [HLL.out]; omega, by show (m.filter (kept m)).length ≤ _; omega, ((HB2.out.setCell (p := ⟨w.heap.size + 1, 0, none⟩) (Nat.le_succ _) _).setCell (p := ⟨w.heap.size + 1, 1, none⟩) (Nat.le_succ _) _)⟩
      exact got_set2 (HGOT.out.base (B' := w1.heap.size) (Nat.le_refl _)) (by omega) (by omega) _ _
end Go.Proofs.Ytlgfaabobpnflaa.RedcS
