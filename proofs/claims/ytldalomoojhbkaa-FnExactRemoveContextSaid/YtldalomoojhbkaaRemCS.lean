/- The model's RemoveContext: a record without a context and its relations. -/
import Derived.Test.YtldalomoojhbkaaTwo
import Derived.Test.YtldalomoojhbkaaGood2
import Derived.Test.YtldalomoojhbkaaGives
import Derived.Deep.DeepCutAuto
import Derived.Deep.RegionLaw
namespace Go.Proofs.Ytldalomoojhbkaa.RemCS
open Go.RowKit Pairs Rec RecEq Find2 GoodM Keep Row2 Copy Two Gives

def notC (z : Int) (p : Int × Int) : Bool := decide (p.1 ≠ z)
def notR (z : Int) (p : Int × Int) : Bool := decide (p.1 ≠ z ∧ p.2 ≠ z)
def remC (z : Int) : RR := fun l m => if good l m = true ∧ (isAt l z).isSome = true then some (l.filter (notC z), m.filter (notR z)) else none
theorem remC_none {z : Int} {l m : List (Int × Int)} (h : ¬ (good l m = true ∧ (isAt l z).isSome = true)) : remC z l m = none := by unfold remC; rw [if_neg h]
theorem remC_some {z : Int} {l m : List (Int × Int)} (h1 : good l m = true) (h2 : (isAt l z).isSome = true) : remC z l m = some (l.filter (notC z), m.filter (notR z)) := by unfold remC; rw [if_pos ⟨h1, h2⟩]
theorem good_few {l m : List (Int × Int)} (h : good l m = true) : l.length ≤ 10 ∧ m.length ≤ 24 := by
  unfold good at h
  simp only [Bool.and_eq_true, decide_eq_true_eq] at h
  exact ⟨h.1.1.1, h.1.1.2⟩
theorem filt_next (q : Int × Int → Bool) {m : List (Int × Int)} {k : Nat} {x y : Int} (hx : m[k]? = some (x, y)) : (m.take (k + 1)).filter q = (m.take k).filter q ++ (if q (x, y) then [(x, y)] else []) := by
  rw [List.take_add_one, hx, List.filter_append]
  cases h : q (x, y) <;> simp [h]
theorem filt_len (q : Int × Int → Bool) (m : List (Int × Int)) (k : Nat) : ((m.take k).filter q).length ≤ k :=
  Nat.le_trans (List.length_filter_le _ _) (by rw [List.length_take]; omega)
theorem new_pair (w : World) (x y : Value) (t : TypeId) : ∀ j u, [x, y][j]? = some u → (w.alloc (.cells #[x, y] t)).drew.cell? ((⟨w.heap.size, 0, none⟩ : Addr).add j) = some u := by
  intro j u hj
  match j, hj with
  | 0, hj =>
    simp at hj
    subst hj
    exact box_first w x y t
  | 1, hj =>
    simp at hj
    subst hj
    exact box_second w x y t
theorem own_drew {w : World} {B e s : Nat} {v : Value} {n : Nat} {xs : List Value} (h : w.ownsRow B e s v n xs) : w.drew.ownsRow B e s v n xs := h
set_option maxRecDepth 100000 in
set_option maxHeartbeats 8000000 in
theorem spec_any (z : Int) : Gives1 37 (.int .i64 z) (remC z) := by
  intro a1 a2 n1 c1 n2 c2 l m w hz1 hz2 h1 h2
  obtain ⟨i1, hi1, hy0, hy1, hy2⟩ := info_parts infoContext
  obtain ⟨i2, hi2, hv0, hv1, hv2⟩ := info_parts infoRelation
  obtain ⟨fy1, fy2⟩ := fz_box2 w (.slice a1 n1 c1) (.slice a2 n2 c2) (.slice none 0 0) (.slice none 0 0) 27 27
  obtain ⟨hs, x1, x2, y1, y2, hb0⟩ := boxes2 w (.slice a1 n1 c1) (.slice a2 n2 c2) (.slice none 0 0) (.slice none 0 0) 27 27
  have HS := Lib.hid hs
  have H1 := Lib.hid (h1.below hb0)
  have H2 := Lib.hid (h2.below hb0)
  clear h1 h2 hs
  go_enter Try.func37, Try.ntmps37
  go_wp2_with fail
  generalize ((w.alloc (.cells #[.slice a1 n1 c1, .slice a2 n2 c2] 27)).alloc (.cells #[.slice none 0 0, .slice none 0 0] 27)) = W at *
  have lw : w.heap.size < W.heap.size := by rw [HS.out]; omega
  have lw1 : w.heap.size + 1 < W.heap.size := by rw [HS.out]; omega
  refine (Good2.l2Good_any a1 a2 n1 c1 n2 c2 l m W H1.out H2.out).mono ?_
  rintro e w1 ⟨rfl, b1⟩
  have r1 := (b1.cell (p := ⟨w.heap.size, 0, none⟩) lw).trans x1
  have r2 := (b1.cell (p := ⟨w.heap.size, 1, none⟩) lw).trans x2
  have s1 := (b1.cell (p := ⟨w.heap.size + 1, 0, none⟩) lw1).trans y1
  have s2 := (b1.cell (p := ⟨w.heap.size + 1, 1, none⟩) lw1).trans y2
  have t1 := fz b1 ⟨w.heap.size + 1, 0, none⟩ lw1 fy1
  have t2 := fz b1 ⟨w.heap.size + 1, 1, none⟩ lw1 fy2
  have HB1 := Lib.hid (hb0.trans (b1.mono hb0.size))
  cases hg : good l m with
  | false =>
    have HE := Lib.hid (remC_none (z := z) (l := l) (m := m) (by rw [hg]; simp))
    clear hg
    go_wp2_with fail
    obtain ⟨q1, q2⟩ := set2_cells (u := .slice none 0 0) (v := .slice none 0 0) s1 s2
    refine bodyPost_ret (v := .tuple #[.agg #[.slice none 0 0, .slice none 0 0], .bool false]) (by simp [results, Try.results37, go_sem, q1, q2]) rfl ?_
    rw [HE.out]
    exact ⟨none, 0, 0, none, 0, 0, rfl, Got.nil _ _, by omega, by omega, ((HB1.out.setCell (p := ⟨w.heap.size + 1, 0, none⟩) (Nat.le_succ _) _).setCell (p := ⟨w.heap.size + 1, 1, none⟩) (Nat.le_succ _) _)⟩
  | true =>
    have HV := Lib.hid hg
    clear hg
    go_wp2_with fail
    refine (l2Find_any a1 a2 n1 c1 n2 c2 l z w1 (by omega) (H1.out.below b1)).mono ?_
    rintro e w2 ⟨rfl, b2⟩
    have b12 := b1.trans (b2.mono b1.size)
    have r1 := (b12.cell (p := ⟨w.heap.size, 0, none⟩) lw).trans x1
    have r2 := (b12.cell (p := ⟨w.heap.size, 1, none⟩) lw).trans x2
    have s1 := (b12.cell (p := ⟨w.heap.size + 1, 0, none⟩) lw1).trans y1
    have s2 := (b12.cell (p := ⟨w.heap.size + 1, 1, none⟩) lw1).trans y2
    have t1 := fz b12 ⟨w.heap.size + 1, 0, none⟩ lw1 fy1
    have t2 := fz b12 ⟨w.heap.size + 1, 1, none⟩ lw1 fy2
    have HB2 := Lib.hid (hb0.trans (b12.mono hb0.size))
    cases ha : isAt l z with
    | none =>
      have HE := Lib.hid (remC_none (z := z) (l := l) (m := m) (by rw [ha]; simp))
      rw [find_none ha]
      clear ha
      go_wp2_with fail
      obtain ⟨q1, q2⟩ := set2_cells (u := .slice none 0 0) (v := .slice none 0 0) s1 s2
      refine bodyPost_ret (v := .tuple #[.agg #[.slice none 0 0, .slice none 0 0], .bool false]) (by simp [results, Try.results37, go_sem, q1, q2]) rfl ?_
      rw [HE.out]
      exact ⟨none, 0, 0, none, 0, 0, rfl, Got.nil _ _, by omega, by omega, ((HB2.out.setCell (p := ⟨w.heap.size + 1, 0, none⟩) (Nat.le_succ _) _).setCell (p := ⟨w.heap.size + 1, 1, none⟩) (Nat.le_succ _) _)⟩
    | some kk =>
      have HE := Lib.hid (remC_some (z := z) HV.out (by rw [ha]; rfl))
      have hk0 : ¬ find l z < 0 := by rw [find_some ha]; omega
      have hn1 : n1 ≤ 10 := by rw [← H1.out.1]; exact (good_few HV.out).1
      have hn2 : n2 ≤ 24 := by rw [← H2.out.1]; exact (good_few HV.out).2
      have ls : W.heap.size ≤ w2.heap.size := b12.size
      have HM3 : Hid (∀ wr, Below w2.heap.size w2 wr → (Holds wr a1 n1 l ∧ Holds wr a2 n2 m) ∧ wr.cell? ⟨w.heap.size, 0, none⟩ = some (.slice a1 n1 c1) ∧ wr.cell? ⟨w.heap.size, 1, none⟩ = some (.slice a2 n2 c2)) := fun wr hwr =>
        have hh := b12.trans (hwr.mono ls)
        ⟨⟨H1.out.below hh, H2.out.below hh⟩, (hh.cell (p := ⟨w.heap.size, 0, none⟩) lw).trans x1, (hh.cell (p := ⟨w.heap.size, 1, none⟩) lw).trans x2⟩
      have HM4 : Hid (∀ wr, Below w2.heap.size w2 wr → (wr.cell? ⟨w.heap.size + 1, 0, none⟩ = some (.slice none 0 0) ∧ wr.cell? ⟨w.heap.size + 1, 1, none⟩ = some (.slice none 0 0)) ∧ wr.frozen? ⟨w.heap.size + 1, 0, none⟩ = false ∧ wr.frozen? ⟨w.heap.size + 1, 1, none⟩ = false ∧ Below w.heap.size w wr) := fun wr hwr =>
        have hh := b12.trans (hwr.mono ls)
        ⟨⟨(hh.cell (p := ⟨w.heap.size + 1, 0, none⟩) lw1).trans y1, (hh.cell (p := ⟨w.heap.size + 1, 1, none⟩) lw1).trans y2⟩, fz hh ⟨w.heap.size + 1, 0, none⟩ lw1 fy1, fz hh ⟨w.heap.size + 1, 1, none⟩ lw1 fy2, hb0.trans (hh.mono hb0.size)⟩
      have hT0 : Two w2 (w2.alloc (.cells #[.slice none 0 0, .slice none 0 0] 27)) w2.heap.size (.slice none 0 0) (.slice none 0 0) ((l.take 0).filter (notC z)) [] :=
        ⟨heap_alloc_new w2 _, World.ownsRow_nil _ _ _ _, World.ownsRow_nil _ _ _ _, (fun g h => by cases h), below_alloc w2 _⟩
      clear ha r1 r2 s1 s2 t1 t2 b1 b2 b12 x1 x2 y1 y2 fy1 fy2
      go_wp2_with fail
      generalize w2.alloc (.cells #[.slice none 0 0, .slice none 0 0] 27) = W3 at *
      go_loopw [7] (fun s7 wr => ∃ k : Nat, k ≤ n1 ∧ s7 = .int .i64 k ∧ ∃ v1, Two w2 wr w2.heap.size v1 (.slice none 0 0) ((l.take k).filter (notC z)) []) (fun s7 _ => n1 - (intOf s7).toNat)
      case atStart => exact ⟨0, Nat.zero_le _, rfl, _, hT0⟩
      case round =>
        obtain ⟨k, hk, rfl, v1, hT⟩ := hrel
        clear hT0
        have p1 := (HM3.out wr hT.bel).2.1
        have p2 := (HM3.out wr hT.bel).2.2
        by_cases hlt : k < n1
        · obtain ⟨b, off, x, y, rfl, hx, e1, e2⟩ := (HM3.out wr hT.bel).1.1.at k hlt
          have HX := Lib.hid (filt_next (notC z) hx)
          have hkn : (k : Int) < (n1 : Int) := by omega
          have hfl := filt_len (notC z) l k
          obtain ⟨o1, o2, o3, o4, o5⟩ := hT.cells
          have HT := Lib.hid hT
          clear hx hT
          by_cases hxz : x = z
          · subst hxz
            have hT2 : Two w2 wr w2.heap.size v1 (.slice none 0 0) ((l.take (k + 1)).filter (notC x)) [] := by
              rw [HX.out, if_neg (by unfold notC; simp), List.append_nil]
              exact HT.out
            have HT2 := Lib.hid hT2
            clear hT2
            go_wp2_with fail
            exact ⟨⟨k + 1, by omega, by go_num, v1, HT2.out⟩, by simp [intOf]; omega⟩
          · have hq : (x == z) = false := by simpa using hxz
            have hq2 : (x != z) = true := by simpa using hxz
            have HO : Hid (notC z (x, y) = true) := decide_eq_true hxz
            have hown := HT.out.ctx
            have hk0' : (0 : Int) ≤ (k : Int) := by omega
            have lgb := o5
            go_wp2_with fail
            go_region_law (first | (refine step_append_lies _ (by rfl) _ _ _ (by rfl) (w2.heap.size + 1) 29 i1 _ 2 16 Try.underlying24 hi1 hy0 hy1 hy2 rfl (by omega) v1 _ _ (by rfl) (own_drew (hown.alloc _)) ⟨wr.heap.size, 0, none⟩ 1 1 [.int .i64 x, .int .i64 y] (by rfl) (by rfl) (new_pair wr _ _ _) (by simp [Value.oneCell']) (by omega) (by unfold maxLen; omega) (by omega) (by simp; omega) (wr.heap.size + 1) (by simp) ?_; intro g cap w9 hown9 hgrow hat hltg; have hc9 := (HT.out.after hgrow (own_ne hown)).1; have hf9 := (HT.out.after hgrow (own_ne hown)).2.2.1))
            all_goals (have HT2 := Lib.hid (HT.out.more1 hown9 hgrow hat))
            all_goals (have HX' : Hid ((l.take (k + 1)).filter (notC z) = (l.take k).filter (notC z) ++ [(x, y)]) := by unfold Hid; rw [HX.out, HO.out, if_pos rfl])
            all_goals (clear hown9 hgrow hat hltg hc9 hf9)
            all_goals go_wp2_with fail
            all_goals exact ⟨⟨k + 1, by omega, by go_num, _, by rw [HX'.out]; exact HT2.out⟩, by simp [intOf]; omega⟩
        · obtain rfl : k = n1 := by omega
          have hkn : ¬ (k : Int) < (k : Int) := by omega
          have hT1 : Two w2 wr w2.heap.size v1 (.slice none 0 0) (l.filter (notC z)) ((m.take 0).filter (notR z)) := by
            have e := hT
            rw [List.take_of_length_le (by rw [(HM3.out wr hT.bel).1.1.1]; omega)] at e
            exact e
          have HT1 := Lib.hid hT1
          clear hT hT1
          generalize hkk : k = n1' at *
          go_wp2_with fail
          go_loopw [8] (fun s8 wq => ∃ j : Nat, j ≤ n2 ∧ s8 = .int .i64 j ∧ ∃ v2, Two w2 wq w2.heap.size v1 v2 (l.filter (notC z)) ((m.take j).filter (notR z))) (fun s8 _ => n2 - (intOf s8).toNat)
          case atStart => exact ⟨0, Nat.zero_le _, rfl, _, HT1.out⟩
          case round =>
            clear p1 p2
            obtain ⟨j, hj, rfl, v2, hT⟩ := hrel
            have p1 := (HM3.out wr hT.bel).2.1
            have p2 := (HM3.out wr hT.bel).2.2
            by_cases hlt2 : j < n2
            · obtain ⟨b, off, x, y, rfl, hx, e1, e2⟩ := (HM3.out wr hT.bel).1.2.at j hlt2
              have HX := Lib.hid (filt_next (notR z) hx)
              have hjn : (j : Int) < (n2 : Int) := by omega
              have hfl := filt_len (notR z) m j
              obtain ⟨o1, o2, o3, o4, o5⟩ := hT.cells
              have HT := Lib.hid hT
              clear hx hT
              by_cases hxz : x = z
              · subst hxz
                have hT2 : Two w2 wr w2.heap.size v1 v2 (l.filter (notC x)) ((m.take (j + 1)).filter (notR x)) := by
                  rw [HX.out, if_neg (by unfold notR; simp), List.append_nil]
                  exact HT.out
                have HT2 := Lib.hid hT2
                clear hT2
                go_wp2_with fail
                exact ⟨⟨j + 1, by omega, by go_num, v2, HT2.out⟩, by simp [intOf]; omega⟩
              · have hq : (x == z) = false := by simpa using hxz
                have hq2 : (x != z) = true := by simpa using hxz
                by_cases hyz : y = z
                · subst hyz
                  have hT2 : Two w2 wr w2.heap.size v1 v2 (l.filter (notC y)) ((m.take (j + 1)).filter (notR y)) := by
                    rw [HX.out, if_neg (by unfold notR; simp), List.append_nil]
                    exact HT.out
                  have HT2 := Lib.hid hT2
                  clear hT2
                  go_wp2_with fail
                  exact ⟨⟨j + 1, by omega, by go_num, v2, HT2.out⟩, by simp [intOf]; omega⟩
                · have hr : (y == z) = false := by simpa using hyz
                  have hr2 : (y != z) = true := by simpa using hyz
                  have HO : Hid (notR z (x, y) = true) := decide_eq_true ⟨hxz, hyz⟩
                  have hown := HT.out.rel
                  go_wp2_with fail
                  go_region_law (first | (refine step_append_lies _ (by rfl) _ _ _ (by rfl) (w2.heap.size + 1) 40 i2 _ 2 16 Try.underlying25 hi2 hv0 hv1 hv2 rfl (by omega) v2 _ _ (by rfl) (own_drew (hown.alloc _)) ⟨wr.heap.size, 0, none⟩ 1 1 [.int .i64 x, .int .i64 y] (by rfl) (by rfl) (new_pair wr _ _ _) (by simp [Value.oneCell']) (by omega) (by unfold maxLen; omega) (by omega) (by simp; omega) (wr.heap.size + 1) (by simp) ?_; intro g cap w9 hown9 hgrow hat hltg; have hc9 := (HT.out.after hgrow (own_ne hown)).2.1; have hf9 := (HT.out.after hgrow (own_ne hown)).2.2.2))
                  all_goals (have HT2 := Lib.hid (HT.out.more2 hown9 hgrow hat))
                  all_goals (have HX' : Hid ((m.take (j + 1)).filter (notR z) = (m.take j).filter (notR z) ++ [(x, y)]) := by unfold Hid; rw [HX.out, HO.out, if_pos rfl])
                  all_goals (clear hown9 hgrow hat hltg hc9 hf9)
                  all_goals go_wp2_with fail
                  all_goals exact ⟨⟨j + 1, by omega, by go_num, _, by rw [HX'.out]; exact HT2.out⟩, by simp [intOf]; omega⟩
            · obtain rfl : j = n2 := by omega
              have hjn : ¬ (j : Int) < (j : Int) := by omega
              have hT2 := hT
              rw [List.take_of_length_le (by rw [(HM3.out wr hT.bel).1.2.1]; omega)] at hT2
              obtain ⟨o1, o2, o3, o4, o5⟩ := hT2.cells
              have hM4 := HM4.out wr hT.bel
              have s1 := hM4.1.1
              have s2 := hM4.1.2
              have t1 := hM4.2.1
              have t2 := hM4.2.2.1
              have HBD := Lib.hid hM4.2.2.2
              obtain ⟨pa, da, rfl⟩ := own_form hT2.ctx
              obtain ⟨pb, db, rfl⟩ := own_form hT2.rel
              have HT := Lib.hid hT2
              have HGE : Hid (w.heap.size + 1 ≤ w2.heap.size) := by unfold Hid; omega
              have HF1 : Hid ((l.filter (notC z)).length ≤ 10) := Nat.le_trans (List.length_filter_le _ _) (good_few HV.out).1
              have HF2 : Hid ((m.filter (notR z)).length ≤ 24) := Nat.le_trans (List.length_filter_le _ _) (good_few HV.out).2
              clear hT hT2 hM4
              go_wp2_with fail
              obtain ⟨q1, q2⟩ := set2_cells (u := .slice pa (l.filter (notC z)).length da) (v := .slice pb (m.filter (notR z)).length db) s1 s2
              refine bodyPost_ret (v := .tuple #[.agg #[.slice pa (l.filter (notC z)).length da, .slice pb (m.filter (notR z)).length db], .bool true]) (by simp [results, Try.results37, go_sem, q1, q2]) rfl ?_
              rw [HE.out]
              exact ⟨pa, _, da, pb, _, db, rfl, HT.out.got HGE.out (by have := HGE.out; omega) _ _, by have := HF1.out; show (l.filter (notC z)).length ≤ _; omega, by have := HF2.out; show (m.filter (notR z)).length ≤ _; omega, ((HBD.out.setCell (p := ⟨w.heap.size + 1, 0, none⟩) (Nat.le_succ _) _).setCell (p := ⟨w.heap.size + 1, 1, none⟩) (Nat.le_succ _) _)⟩
end Go.Proofs.Ytldalomoojhbkaa.RemCS
