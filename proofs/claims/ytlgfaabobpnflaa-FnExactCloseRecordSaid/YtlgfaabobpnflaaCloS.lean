/- The model's CloseRecord. -/
import Derived.Test.YtlgfaabobpnflaaRedcS
namespace Go.Proofs.Ytlgfaabobpnflaa.CloS
open Go.RowKit Pairs Rec RecEq Chain Find2 GoodM Keep GivesI Lows Order Bit Table Idx That IsLater Consist OrdM RedM RedS Row2 Copy Two TwoBs RowTake Gives RedcM RedcS
set_option maxRecDepth 100000 in
set_option maxHeartbeats 8000000 in
theorem spec_any : GivesN0 32 closP := by
  intro a1 a2 n1 n2 l m w hz1 hz2 h1 h2
  obtain ⟨fy1, fy2⟩ := fz_box2 w (.slice a1 n1 n1) (.slice a2 n2 n2) (.slice none 0 0) (.slice none 0 0) 33 33
  obtain ⟨hs, x1, x2, y1, y2, hb0⟩ := boxes2 w (.slice a1 n1 n1) (.slice a2 n2 n2) (.slice none 0 0) (.slice none 0 0) 33 33
  have HS := Lib.hid hs
  have H1 := Lib.hid (h1.below hb0)
  have H2 := Lib.hid (h2.below hb0)
  have HLL := Lib.hid h1.1
  have HML := Lib.hid h2.1
  clear h1 h2 hs
  go_enter Try.func32, Try.ntmps32
  go_wp2_with fail
  generalize ((w.alloc (.cells #[.slice a1 n1 n1, .slice a2 n2 n2] 33)).alloc (.cells #[.slice none 0 0, .slice none 0 0] 33)) = W at *
  have lw : w.heap.size < W.heap.size := by rw [HS.out]; omega
  have lw1 : w.heap.size + 1 < W.heap.size := by rw [HS.out]; omega
  refine (l5Good_any a1 a2 n1 n1 n2 n2 l m W H1.out H2.out).mono ?_
  rintro e w1 ⟨rfl, b1⟩
  have r1 := (b1.cell (p := ⟨w.heap.size, 0, none⟩) lw).trans x1
  have r2 := (b1.cell (p := ⟨w.heap.size, 1, none⟩) lw).trans x2
  have s1 := (b1.cell (p := ⟨w.heap.size + 1, 0, none⟩) lw1).trans y1
  have s2 := (b1.cell (p := ⟨w.heap.size + 1, 1, none⟩) lw1).trans y2
  have t1 := fz b1 ⟨w.heap.size + 1, 0, none⟩ lw1 fy1
  have t2 := fz b1 ⟨w.heap.size + 1, 1, none⟩ lw1 fy2
  have HB1 := Lib.hid (hb0.trans (b1.mono hb0.size))
  have K1 := Lib.hid (H1.out.below b1)
  have K2 := Lib.hid (H2.out.below b1)
  have hs1 := b1.size
  clear b1 x1 x2 y1 y2 fy1 fy2 hb0
  cases hg : good l m with
  | false =>
    have HE := Lib.hid (clos_bad hg)
    simp only [Bool.false_and]
    clear hg
    go_wp2_with fail
    obtain ⟨q1, q2⟩ := set2_cells (u := .slice none 0 0) (v := .slice none 0 0) s1 s2
    refine bodyPost_ret (v := .tuple #[.agg #[.slice none 0 0, .slice none 0 0], .bool false]) (by simp [results, Try.results32, go_sem, q1, q2]) rfl ?_
    rw [HE.out]
    exact ⟨none, 0, 0, none, 0, 0, rfl, Got.nil _ _, by omega, by omega, ((HB1.out.setCell (p := ⟨w.heap.size + 1, 0, none⟩) (Nat.le_succ _) _).setCell (p := ⟨w.heap.size + 1, 1, none⟩) (Nat.le_succ _) _)⟩
  | true =>
    cases hc : cyc l m with
    | true =>
      have HE := Lib.hid (clos_cyc hg hc)
      simp only [Bool.not_true, Bool.and_false]
      clear hg hc
      go_wp2_with fail
      obtain ⟨q1, q2⟩ := set2_cells (u := .slice none 0 0) (v := .slice none 0 0) s1 s2
      refine bodyPost_ret (v := .tuple #[.agg #[.slice none 0 0, .slice none 0 0], .bool false]) (by simp [results, Try.results32, go_sem, q1, q2]) rfl ?_
      rw [HE.out]
      exact ⟨none, 0, 0, none, 0, 0, rfl, Got.nil _ _, by omega, by omega, ((HB1.out.setCell (p := ⟨w.heap.size + 1, 0, none⟩) (Nat.le_succ _) _).setCell (p := ⟨w.heap.size + 1, 1, none⟩) (Nat.le_succ _) _)⟩
    | false =>
      have HG := Lib.hid hg
      have HC := Lib.hid hc
      have hn1 : n1 ≤ 10 := by rw [← HLL.out]; exact (Table.good_few hg).1
      have hn2 : n2 ≤ 24 := by rw [← HML.out]; exact (Table.good_few hg).2
      simp only [Bool.not_false, Bool.and_true]
      clear hg hc
      go_wp2_with fail
      refine (later_any a1 a2 n1 n1 n2 n2 l m w1 HG.out K1.out K2.out).mono ?_
      rintro e w3 ⟨gt, T, rfl, hge, hT, TT, b3⟩
      have HTT := Lib.hid TT
      have HLT : Hid (T.length = n1) := TT.len
      have r1 := (b3.cell (World.block_lt_of_cell? w1 _ r1)).trans r1
      have r2 := (b3.cell (World.block_lt_of_cell? w1 _ r2)).trans r2
      have s1 := (b3.cell (World.block_lt_of_cell? w1 _ s1)).trans s1
      have s2 := (b3.cell (World.block_lt_of_cell? w1 _ s2)).trans s2
      have t1 := fz b3 ⟨w.heap.size + 1, 0, none⟩ (by show w.heap.size + 1 < _; omega) t1
      have t2 := fz b3 ⟨w.heap.size + 1, 1, none⟩ (by show w.heap.size + 1 < _; omega) t2
      have HB3 := Lib.hid (HB1.out.trans (b3.mono HB1.out.size))
      have M1 := Lib.hid (K1.out.below b3)
      have hs3 := b3.size
      have HT3 := Lib.hid hT
      have HM3 : Hid (∀ wr, Below w3.heap.size w3 wr → (Holds wr a1 n1 l ∧ wr.cell? ⟨w.heap.size, 0, none⟩ = some (.slice a1 n1 n1) ∧ wr.cell? ⟨w.heap.size, 1, none⟩ = some (.slice a2 n2 n2)) ∧ (wr.cell? ⟨w.heap.size + 1, 0, none⟩ = some (.slice none 0 0) ∧ wr.cell? ⟨w.heap.size + 1, 1, none⟩ = some (.slice none 0 0)) ∧ wr.frozen? ⟨w.heap.size + 1, 0, none⟩ = false ∧ wr.frozen? ⟨w.heap.size + 1, 1, none⟩ = false ∧ Below w.heap.size w wr) := fun wr hwr =>
        ⟨⟨M1.out.below hwr, (hwr.cell (World.block_lt_of_cell? w3 _ r1)).trans r1, (hwr.cell (World.block_lt_of_cell? w3 _ r2)).trans r2⟩, ⟨(hwr.cell (World.block_lt_of_cell? w3 _ s1)).trans s1, (hwr.cell (World.block_lt_of_cell? w3 _ s2)).trans s2⟩, fz hwr ⟨w.heap.size + 1, 0, none⟩ (by show w.heap.size + 1 < _; omega) t1, fz hwr ⟨w.heap.size + 1, 1, none⟩ (by show w.heap.size + 1 < _; omega) t2, HB3.out.trans (hwr.mono HB3.out.size)⟩
      obtain ⟨i1, hi1, hy0, hy1, hy2⟩ := info_parts infoContext
      obtain ⟨i2, hi2, hv0, hv1, hv2⟩ := info_parts infoRelation
      have hem := CloneC.empty_own (T := 69) w3
      have HA1 := Lib.hid (M1.out.below (below_alloc w3 (.cells #[] 69)))
      have p1 := (HM3.out _ (below_alloc w3 (.cells #[] 69))).1.2.1
      clear hT TT b3 r1 r2 s1 s2 t1 t2
      go_wp2_with (at_builtin; refine AppH.wpList_append_holds rfl _ _ 30 rfl w3.heap.size 69 i1 (.agg #[.int .i64 0, .int .i64 0]) Try.underlying30 hi1 hy0 hy1 hy2 rfl w3.heap.size 0 0 [] rfl hem a1 n1 n1 l rfl HA1.out (by omega) (by simp) (w3.heap.size + 1) (by simp) ?_; intro g cap w4 hown' hgrow hat hltg)
      have hb4 : Below w3.heap.size w3 w4 := (below_alloc w3 _).grown hgrow (by simp) (fun k hk => CloneC.own_here hk)
      have HT0 : Hid (TwoB w3 (w4.alloc (.cells #[.slice (some ⟨g, 0, none⟩) (0 + n1) cap, .slice none 0 0] 33)) w4.heap.size (.slice (some ⟨g, 0, none⟩) (0 + n1) cap) (.slice none 0 0) l ((l.take 0).flatMap (clo l m))) :=
        twoB_new (by rw [HLL.out]; simpa using hown') hb4
      rw [Nat.zero_add] at HT0
      clear hem hown' hgrow hat hltg hb4 p1
      go_loopw [6] (fun s6 wr => ∃ k : Nat, k ≤ n1 ∧ s6 = .int .i64 k ∧ ∃ v2, Hid (TwoB w3 wr w4.heap.size (.slice (some ⟨g, 0, none⟩) n1 cap) v2 l ((l.take k).flatMap (clo l m)))) (fun s6 _ => n1 - (intOf s6).toNat)
      case atStart => exact ⟨0, Nat.zero_le _, rfl, _, HT0⟩
      case round =>
        clear HT0
        obtain ⟨k, hk, rfl, v2, HT⟩ := hrel
        by_cases hlt : k < n1
        · have hkn : (k : Int) < (n1 : Int) := by omega
          have hk0 : (0 : Int) ≤ (k : Int) := by omega
          obtain ⟨b, off, x, y, rfl, hx, e1, e2⟩ := M1.out.at k hlt
          have HX := Lib.hid hx
          have HIX := Lib.hid (num_at HG.out hx)
          have ht := List.getElem?_eq_getElem (show k < T.length by rw [HLT.out]; exact hlt)
          generalize T[k]'_ = t at *
          have ht10 := bd hn1 (HTT.out.bd k t ht)
          have HTI := Lib.hid ht
          have hcl := clos_len l m k
          rw [HLL.out] at hcl
          have hcl2 : k * n1 ≤ 100 := Nat.le_trans (Nat.mul_le_mul (by omega : k ≤ 10) hn1) (by omega)
          have HE1 := Lib.hid e1
          have HI0 : Hid (TwoB w3 wr w4.heap.size (.slice (some ⟨g, 0, none⟩) n1 cap) v2 l ((l.take k).flatMap (clo l m) ++ clo (l.take 0) m (x, y))) := by
            have e : clo (l.take 0) m (x, y) = [] := rfl
            unfold Hid
            rw [e, List.append_nil]
            exact HT.out
          have HTC : Hid (∀ X, Below w3.heap.size w3 X → X.cell? ⟨gt, k, none⟩ = some (.int .i64 (t : Int)) ∧ X.cell? ⟨b, off + k * 2, none⟩ = some (.int .i64 x)) := fun X hX => by
            refine ⟨?_, (hX.cell (World.block_lt_of_cell? w3 _ e1)).trans e1⟩
            obtain ⟨bb, oo, zz, hp, hzz, e3⟩ := (HT3.out.below hX).at k hlt
            obtain ⟨t', ht', rfl⟩ := row_at hzz
            obtain rfl : t' = t := by rw [ht] at ht'; exact (Option.some.inj ht').symm
            injection hp with hp
            injection hp with hp1 hp2
            subst hp1 hp2
            rw [Nat.zero_add] at e3
            exact e3
          clear hx ht HT e1 e2
          go_wp2_with fail
          go_loopw [7] (fun s7 wq => ∃ j : Nat, j ≤ n1 ∧ s7 = .int .i64 j ∧ ∃ v2, Hid (TwoB w3 wq w4.heap.size (.slice (some ⟨g, 0, none⟩) n1 cap) v2 l ((l.take k).flatMap (clo l m) ++ clo (l.take j) m (x, y)))) (fun s7 _ => n1 - (intOf s7).toNat)
          case atStart => exact ⟨0, Nat.zero_le _, rfl, _, HI0⟩
          case round =>
            clear HI0
            obtain ⟨j, hj, rfl, v2, HI⟩ := hrel
            by_cases hltj : j < n1
            · have hjn : (j : Int) < (n1 : Int) := by omega
              have hj0 : (0 : Int) ≤ (j : Int) := by omega
              obtain ⟨b', off', u, v, hp', hu, e1, e2⟩ := (HM3.out wr HI.out.bel).1.1.at j hltj
              injection hp' with hp'
              injection hp' with hp1 hp2
              subst hp1 hp2
              have HU := Lib.hid (clo_next (m := m) (p := (x, y)) hu)
              have hcl3 := clo_len l m (x, y) j
              have HBT : Hid (t.testBit j = later m x u) := tbit HG.out HLL.out HTT.out HIX.out (num_at HG.out hu) HTI.out
              obtain ⟨o1, o2, o3, o4, o5⟩ := HI.out.cells
              obtain ⟨c1, c2⟩ := HTC.out wr HI.out.bel
              have q1 := (HM3.out wr HI.out.bel).1.2.1
              have HTB := Lib.hid (fun W => HBT.out ▸ l4Bit_any t j ht10 (by omega) W)
              clear hu
              go_wp2_with fail
              refine (HTB.out _).mono ?_
              rintro e w9 ⟨rfl, hw9⟩
              have hw9' := hw9.symm
              subst hw9'
              clear hw9
              cases hq : later m x u with
              | true =>
                have HU2 := HU.out
                rw [hq, if_pos rfl] at HU2
                have hlen : ((l.take k).flatMap (clo l m) ++ clo (l.take j) m (x, y)).length ≤ 110 := by rw [List.length_append]; omega
                have HUL : Hid ((l.take k).flatMap (clo l m) ++ clo (l.take (j + 1)) m (x, y) = ((l.take k).flatMap (clo l m) ++ clo (l.take j) m (x, y)) ++ [(x, u)]) := by unfold Hid; rw [HU2, List.append_assoc]
                clear hq HU HU2
                generalize (l.take k).flatMap (clo l m) ++ clo (l.take j) m (x, y) = L at *
                have hown := HI.out.rel
                have hge := HI.out.bel.size
                go_wp2_with fail
                go_region_law (first | (refine step_append_lies _ (by rfl) _ _ _ (by rfl) w3.heap.size 89 i2 _ 2 16 Try.underlying31 hi2 hv0 hv1 hv2 rfl (by omega) v2 _ _ (by rfl) (own_drew (hown.alloc _)) ⟨wr.heap.size, 0, none⟩ 1 1 [.int .i64 x, .int .i64 u] (by rfl) (by rfl) (new_pair wr _ _ _) (by simp [Value.oneCell']) (by omega) (by unfold maxLen; omega) (by omega) (by simp; omega) (wr.heap.size + 1) (by simp) ?_; intro g9 cap9 w9 hown9 hgrow9 hat9 hltg9; have hc9 := (HI.out.after hgrow9 HI.out.n2).2.1; have hf9 := (HI.out.after hgrow9 HI.out.n2).2.2.2))
                all_goals (have HI2 := Lib.hid (HI.out.more2 hown9 hgrow9 hat9))
                all_goals rw [← HUL.out] at HI2
                all_goals (clear hown9 hgrow9 hat9 hltg9 hc9 hf9)
                all_goals go_wp2_with fail
                all_goals exact ⟨⟨j + 1, by omega, by go_num, _, HI2⟩, by simp [intOf]; omega⟩
              | false =>
                have HU2 := HU.out
                rw [hq, if_neg (by simp), List.append_nil] at HU2
                rw [← HU2] at HI
                clear hq HU HU2
                go_wp2_with fail
                exact ⟨⟨j + 1, by omega, by go_num, _, HI⟩, by simp [intOf]; omega⟩
            · obtain rfl : j = n1 := by omega
              have hjn : ¬ (j : Int) < (j : Int) := by omega
              have hT2 := HI.out
              rw [show l.take j = l from List.take_of_length_le (by rw [HLL.out]; exact Nat.le_refl _), ← clos_next HX.out] at hT2
              have HT2 := Lib.hid hT2
              clear hT2
              go_wp2_with fail
              exact ⟨⟨k + 1, by omega, by go_num, _, HT2⟩, by simp [intOf]; omega⟩
        · obtain rfl : k = n1 := by omega
          have hkn : ¬ (k : Int) < (k : Int) := by omega
          have hT2 := HT.out
          rw [List.take_of_length_le (by rw [HLL.out]; exact Nat.le_refl _)] at hT2
          have HT2 := Lib.hid (show TwoB w3 wr w4.heap.size (.slice (some ⟨g, 0, none⟩) k cap) v2 l (clos l m) from hT2)
          obtain ⟨o1, o2, o3, o4, o5⟩ := hT2.cells
          obtain ⟨⟨_, q1, q2⟩, ⟨s1, s2⟩, t1, t2, hbd⟩ := HM3.out wr HT.out.bel
          have HBD := Lib.hid hbd
          have hcl := clos_len l m k
          rw [show l.take k = l from List.take_of_length_le (by rw [HLL.out]; exact Nat.le_refl _), HLL.out] at hcl
          have hcl2 : k * k ≤ 100 := Nat.le_trans (Nat.mul_le_mul hn1 hn1) (by omega)
          have hlen : (clos l m).length ≤ 100 := Nat.le_trans hcl hcl2
          have HYES := Lib.hid (fun h => clos_yes HG.out HC.out (h : good l (clos l m) = true))
          have HBIG := Lib.hid (fun h => clos_big HG.out HC.out (h : good l (clos l m) = false))
          have hge3 := HT.out.bel.size
          clear hT2 HT hbd hcl hcl2
          generalize clos l m = M at *
          obtain ⟨p2, d2, rfl⟩ := Two.own_form HT2.out.rel
          have hc1 : Holds wr (some ⟨g, 0, none⟩) k l := by have h := HT2.out.ctx; rw [HLL.out] at h; exact Keep.holds_own h
          have hc2 : Holds wr p2 M.length M := Keep.holds_own HT2.out.rel
          have HC1 := Lib.hid hc1
          have HC2 := Lib.hid hc2
          clear hc1 hc2
          go_wp2_with fail
          refine (Good2.l2Good_any (some ⟨g, 0, none⟩) p2 k cap M.length d2 l M wr HC1.out HC2.out).mono ?_
          rintro e w5 ⟨rfl, b5⟩
          have s1 := (b5.cell (World.block_lt_of_cell? wr _ s1)).trans s1
          have s2 := (b5.cell (World.block_lt_of_cell? wr _ s2)).trans s2
          have t1 := fz b5 ⟨w.heap.size + 1, 0, none⟩ (by show w.heap.size + 1 < _; omega) t1
          have t2 := fz b5 ⟨w.heap.size + 1, 1, none⟩ (by show w.heap.size + 1 < _; omega) t2
          have HB5 := Lib.hid (HBD.out.trans (b5.mono HBD.out.size))
          have HT5 := Lib.hid (HT2.out.drawn b5)
          have hl1 := HLL.out
          obtain ⟨o1, o2, o3, o4, o5⟩ := HT5.out.cells
          clear b5
          cases hgc : good l M with
          | false =>
            have HE := Lib.hid (HBIG.out hgc)
            clear hgc
            go_wp2_with fail
            obtain ⟨q1, q2⟩ := set2_cells (u := .slice none 0 0) (v := .slice none 0 0) s1 s2
            refine bodyPost_ret (v := .tuple #[.agg #[.slice none 0 0, .slice none 0 0], .bool false]) (by simp [results, Try.results32, go_sem, q1, q2]) rfl ?_
            rw [HE.out]
            exact ⟨none, 0, 0, none, 0, 0, rfl, Got.nil _ _, by omega, by omega, ((HB5.out.setCell (p := ⟨w.heap.size + 1, 0, none⟩) (Nat.le_succ _) _).setCell (p := ⟨w.heap.size + 1, 1, none⟩) (Nat.le_succ _) _)⟩
          | true =>
            have HE := Lib.hid (HYES.out hgc)
            clear hgc
            go_wp2_with fail
            obtain ⟨q1, q2⟩ := set2_cells (u := .slice (some ⟨g, 0, none⟩) k cap) (v := .slice p2 M.length d2) s1 s2
            refine bodyPost_ret (v := .tuple #[.agg #[.slice (some ⟨g, 0, none⟩) k cap, .slice p2 M.length d2], .bool true]) (by simp [results, Try.results32, go_sem, q1, q2]) rfl ?_
            rw [HE.out]
            subst hl1
            exact ⟨_, _, cap, p2, _, d2, rfl, HT5.out.got (by omega) (by omega) _ _, by omega, by omega, ((HB5.out.setCell (p := ⟨w.heap.size + 1, 0, none⟩) (Nat.le_succ _) _).setCell (p := ⟨w.heap.size + 1, 1, none⟩) (Nat.le_succ _) _)⟩
end Go.Proofs.Ytlgfaabobpnflaa.CloS
