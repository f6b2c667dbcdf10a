/- The program's CloseRecord: a record with all pairs of contexts of which the first one is later. -/
import Derived.Test.YtlgfaabobpnflaaTwoBs
import Derived.Test.YtlgfaabobpnflaaCloneC
import Derived.Test.YtlgfaabobpnflaaRedcM
import Derived.Test.YtlgfaabobpnflaaIfV
import Derived.Test.YtlgfaabobpnflaaConsistA
import Derived.Test.YtlgfaabobpnflaaElems
namespace Go.Proofs.Ytlgfaabobpnflaa.CloI
open Go.RowKit Pairs Rec RecEq Chain Find2 GoodM Keep GivesI Lows Order Idx That IsLater Consist OrdM Row2 Copy Two TwoBs RowTake Gives RedcM
/-- The record under way, and the context a in its box. -/
structure In (E wr : World) (gb : Nat) (v1 v2 : Value) (L1 L2 : List (Int × Int)) (ab : Nat) (x : Int) : Prop where
  two : TwoB E wr gb v1 v2 L1 L2
  cell : wr.cell? ⟨ab, 0, none⟩ = some (.int .i64 x)
  ne : v2.ownBlock ≠ some ab
  nb : ab ≠ gb
theorem In.drawn {E wr wq : World} {gb : Nat} {v1 v2 : Value} {L1 L2 : List (Int × Int)} {ab : Nat} {x : Int} (h : In E wr gb v1 v2 L1 L2 ab x) (hb : Below wr.heap.size wr wq) : In E wq gb v1 v2 L1 L2 ab x :=
  ⟨h.two.drawn hb, (hb.cell (World.block_lt_of_cell? wr _ h.cell)).trans h.cell, h.ne, h.nb⟩
theorem In.app {E wr X w1 : World} {gb : Nat} {v1 v2 : Value} {L1 L2 : List (Int × Int)} {ab : Nat} {z : Int} (h : In E wr gb v1 v2 L1 L2 ab z) (hX : Below wr.heap.size wr X) {x y : Int} {g cap : Nat}
    (hown : w1.ownsRow E.heap.size 89 2 (.slice (some ⟨g, 0, none⟩) (L2.length + 1) cap) (L2.length + 1) (flat L2 ++ [.int .i64 x, .int .i64 y])) (hgrow : X.grownBy w1 v2.ownBlock) (hat : v2.ownBlock = some g ∨ wr.heap.size ≤ g) :
    In E (w1.setCell ⟨gb, 1, none⟩ (.slice (some ⟨g, 0, none⟩) (L2.length + 1) cap)) gb v1 (.slice (some ⟨g, 0, none⟩) (L2.length + 1) cap) L1 (L2 ++ [(x, y)]) ab z := by
  have hlt : ab < wr.heap.size := World.block_lt_of_cell? wr _ h.cell
  refine ⟨h.two.app2 hX hown hgrow hat, ?_, ?_, h.nb⟩
  · rw [World.cell?_setCell_other _ _ _ _ (by intro e; injection e with e; exact h.nb e.symm)]
    have hb : w1.heap[ab]? = wr.heap[ab]? := (hgrow.block ab (Nat.lt_of_lt_of_le hlt hX.size) (Ne.symm h.ne)).trans (hX.block ab hlt)
    have hc := h.cell
    simp only [World.cell?] at hc ⊢
    rw [hb]
    exact hc
  · intro e
    have e' : g = ab := by simpa [Value.ownBlock] using e
    subst e'
    rcases hat with hat | hat
    · exact h.ne hat
    · omega
theorem In.start {E wr : World} {gb : Nat} {v1 v2 : Value} {L1 L2 : List (Int × Int)} (h : TwoB E wr gb v1 v2 L1 L2) (x y : Int) (T : TypeId) : In E (wr.alloc (.cells #[.int .i64 x, .int .i64 y] T)) gb v1 v2 L1 L2 wr.heap.size x :=
  ⟨h.drawn (below_alloc wr _), box_first wr _ _ T, fun e => by have := (h.rel.lt _ e).2; omega, fun e => by have := h.cells.2.2.2.2; omega⟩
set_option maxRecDepth 100000 in
set_option maxHeartbeats 8000000 in
theorem impl_any : GivesN0 33 closP := by
  intro a1 a2 n1 n2 l m w hz1 hz2 h1 h2
  obtain ⟨i2, hi2, hv0, hv1, hv2⟩ := info_parts infoRelation
  obtain ⟨fy1, fy2⟩ := fz_box2 w (.slice a1 n1 n1) (.slice a2 n2 n2) (.slice none 0 0) (.slice none 0 0) 33 33
  obtain ⟨hs, x1, x2, y1, y2, hb0⟩ := boxes2 w (.slice a1 n1 n1) (.slice a2 n2 n2) (.slice none 0 0) (.slice none 0 0) 33 33
  have HS := Lib.hid hs
  have H1 := Lib.hid (h1.below hb0)
  have H2 := Lib.hid (h2.below hb0)
  have HL1 := Lib.hid h1.1
  have HL2 := Lib.hid h2.1
  clear h1 h2 hs
  go_enter Try.func33, Try.ntmps33
  go_wp2_with fail
  generalize ((w.alloc (.cells #[.slice a1 n1 n1, .slice a2 n2 n2] 33)).alloc (.cells #[.slice none 0 0, .slice none 0 0] 33)) = W at *
  have lw : w.heap.size < W.heap.size := by rw [HS.out]; omega
  have lw1 : w.heap.size + 1 < W.heap.size := by rw [HS.out]; omega
  refine (Consist.impl_any a1 a2 n1 n1 n2 n2 l m W hz1 hz2 H1.out H2.out).mono ?_
  rintro e w1 ⟨rfl, b1⟩
  have r1 := (b1.cell (p := ⟨w.heap.size, 0, none⟩) lw).trans x1
  have r2 := (b1.cell (p := ⟨w.heap.size, 1, none⟩) lw).trans x2
  have s1 := (b1.cell (p := ⟨w.heap.size + 1, 0, none⟩) lw1).trans y1
  have s2 := (b1.cell (p := ⟨w.heap.size + 1, 1, none⟩) lw1).trans y2
  have t1 := fz b1 ⟨w.heap.size + 1, 0, none⟩ lw1 fy1
  have t2 := fz b1 ⟨w.heap.size + 1, 1, none⟩ lw1 fy2
  have hs1 := b1.size
  have HB1 := Lib.hid (hb0.trans (b1.mono hb0.size))
  have K1 := Lib.hid (H1.out.below b1)
  have K2 := Lib.hid (H2.out.below b1)
  clear b1 x1 x2 y1 y2 fy1 fy2 hb0
  cases hg : good l m with
  | false =>
    have HE := Lib.hid (clos_bad hg)
    rw [cons_no hg]
    clear hg
    go_wp2_with fail
    obtain ⟨q1, q2⟩ := set2_cells (u := .slice none 0 0) (v := .slice none 0 0) s1 s2
    refine bodyPost_ret (v := .tuple #[.agg #[.slice none 0 0, .slice none 0 0], .bool false]) (by simp [results, Try.results33, go_sem, q1, q2]) rfl ?_
    rw [HE.out]
    exact ⟨none, 0, 0, none, 0, 0, rfl, Got.nil _ _, by omega, by omega, ((HB1.out.setCell (p := ⟨w.heap.size + 1, 0, none⟩) (Nat.le_succ _) _).setCell (p := ⟨w.heap.size + 1, 1, none⟩) (Nat.le_succ _) _)⟩
  | true =>
    cases hc : (l.any fun p => later m p.1 p.1) with
    | true =>
      have HE := Lib.hid (clos_cyc hg hc)
      rw [cons_yes hg, hc]
      clear hg hc
      go_wp2_with fail
      obtain ⟨q1, q2⟩ := set2_cells (u := .slice none 0 0) (v := .slice none 0 0) s1 s2
      refine bodyPost_ret (v := .tuple #[.agg #[.slice none 0 0, .slice none 0 0], .bool false]) (by simp [results, Try.results33, go_sem, q1, q2]) rfl ?_
      rw [HE.out]
      exact ⟨none, 0, 0, none, 0, 0, rfl, Got.nil _ _, by omega, by omega, ((HB1.out.setCell (p := ⟨w.heap.size + 1, 0, none⟩) (Nat.le_succ _) _).setCell (p := ⟨w.heap.size + 1, 1, none⟩) (Nat.le_succ _) _)⟩
    | false =>
      have HG := Lib.hid hg
      have HC := Lib.hid hc
      have hn1 : n1 ≤ 10 := by rw [← HL1.out]; exact (Table.good_few hg).1
      rw [cons_yes hg, hc]
      clear hg hc
      go_wp2_with fail
      refine (orderOf_any a1 a2 n1 n1 n2 n2 l m w1 HG.out K1.out K2.out).mono ?_
      rintro e w2 ⟨bx, rfl, ho, b2⟩
      have r1 := (b2.cell (World.block_lt_of_cell? w1 _ r1)).trans r1
      have r2 := (b2.cell (World.block_lt_of_cell? w1 _ r2)).trans r2
      have s1 := (b2.cell (World.block_lt_of_cell? w1 _ s1)).trans s1
      have s2 := (b2.cell (World.block_lt_of_cell? w1 _ s2)).trans s2
      have t1 := fz b2 ⟨w.heap.size + 1, 0, none⟩ (by show w.heap.size + 1 < _; omega) t1
      have t2 := fz b2 ⟨w.heap.size + 1, 1, none⟩ (by show w.heap.size + 1 < _; omega) t2
      have HB2 := Lib.hid (HB1.out.trans (b2.mono HB1.out.size))
      have HO := Lib.hid ho
      have M1 := Lib.hid (K1.out.below b2)
      have M2 := Lib.hid (K2.out.below b2)
      have hs2 := b2.size
      clear ho b2
      go_wp2_with fail
      refine (CloneC.clone_any a1 n1 n1 l hz1 w2 M1.out).mono ?_
      rintro e w3 ⟨p1, d1, rfl, hown, b3⟩
      have HM3 : Hid (∀ wr, Below w2.heap.size w2 wr → ((Holds wr a1 n1 l ∧ IsOrd wr l m bx) ∧ wr.cell? ⟨w.heap.size, 0, none⟩ = some (.slice a1 n1 n1) ∧ wr.cell? ⟨w.heap.size, 1, none⟩ = some (.slice a2 n2 n2)) ∧ (wr.cell? ⟨w.heap.size + 1, 0, none⟩ = some (.slice none 0 0) ∧ wr.cell? ⟨w.heap.size + 1, 1, none⟩ = some (.slice none 0 0)) ∧ wr.frozen? ⟨w.heap.size + 1, 0, none⟩ = false ∧ wr.frozen? ⟨w.heap.size + 1, 1, none⟩ = false ∧ Below w.heap.size w wr) := fun wr hwr =>
        ⟨⟨⟨M1.out.below hwr, HO.out.below hwr⟩, (hwr.cell (World.block_lt_of_cell? w2 _ r1)).trans r1, (hwr.cell (World.block_lt_of_cell? w2 _ r2)).trans r2⟩, ⟨(hwr.cell (World.block_lt_of_cell? w2 _ s1)).trans s1, (hwr.cell (World.block_lt_of_cell? w2 _ s2)).trans s2⟩, fz hwr ⟨w.heap.size + 1, 0, none⟩ (by show w.heap.size + 1 < _; omega) t1, fz hwr ⟨w.heap.size + 1, 1, none⟩ (by show w.heap.size + 1 < _; omega) t2, HB2.out.trans (hwr.mono HB2.out.size)⟩
      have HT0 : Hid (TwoB w2 (w3.alloc (.cells #[.slice p1 n1 d1, .slice none 0 0] 33)) w3.heap.size (.slice p1 n1 d1) (.slice none 0 0) l ((l.take 0).flatMap (clo l m))) :=
        twoB_new (by rw [HL1.out]; exact hown) b3
      have hb3a := b3.trans ((below_alloc w3 (.cells #[.slice p1 n1 d1, .slice none 0 0] 33)).mono b3.size)
      have f1 := (HM3.out _ hb3a).1.2.1
      clear hown s1 s2 t1 t2 r1 r2 b3 hb3a
      go_wp2_with fail
      go_loopw [29] (fun s29 wr => ∃ k : Nat, k ≤ n1 ∧ s29 = .int .i64 k ∧ ∃ v2, Hid (TwoB w2 wr w3.heap.size (.slice p1 n1 d1) v2 l ((l.take k).flatMap (clo l m)))) (fun s29 _ => n1 - (intOf s29).toNat)
      case atStart => exact ⟨0, Nat.zero_le _, rfl, _, HT0⟩
      case round =>
        clear HT0 f1
        obtain ⟨k, hk, rfl, v2, HT⟩ := hrel
        have p1' := (HM3.out wr HT.out.bel).1.2.1
        by_cases hlt : k < n1
        · have hkn : (k : Int) < (n1 : Int) := by omega
          obtain ⟨b, off, x, y, rfl, hx, e1, e2⟩ := (HM3.out wr HT.out.bel).1.1.1.at k hlt
          have HX := Lib.hid hx
          have hxr := nums HG.out hx
          have hxk : x ∈ keys l := by
            rw [← isAt_keys]
            rw [num_at HG.out hx]
            rfl
          have HXK := Lib.hid hxk
          have hcl := clos_len l m k
          have HI0 : Hid (In w2 (wr.alloc (.cells #[.int .i64 x, .int .i64 y] 69)) w3.heap.size (.slice p1 n1 d1) v2 l ((l.take k).flatMap (clo l m) ++ clo (l.take 0) m (x, y)) wr.heap.size x) := by
            have h := In.start HT.out x y 69
            have e : clo (l.take 0) m (x, y) = [] := rfl
            unfold Hid
            rw [e, List.append_nil]
            exact h
          have p1z := (HM3.out _ HI0.out.two.bel).1.2.1
          rw [HL1.out] at hcl
          have hcl2 : k * n1 ≤ 100 := Nat.le_trans (Nat.mul_le_mul (by omega : k ≤ 10) hn1) (by omega)
          clear hx hxk HT
          go_wp2_with fail
          generalize wr.alloc (.cells #[.int .i64 x, .int .i64 y] 69) = Z at *
          generalize wr.heap.size = ab at *
          clear p1' e1 e2
          go_loopw [36] (fun s36 wq => ∃ j : Nat, j ≤ n1 ∧ s36 = .int .i64 j ∧ ∃ v2, Hid (In w2 wq w3.heap.size (.slice p1 n1 d1) v2 l ((l.take k).flatMap (clo l m) ++ clo (l.take j) m (x, y)) ab x)) (fun s36 _ => n1 - (intOf s36).toNat)
          case atStart => exact ⟨0, Nat.zero_le _, rfl, _, HI0⟩
          case round =>
            clear HI0
            obtain ⟨j, hj, rfl, v2, HI⟩ := hrel
            by_cases hltj : j < n1
            · have hjn : (j : Int) < (n1 : Int) := by omega
              obtain ⟨b', off', u, t, hp', hu, e1, e2⟩ := (HM3.out wr HI.out.two.bel).1.1.1.at j hltj
              injection hp' with hp'
              injection hp' with hp1 hp2
              subst hp1 hp2
              have hur := nums HG.out hu
              have HU := Lib.hid (clo_next (m := m) (p := (x, y)) hu)
              have hcl3 := clo_len l m (x, y) j
              have HIZ := Lib.hid (HI.out.drawn (below_alloc wr (.cells #[.int .i64 u, .int .i64 t] 69)))
              have u1 := box_first wr (.int .i64 u) (.int .i64 t) 69
              have hzc := HIZ.out.cell
              have HOZ := Lib.hid (HM3.out _ HIZ.out.two.bel).1.1.2
              obtain ⟨o1, o2, o3, o4, o5⟩ := HIZ.out.two.cells
              have HZB := Lib.hid (below_alloc wr (.cells #[.int .i64 u, .int .i64 t] 69))
              clear hu
              go_wp2_with fail
              generalize wr.alloc (.cells #[.int .i64 u, .int .i64 t] 69) = Y at *
              refine (isLater_any bx l m x u Y HOZ.out HXK.out (by omega) (by omega)).mono ?_
              rintro e wy ⟨rfl, hwy⟩
              subst hwy
              cases hq : later m x u with
              | true =>
                have HU2 := HU.out
                rw [hq, if_pos rfl] at HU2
                have hlen : ((l.take k).flatMap (clo l m) ++ clo (l.take j) m (x, y)).length ≤ 110 := by rw [List.length_append]; omega
                have HUL : Hid ((l.take k).flatMap (clo l m) ++ clo (l.take (j + 1)) m (x, y) = ((l.take k).flatMap (clo l m) ++ clo (l.take j) m (x, y)) ++ [(x, u)]) := by unfold Hid; rw [HU2, List.append_assoc]
                clear hq HU HU2 HI
                generalize (l.take k).flatMap (clo l m) ++ clo (l.take j) m (x, y) = L at *
                have hown := HIZ.out.two.rel
                have hge := HIZ.out.two.bel.size
                go_wp2_with (at_builtin; refine wpList_append_lies _ rfl _ _ 31 rfl w2.heap.size 89 i2 (.agg #[.int .i64 0, .int .i64 0]) 2 16 Try.underlying31 hi2 hv0 hv1 hv2 rfl (by decide) _ _ _ rfl (hown.alloc _) ⟨wy.heap.size, 0, none⟩ 1 1 [.int .i64 x, .int .i64 u] rfl rfl (Elems.cell_two_new _ _ _ _) (by simp [Value.oneCell']) (by decide) (by unfold maxLen; omega) (by omega) (by simp; omega) (wy.heap.size + 1) (by simp) ?_; intro g9 cap9 w9 hown9 hgrow9 hat9 hlt9; have hc9 := (HIZ.out.two.afterX (below_alloc wy _) hgrow9 HIZ.out.two.n2).2.1; have hf9 := (HIZ.out.two.afterX (below_alloc wy _) hgrow9 HIZ.out.two.n2).2.2.2)
                have HI2 := Lib.hid (HIZ.out.app (below_alloc wy _) hown9 hgrow9 (hat9.imp_right (fun e => by omega)))
                rw [← HUL.out] at HI2
                clear hown9 hgrow9 hat9 hlt9 hc9 hf9
                exact ⟨⟨j + 1, by omega, by go_num, _, HI2⟩, by simp [intOf]; omega⟩
              | false =>
                have HU2 := HU.out
                rw [hq, if_neg (by simp), List.append_nil] at HU2
                have HI2 := HIZ
                rw [← HU2] at HI2
                clear hq HU HU2
                go_wp2_with fail
                exact ⟨⟨j + 1, by omega, by go_num, _, HI2⟩, by simp [intOf]; omega⟩
            · obtain rfl : j = n1 := by omega
              have hjn : ¬ (j : Int) < (j : Int) := by omega
              have hT2 := HI.out.two
              rw [show l.take j = l from List.take_of_length_le (by rw [HL1.out]; exact Nat.le_refl _), ← clos_next HX.out] at hT2
              have HT2 := Lib.hid hT2
              clear hT2
              go_wp2_with fail
              exact ⟨⟨k + 1, by omega, by go_num, _, HT2⟩, by simp [intOf]; omega⟩
        · obtain rfl : k = n1 := by omega
          have hkn : ¬ (k : Int) < (k : Int) := by omega
          have hT2 := HT.out
          rw [List.take_of_length_le (by rw [HL1.out]; exact Nat.le_refl _)] at hT2
          have HT2 := Lib.hid (show TwoB w2 wr w3.heap.size (.slice p1 k d1) v2 l (clos l m) from hT2)
          obtain ⟨o1, o2, o3, o4, o5⟩ := hT2.cells
          obtain ⟨⟨_, q1, q2⟩, ⟨s1, s2⟩, t1, t2, hbd⟩ := HM3.out wr HT.out.bel
          have HBD := Lib.hid hbd
          have hcl := clos_len l m k
          rw [show l.take k = l from List.take_of_length_le (by rw [HL1.out]; exact Nat.le_refl _), HL1.out] at hcl
          have hcl2 : k * k ≤ 100 := Nat.le_trans (Nat.mul_le_mul hn1 hn1) (by omega)
          have hlen : (clos l m).length ≤ 100 := Nat.le_trans hcl hcl2
          have HYES := Lib.hid (fun h => clos_yes HG.out HC.out (h : good l (clos l m) = true))
          have HBIG := Lib.hid (fun h => clos_big HG.out HC.out (h : good l (clos l m) = false))
          have hs3 := HT.out.bel.size
          clear hT2 HT hbd hcl hcl2
          generalize clos l m = M at *
          obtain ⟨p2, d2, rfl⟩ := Two.own_form HT2.out.rel
          have HH := Lib.hid (HT2.out)
          have hc1 : Holds wr p1 k l := by have h := HT2.out.ctx; rw [HL1.out] at h; exact Keep.holds_own h
          have hc2 : Holds wr p2 M.length M := Keep.holds_own HT2.out.rel
          have HC1 := Lib.hid hc1
          have HC2 := Lib.hid hc2
          clear hc1 hc2 HH
          go_wp2_with fail
          cases hgc : good l M with
          | false =>
            have HE := Lib.hid (HBIG.out hgc)
            refine (IfV.ifValid_false p1 p2 k d1 M.length d2 l M wr hz1 (by omega) HC1.out HC2.out hgc).mono ?_
            rintro e w4 ⟨rfl, b4⟩
            have s1 := (b4.cell (World.block_lt_of_cell? wr _ s1)).trans s1
            have s2 := (b4.cell (World.block_lt_of_cell? wr _ s2)).trans s2
            have t1 := fz b4 ⟨w.heap.size + 1, 0, none⟩ (by show w.heap.size + 1 < _; omega) t1
            have t2 := fz b4 ⟨w.heap.size + 1, 1, none⟩ (by show w.heap.size + 1 < _; omega) t2
            have HB4 := Lib.hid (HBD.out.trans (b4.mono HBD.out.size))
            clear b4 hgc
            go_wp2_with fail
            obtain ⟨q1, q2⟩ := set2_cells (u := .slice none 0 0) (v := .slice none 0 0) s1 s2
            refine bodyPost_ret (v := .tuple #[.agg #[.slice none 0 0, .slice none 0 0], .bool false]) (by simp [results, Try.results33, go_sem, q1, q2]) rfl ?_
            rw [HE.out]
            exact ⟨none, 0, 0, none, 0, 0, rfl, Got.nil _ _, by omega, by omega, ((HB4.out.setCell (p := ⟨w.heap.size + 1, 0, none⟩) (Nat.le_succ _) _).setCell (p := ⟨w.heap.size + 1, 1, none⟩) (Nat.le_succ _) _)⟩
          | true =>
            have HE := Lib.hid (HYES.out hgc)
            refine (IfV.ifValid_true p1 p2 k d1 M.length d2 l M wr hz1 (by omega) HC1.out HC2.out hgc).mono ?_
            rintro e w4 ⟨rfl, b4⟩
            have s1 := (b4.cell (World.block_lt_of_cell? wr _ s1)).trans s1
            have s2 := (b4.cell (World.block_lt_of_cell? wr _ s2)).trans s2
            have t1 := fz b4 ⟨w.heap.size + 1, 0, none⟩ (by show w.heap.size + 1 < _; omega) t1
            have t2 := fz b4 ⟨w.heap.size + 1, 1, none⟩ (by show w.heap.size + 1 < _; omega) t2
            have HB4 := Lib.hid (HBD.out.trans (b4.mono HBD.out.size))
            have HT4 := Lib.hid (HT2.out.drawn b4)
            have hl1 := HL1.out
            clear b4 hgc
            go_wp2_with fail
            obtain ⟨q1, q2⟩ := set2_cells (u := .slice p1 k d1) (v := .slice p2 M.length d2) s1 s2
            refine bodyPost_ret (v := .tuple #[.agg #[.slice p1 k d1, .slice p2 M.length d2], .bool true]) (by simp [results, Try.results33, go_sem, q1, q2]) rfl ?_
            rw [HE.out]
            subst hl1
            exact ⟨p1, _, d1, p2, _, d2, rfl, HT4.out.got (by omega) (by omega) _ _, by omega, by omega, ((HB4.out.setCell (p := ⟨w.heap.size + 1, 0, none⟩) (Nat.le_succ _) _).setCell (p := ⟨w.heap.size + 1, 1, none⟩) (Nat.le_succ _) _)⟩
end Go.Proofs.Ytlgfaabobpnflaa.CloI
