/- The program's recordOfPhases: a context for each phase, a relation wherever a member is later. -/
import Derived.Test.YtbdplgcdnpcnfaaExactOrderPhasesSaidPartaw
import Derived.Test.YtbdplgcdnpcnfaaExactOrderPhasesSaidPartaz
import Derived.Test.YtbdplgcdnpcnfaaExactOrderPhasesSaidPartba
import Derived.Ground.Names2Prog
import Derived.Shelf.Slices.SearchI
import Derived.Shelf.Slices.Delete
import Derived.Shelf.Slices.Cells
import Derived.Shelf.Slices.Empties
import Derived.Test.YtbdplgcdnpcnfaaProg
namespace Go.Proofs.Ytbdplgcdnpcnfaa.OpR
open Go.RowKit Pairs Rec RecEq Chain Find2 GoodM Keep GivesI Lows Order Idx Row2 Copy Two TwoBs RowTake Ph GpM GpI GpP GpN GpW OpM
/-- A pair more in the first row, behind whatever X that kept all. -/
theorem app1 {E wr X w1 : World} {gb : Nat} {v1 v2 : Value} {L1 L2 : List (Int × Int)} (h : TwoB E wr gb v1 v2 L1 L2) (hX : Below wr.heap.size wr X) {x y : Int} {g cap : Nat}
    (hown : w1.ownsRow E.heap.size 66 2 (.slice (some ⟨g, 0, none⟩) (L1.length + 1) cap) (L1.length + 1) (flat L1 ++ [.int .i64 x, .int .i64 y])) (hgrow : X.grownBy w1 v1.ownBlock) (hat : v1.ownBlock = some g ∨ wr.heap.size ≤ g) :
    TwoB E (w1.setCell ⟨gb, 0, none⟩ (.slice (some ⟨g, 0, none⟩) (L1.length + 1) cap)) gb (.slice (some ⟨g, 0, none⟩) (L1.length + 1) cap) v2 (L1 ++ [(x, y)]) L2 := by
  have h1 := ownsRow_below h.rel hX
  have hlt := h.cells.2.2.2.2
  have hb1 : w1.heap[gb]? = some (.cells #[v1, v2] 33) := (hgrow.block gb (Nat.lt_of_lt_of_le hlt hX.size) (Ne.symm h.n1)).trans ((hX.block gb hlt).trans h.box)
  have hr1 : w1.ownsRow E.heap.size 89 2 v2 L2.length (flat L2) := by
    refine World.ownsRow.kept (w := X) h1 hgrow ?_
    cases hv : v2.ownBlock with
    | none => exact .inl rfl
    | some b => exact .inr (fun e => h.ne b e.symm hv)
  have hgg : g ≠ gb := by
    rcases hat with hat | hat
    · intro e
      exact h.n1 (e ▸ hat)
    · omega
  have hng : (Value.slice (some ⟨g, 0, none⟩) (L1.length + 1) cap).ownBlock ≠ some gb := fun e => hgg (by simpa [Value.ownBlock] using e)
  refine ⟨(setCell_block hb1).1, ?_, setCell_far hr1 h.n2, ?_, hng, h.n2, ?_, h.ge⟩
  · rw [List.length_append, flat_app]
    exact setCell_far hown hng
  · intro b hb hv
    have e1 : g = b := by simpa [Value.ownBlock] using hb
    subst e1
    rcases hat with hat | hat
    · exact h.ne g hat hv
    · have := (h.rel.lt g hv).2
      omega
  · refine Below.setCell (p := ⟨gb, 0, none⟩) ?_ h.ge _
    exact (h.bel.trans (hX.mono h.bel.size)).grown hgrow (by have := hX.size; have := h.bel.size; omega) (fun k hk => (h.ctx.lt k hk).1)
/-- The record under way, and the phase in its box. -/
structure In (E wr : World) (gb : Nat) (v1 v2 : Value) (L1 L2 : List (Int × Int)) (ab : Nat) (pv : Value) : Prop where
  two : TwoB E wr gb v1 v2 L1 L2
  cell : wr.cell? ⟨ab, 1, none⟩ = some pv
  ne1 : v1.ownBlock ≠ some ab
  ne : v2.ownBlock ≠ some ab
  nb : ab ≠ gb
theorem In.drawn {E wr wq : World} {gb : Nat} {v1 v2 : Value} {L1 L2 : List (Int × Int)} {ab : Nat} {x : Value} (h : In E wr gb v1 v2 L1 L2 ab x) (hb : Below wr.heap.size wr wq) : In E wq gb v1 v2 L1 L2 ab x :=
  ⟨h.two.drawn hb, (hb.cell (World.block_lt_of_cell? wr _ h.cell)).trans h.cell, h.ne1, h.ne, h.nb⟩
theorem In.app {E wr X w1 : World} {gb : Nat} {v1 v2 : Value} {L1 L2 : List (Int × Int)} {ab : Nat} {z : Value} (h : In E wr gb v1 v2 L1 L2 ab z) (hX : Below wr.heap.size wr X) {x y : Int} {g cap : Nat}
    (hown : w1.ownsRow E.heap.size 89 2 (.slice (some ⟨g, 0, none⟩) (L2.length + 1) cap) (L2.length + 1) (flat L2 ++ [.int .i64 x, .int .i64 y])) (hgrow : X.grownBy w1 v2.ownBlock) (hat : v2.ownBlock = some g ∨ wr.heap.size ≤ g) :
    In E (w1.setCell ⟨gb, 1, none⟩ (.slice (some ⟨g, 0, none⟩) (L2.length + 1) cap)) gb v1 (.slice (some ⟨g, 0, none⟩) (L2.length + 1) cap) L1 (L2 ++ [(x, y)]) ab z := by
  have hlt : ab < wr.heap.size := World.block_lt_of_cell? wr _ h.cell
  refine ⟨h.two.app2 hX hown hgrow hat, ?_, h.ne1, ?_, h.nb⟩
  · rw [World.cell?_setCell_other _ _ _ _ (by intro e; injection e with e; exact h.nb e.symm)]
    have hb : w1.heap[ab]? = wr.heap[ab]? := (hgrow.block ab (Nat.lt_of_lt_of_le hlt hX.size) (Ne.symm h.ne)).trans (hX.block ab hlt)
    have hc := h.cell
    simp only [World.cell?] at hc ⊢
    rw [hb]
    exact hc
  · intro e
    have e' : g = ab := by simpa [Value.ownBlock] using e
    subst e'
    rcases hat with hat | hat
    · exact h.ne hat
    · omega
theorem In.appC {E wr X w1 : World} {gb : Nat} {v1 v2 : Value} {L1 L2 : List (Int × Int)} {ab : Nat} {z : Value} (h : In E wr gb v1 v2 L1 L2 ab z) (hX : Below wr.heap.size wr X) {x y : Int} {g cap : Nat}
    (hown : w1.ownsRow E.heap.size 66 2 (.slice (some ⟨g, 0, none⟩) (L1.length + 1) cap) (L1.length + 1) (flat L1 ++ [.int .i64 x, .int .i64 y])) (hgrow : X.grownBy w1 v1.ownBlock) (hat : v1.ownBlock = some g ∨ wr.heap.size ≤ g) :
    In E (w1.setCell ⟨gb, 0, none⟩ (.slice (some ⟨g, 0, none⟩) (L1.length + 1) cap)) gb (.slice (some ⟨g, 0, none⟩) (L1.length + 1) cap) v2 (L1 ++ [(x, y)]) L2 ab z := by
  have hlt : ab < wr.heap.size := World.block_lt_of_cell? wr _ h.cell
  refine ⟨app1 h.two hX hown hgrow hat, ?_, ?_, h.ne, h.nb⟩
  · rw [World.cell?_setCell_other _ _ _ _ (by intro e; injection e with e; exact h.nb e.symm)]
    have hb : w1.heap[ab]? = wr.heap[ab]? := (hgrow.block ab (Nat.lt_of_lt_of_le hlt hX.size) (Ne.symm h.ne1)).trans (hX.block ab hlt)
    have hc := h.cell
    simp only [World.cell?] at hc ⊢
    rw [hb]
    exact hc
  · intro e
    have e' : g = ab := by simpa [Value.ownBlock] using e
    subst e'
    rcases hat with hat | hat
    · exact h.ne1 hat
    · omega
theorem In.start {E wr : World} {gb : Nat} {v1 v2 : Value} {L1 L2 : List (Int × Int)} (h : TwoB E wr gb v1 v2 L1 L2) (x y : Value) (T : TypeId) : In E (wr.alloc (.cells #[x, y] T)) gb v1 v2 L1 L2 wr.heap.size y :=
  ⟨h.drawn (below_alloc wr _), box_second wr _ _ T, fun e => by have := (h.ctx.lt _ e).2; omega, fun e => by have := (h.rel.lt _ e).2; omega, fun e => by have := h.cells.2.2.2.2; omega⟩
def memP (L : List Pt) (i : Nat) : List Int := (L.getD i (⟨#[]⟩, [])).2
theorem memP_at {L : List Pt} {i : Nat} {s : ByteArray} {M : List Int} (h : L[i]? = some (s, M)) : memP L i = M := by unfold memP; rw [List.getD_eq_getElem?_getD, h]; rfl
/-- A member of the one is later than a member of the other. -/
noncomputable def ePh (m : Ps) (L : List Pt) (i k : Nat) : Bool := !(i == k) && decide (0 < cnt (later m) (memP L i) (memP L k))
theorem ePh_self (m : Ps) (L : List Pt) (i : Nat) : ePh m L i i = false := by unfold ePh; simp
theorem ePh_is {m : Ps} {L : List Pt} {i k : Nat} (h : ¬ i = k) : ePh m L i k = decide (0 < cnt (later m) (memP L i) (memP L k)) := by unfold ePh; simp [h]
theorem mR_bound (e : Nat → Nat → Bool) (n t : Nat) (hn : n ≤ 6) (ht : t ≤ 6) : (mR e n t).length ≤ 36 := by
  have h : ∀ t, (mR e n t).length ≤ t * n := by
    intro t
    induction t with
    | zero => simp [mR]
    | succ t ih =>
      rw [mR_len_next, Nat.succ_mul]
      have h1 : (List.range n).countP (e t) ≤ (List.range n).length := List.countP_le_length
      rw [List.length_range] at h1
      omega
  have h1 := h t
  have h2 : t * n ≤ 6 * 6 := Nat.mul_le_mul ht hn
  omega
theorem rowR_bound (e : Nat → Nat → Bool) (j i : Nat) : (rowR e j i).length ≤ j := by
  rw [row_len]
  have h1 : (List.range j).countP (e i) ≤ (List.range j).length := List.countP_le_length
  rw [List.length_range] at h1
  exact h1
def RecAns (w : World) (n : Nat) (l2 : Ps) (e : Ending) (w' : World) : Prop :=
  ∃ (p1 p2 : Option Addr) (d1 d2 : Nat), e = .returned (.agg #[.slice p1 n d1, .slice p2 l2.length d2]) ∧ Got w' w.heap.size p1 n d1 p2 l2.length d2 (lR n) l2 ∧ Below w.heap.size w w'
set_option maxRecDepth 100000 in
set_option maxHeartbeats 16000000 in
theorem rec_any (a1 a2 : Option Addr) (n1 c1 n2 c2 : Nat) (l m : Ps) (p : Option Addr) (n c : Nat) (L : List Pt) (w : World) (hgr : grp l m L = true) (h1 : Holds w a1 n1 l) (h2 : Holds w a2 n2 m) (h : HoldsP w p n L) :
    Calls Try.prog 53 #[.agg #[.slice a1 n1 c1, .slice a2 n2 c2], .slice p n c] w (RecAns w n (mR (ePh m L) n n)) := by
  obtain ⟨i1, hi1, hu0, hu1, hu2⟩ := info_parts infoContext
  obtain ⟨i2, hi2, hv0, hv1, hv2⟩ := info_parts infoRelation
  have hgd := grp_good hgr
  have hn6 : n ≤ 6 := by
    have hg2 := hgr
    unfold grp at hg2
    rw [Bool.and_eq_true] at hg2
    rw [← h.1]
    exact (gp_iff.1 hg2.2).1
  have HMB : Hid (∀ i s M, L[i]? = some (s, M) → MbP l M ∧ M.length ≤ 10) := fun i s M hx => by
    have hb := grp_mb hgr hx
    have h1 := mb_len (Idx.good_asc hgd).1 hb
    have h2 := (Idx.good_asc hgd).2
    exact ⟨hb, by omega⟩
  have HGD := Lib.hid hgd
  obtain ⟨fy1, fy2⟩ := fz_box2 w (.slice a1 n1 c1) (.slice a2 n2 c2) (.slice none 0 0) (.slice none 0 0) 33 33
  obtain ⟨hs, x1, x2, y1, y2, hb0⟩ := boxes2 w (.slice a1 n1 c1) (.slice a2 n2 c2) (.slice none 0 0) (.slice none 0 0) 33 33
  have HS := Lib.hid hs
  have H1 := Lib.hid (h1.below hb0)
  have H2 := Lib.hid (h2.below hb0)
  have HH := Lib.hid (h.below hb0)
  have HL := Lib.hid h.1
  have HB0 := Lib.hid hb0
  clear h1 h2 h hs hb0 hgr hgd
  go_enter Try.func53, Try.ntmps53
  go_wp2_with fail
  generalize ((w.alloc (.cells #[.slice a1 n1 c1, .slice a2 n2 c2] 33)).alloc (.cells #[.slice none 0 0, .slice none 0 0] 33)) = W at *
  have lw : w.heap.size < W.heap.size := by rw [HS.out]; omega
  have lw1 : w.heap.size + 1 < W.heap.size := by rw [HS.out]; omega
  refine (orderOf_any a1 a2 n1 c1 n2 c2 l m W HGD.out H1.out H2.out).mono ?_
  rintro e w2 ⟨bx, rfl, ho, b2⟩
  have s1 := (b2.cell (p := ⟨w.heap.size + 1, 0, none⟩) lw1).trans y1
  have s2 := (b2.cell (p := ⟨w.heap.size + 1, 1, none⟩) lw1).trans y2
  have t1 := fz b2 ⟨w.heap.size + 1, 0, none⟩ lw1 fy1
  have t2 := fz b2 ⟨w.heap.size + 1, 1, none⟩ lw1 fy2
  have hs2 := b2.size
  have HB2 := Lib.hid (HB0.out.trans (b2.mono HB0.out.size))
  have HO := Lib.hid ho
  have KH := Lib.hid (HH.out.below b2)
  have HM3 : Hid (∀ wr, Below w2.heap.size w2 wr → (HoldsP wr p n L ∧ IsOrd wr l m bx) ∧ (wr.cell? ⟨w.heap.size + 1, 0, none⟩ = some (.slice none 0 0) ∧ wr.cell? ⟨w.heap.size + 1, 1, none⟩ = some (.slice none 0 0)) ∧ wr.frozen? ⟨w.heap.size + 1, 0, none⟩ = false ∧ wr.frozen? ⟨w.heap.size + 1, 1, none⟩ = false ∧ Below w.heap.size w wr) := fun wr hwr =>
    ⟨⟨KH.out.below hwr, HO.out.below hwr⟩, ⟨(hwr.cell (World.block_lt_of_cell? w2 _ s1)).trans s1, (hwr.cell (World.block_lt_of_cell? w2 _ s2)).trans s2⟩, fz hwr ⟨w.heap.size + 1, 0, none⟩ (by show w.heap.size + 1 < _; omega) t1, fz hwr ⟨w.heap.size + 1, 1, none⟩ (by show w.heap.size + 1 < _; omega) t2, HB2.out.trans (hwr.mono HB2.out.size)⟩
  have HT0 : Hid (TwoB w2 (w2.alloc (.cells #[.slice none 0 0, .slice none 0 0] 33)) w2.heap.size (.slice none 0 0) (.slice none 0 0) (lR 0) (mR (ePh m L) n 0)) := twoB_new (World.ownsRow_nil _ _ _ _) (Below.refl _ _)
  clear b2 ho x1 x2 y1 y2 fy1 fy2 s1 s2 t1 t2
  go_wp2_with fail
  go_loopw [16] (fun s16 wr => ∃ k : Nat, k ≤ n ∧ s16 = .int .i64 k ∧ ∃ v1 v2, Hid (TwoB w2 wr w2.heap.size v1 v2 (lR k) (mR (ePh m L) n k))) (fun s16 _ => n - (intOf s16).toNat)
  case atStart => exact ⟨0, Nat.zero_le _, rfl, _, _, HT0⟩
  case round =>
    clear HT0
    obtain ⟨k, hk, rfl, v1, v2, HT⟩ := hrel
    by_cases hlt : k < n
    · have hki : (k : Int) < (n : Int) := by omega
      have hk0 : (0 : Int) ≤ (k : Int) := by omega
      obtain ⟨b, off, s, M, pp, j, d, rfl, hx, e1', e2', hM⟩ := KH.out.at k hlt
      have e1 := (HT.out.bel.cell (World.block_lt_of_cell? w2 _ e1')).trans e1'
      have e2 := (HT.out.bel.cell (World.block_lt_of_cell? w2 _ e2')).trans e2'
      have HX := Lib.hid hx
      have HMBk := Lib.hid (HMB.out k s M hx)
      have hj10 : j ≤ 10 := by rw [← hM.1]; exact HMBk.out.2
      have HI0 := Lib.hid (In.start HT.out (.string s) (.slice pp j d) 57)
      have HMw := Lib.hid hM
      obtain ⟨o1, o2, o3, o4, o5⟩ := HI0.out.two.cells
      have hown := HI0.out.two.ctx
      have hge := HI0.out.two.bel.size
      have hlk : (lR k).length ≤ 6 := by rw [lR_len]; omega
      have HLN := Lib.hid (lR_next k)
      clear hx hM e1' e2'
      go_upto_region 6 with fail
      generalize wr.alloc (.cells #[.string s, .slice pp j d] 57) = Z at *
      generalize wr.heap.size = ab at *
      clear e1 e2
      have hZ2 := HI0.out.two.bel
      go_wp2_with (at_builtin; refine wpList_append_lies _ rfl _ _ 30 rfl w2.heap.size 66 i1 (.agg #[.int .i64 0, .int .i64 0]) 2 16 Try.underlying30 hi1 hu0 hu1 hu2 rfl (by decide) _ _ _ rfl (hown.alloc _) ⟨Z.heap.size, 0, none⟩ 1 1 [.int .i64 ((k : Int) + 1), .int .i64 1] rfl rfl (Elems.cell_two_new _ _ _ _) (by simp [Value.oneCell']) (by decide) (by unfold maxLen; omega) (by omega) (by simp; omega) (Z.heap.size + 1) (by simp) ?_; intro g9 cap9 w9 hown9 hgrow9 hat9 hlt9; have hc9 := (HI0.out.two.afterX (below_alloc Z _) hgrow9 HI0.out.two.n1).1; have hf9 := (HI0.out.two.afterX (below_alloc Z _) hgrow9 HI0.out.two.n1).2.2.1)
      have hI2 := HI0.out.appC (below_alloc Z _) hown9 hgrow9 (hat9.imp_right (fun e => by omega))
      rw [← HLN.out] at hI2
      have HI2 : Hid (In w2 (w9.setCell ⟨w2.heap.size, 0, none⟩ (.slice (some ⟨g9, 0, none⟩) ((lR k).length + 1) cap9)) w2.heap.size (.slice (some ⟨g9, 0, none⟩) ((lR k).length + 1) cap9) v2 (lR (k + 1)) (mR (ePh m L) n k ++ rowR (ePh m L) 0 k) ab (.slice pp j d)) := by
        rw [rowR_zero, List.append_nil]
        exact hI2
      clear hown9 hgrow9 hat9 hlt9 hc9 hf9 hI2 hown o1 o2 o3 o4 o5 hZ2 hge HI0 HT
      go_loopw [31] (fun s31 wq => ∃ i : Nat, i ≤ n ∧ s31 = .int .i64 i ∧ ∃ v2, Hid (In w2 wq w2.heap.size (.slice (some ⟨g9, 0, none⟩) ((lR k).length + 1) cap9) v2 (lR (k + 1)) (mR (ePh m L) n k ++ rowR (ePh m L) i k) ab (.slice pp j d))) (fun s31 _ => n - (intOf s31).toNat)
      case atStart => exact ⟨0, Nat.zero_le _, rfl, _, HI2⟩
      case round =>
        clear HI2
        rename World => wq
        obtain ⟨i, hi, rfl, v2', HI⟩ := hrel
        by_cases hit : i < n
        · have hii : (i : Int) < (n : Int) := by omega
          have hi0 : (0 : Int) ≤ (i : Int) := by omega
          obtain ⟨b', off', s', M', p', j', d', hb', hx', e1', e2', hM'⟩ := KH.out.at i hit
          injection hb' with hb'
          injection hb' with hb1 hb2
          subst hb1 hb2
          have e1 := (HI.out.two.bel.cell (World.block_lt_of_cell? w2 _ e1')).trans e1'
          have e2 := (HI.out.two.bel.cell (World.block_lt_of_cell? w2 _ e2')).trans e2'
          have HX' := Lib.hid hx'
          have HMBi := Lib.hid (HMB.out i s' M' hx')
          have hj10' : j' ≤ 10 := by rw [← hM'.1]; exact HMBi.out.2
          have HIZ := Lib.hid (HI.out.drawn (below_alloc wq (.cells #[.string s', .slice p' j' d'] 57)))
          have u2 := box_second wq (.string s') (.slice p' j' d') 57
          have HMi := Lib.hid hM'
          have hzc := HIZ.out.cell
          have HRN := Lib.hid (rowR_next (ePh m L) i k)
          have hrb := rowR_bound (ePh m L) i k
          have hmb := mR_bound (ePh m L) n k hn6 (by omega)
          clear hx' hM' e1' e2'
          go_upto_region 10 with fail
          generalize wq.alloc (.cells #[.string s', .slice p' j' d'] 57) = Y at *
          generalize wq.heap.size = qb at *
          clear e1 e2
          by_cases hki2 : k = i
          · have HI2 := HIZ
            rw [show mR (ePh m L) n k ++ rowR (ePh m L) i k = mR (ePh m L) n k ++ rowR (ePh m L) (i + 1) k by rw [HRN.out, hki2, ePh_self, if_neg (by simp), List.append_nil]] at HI2
            subst hki2
            clear HRN HIZ HI
            go_wp2_with fail
            exact ⟨⟨k + 1, by omega, by go_num, _, HI2⟩, by simp [intOf]; omega⟩
          · have hne : ¬ (k : Int) = (i : Int) := by omega
            have hneb : ((k : Int) == (i : Int)) = false := by rw [beq_eq_false_iff_ne]; exact hne
            have cC := count_any bx l m pp p' j j' d d' M M' hj10 hj10' Y (HM3.out _ HIZ.out.two.bel).1.2 (HMw.out.below HIZ.out.two.bel) (HMi.out.below HIZ.out.two.bel) HMBk.out.1.2.2 (mb_rng HGD.out HMBk.out.1) (mb_rng HGD.out HMBi.out.1)
            have HEE : Hid (ePh m L k i = decide (0 < cnt (later m) M M')) := by unfold Hid; rw [ePh_is hki2, memP_at HX.out, memP_at HX'.out]
            generalize cnt (later m) M M' = cc at *
            have CC := Lib.hid cC
            clear cC hki2 HI
            go_wp2_with fail
            refine CC.out.mono ?_
            rintro e w' ⟨rfl, hw⟩
            have hw2 := hw.symm
            subst hw2
            clear hw CC
            by_cases h0 : 0 < cc
            · have h0' : (0 : Int) < (cc : Int) := by omega
              have h0b : decide ((0 : Int) < (cc : Int)) = true := decide_eq_true h0'
              have HUL : Hid (mR (ePh m L) n k ++ rowR (ePh m L) (i + 1) k = (mR (ePh m L) n k ++ rowR (ePh m L) i k) ++ [((k : Int) + 1, (i : Int) + 1)]) := by
                unfold Hid
                rw [HRN.out, HEE.out, decide_eq_true h0, if_pos rfl, List.append_assoc]
              have hlen : (mR (ePh m L) n k ++ rowR (ePh m L) i k).length ≤ 50 := by rw [List.length_append]; omega
              clear HRN HEE hrb hmb
              generalize mR (ePh m L) n k ++ rowR (ePh m L) i k = LL at *
              have hown := HIZ.out.two.rel
              have hge := HIZ.out.two.bel.size
              obtain ⟨o1, o2, o3, o4, o5⟩ := HIZ.out.two.cells
              go_wp2_with (at_builtin; refine wpList_append_lies _ rfl _ _ 31 rfl w2.heap.size 89 i2 (.agg #[.int .i64 0, .int .i64 0]) 2 16 Try.underlying31 hi2 hv0 hv1 hv2 rfl (by decide) _ _ _ rfl (hown.alloc _) ⟨Y.heap.size, 0, none⟩ 1 1 [.int .i64 ((k : Int) + 1), .int .i64 ((i : Int) + 1)] rfl rfl (Elems.cell_two_new _ _ _ _) (by simp [Value.oneCell']) (by decide) (by unfold maxLen; omega) (by omega) (by simp; omega) (Y.heap.size + 1) (by simp) ?_; intro g8 cap8 w8 hown8 hgrow8 hat8 hlt8; have hc8 := (HIZ.out.two.afterX (below_alloc Y _) hgrow8 HIZ.out.two.n2).2.1; have hf8 := (HIZ.out.two.afterX (below_alloc Y _) hgrow8 HIZ.out.two.n2).2.2.2)
              have HI2 := Lib.hid (HIZ.out.app (below_alloc Y _) hown8 hgrow8 (hat8.imp_right (fun e => by omega)))
              rw [← HUL.out] at HI2
              clear hown8 hgrow8 hat8 hlt8 hc8 hf8
              exact ⟨⟨i + 1, by omega, by go_num, _, HI2⟩, by simp [intOf]; omega⟩
            · have h0' : ¬ (0 : Int) < (cc : Int) := by omega
              have h0b : decide ((0 : Int) < (cc : Int)) = false := decide_eq_false h0'
              have HI2 := HIZ
              rw [show mR (ePh m L) n k ++ rowR (ePh m L) i k = mR (ePh m L) n k ++ rowR (ePh m L) (i + 1) k by rw [HRN.out, HEE.out, decide_eq_false h0, if_neg (by simp), List.append_nil]] at HI2
              clear HRN HEE HIZ
              go_wp2_with fail
              exact ⟨⟨i + 1, by omega, by go_num, _, HI2⟩, by simp [intOf]; omega⟩
        · obtain rfl : i = n := by omega
          have hii : ¬ (i : Int) < (i : Int) := by omega
          have hT2 := HI.out.two
          rw [← mR_next] at hT2
          have HT2 := Lib.hid hT2
          clear hT2
          go_wp2_with fail
          exact ⟨⟨k + 1, by omega, by go_num, _, _, HT2⟩, by simp [intOf]; omega⟩
    · obtain rfl : k = n := by omega
      have hki : ¬ (k : Int) < (k : Int) := by omega
      obtain ⟨p1, d1, rfl⟩ := Two.own_form HT.out.ctx
      obtain ⟨p2, d2, rfl⟩ := Two.own_form HT.out.rel
      obtain ⟨o1, o2, o3, o4, o5⟩ := HT.out.cells
      obtain ⟨-, ⟨s1, s2⟩, t1, t2, hbd⟩ := HM3.out wr HT.out.bel
      have HBD := Lib.hid hbd
      have HLK := Lib.hid (lR_len k)
      have HTT := Lib.hid HT.out
      clear hbd HT
      generalize hLm : mR (ePh m L) k k = LM at *
      go_wp2_with fail
      obtain ⟨q1, q2⟩ := set2_cells (u := .slice p1 (lR k).length d1) (v := .slice p2 LM.length d2) s1 s2
      refine bodyPost_ret (v := .agg #[.slice p1 (lR k).length d1, .slice p2 LM.length d2]) (by simp [results, Try.results53, go_sem, q1, q2]) rfl ?_
      have hgot := HTT.out.got (r := w.heap.size + 1) (B := w.heap.size) (by omega) (by omega) (.slice p1 (lR k).length d1) (.slice p2 LM.length d2)
      rw [HLK.out] at *
      exact ⟨p1, p2, d1, d2, rfl, hgot, ((HBD.out.setCell (p := ⟨w.heap.size + 1, 0, none⟩) (Nat.le_succ _) _).setCell (p := ⟨w.heap.size + 1, 1, none⟩) (Nat.le_succ _) _)⟩
end Go.Proofs.Ytbdplgcdnpcnfaa.OpR
/- The shelf's contract of slices.Delete at this program. -/
namespace Go.Proofs
open Go.Shelf
def Try.laysNm223_ren : Go.Shelf.Ren := ⟨fun | 23 => 87 | n => n, fun | 22 => 43 | 3 => 3 | 4 => 4 | 0 => 0 | n => n, fun | n => n⟩
theorem Try.laysNm223 : Go.Proofs.Lays2.n23 Try.prog Try.laysNm223_ren := {
  mixed := by kernel_rfl
  f23 := Try.func87.trans (congrArg some (by kernel_rfl))
  t0 := Try.underlying0
  a0 := Try.isAgg0
  z0 := Try.sizeOf0
  v0 := Try.zeroValue0
  t3 := Try.underlying3
  a3 := Try.isAgg3
  z3 := Try.sizeOf3
  v3 := Try.zeroValue3
  t4 := Try.underlying4
  a4 := Try.isAgg4
  z4 := Try.sizeOf4
  v4 := Try.zeroValue4
  t22 := Try.underlying43
  a22 := Try.isAgg43
  z22 := Try.sizeOf43
  v22 := Try.zeroValue43
  i3 := by kernel_rfl }
open Go.RowKit Go.Lib Go.Sort in
theorem Try.slices_Delete_int (blk off cap i j : Nat) (zs : List Int) (w : World) (hH : Holds (Value.int .i64) w blk off zs.toArray) (hcap : zs.length ≤ cap) (hm : cap ≤ 9223372036854775807) (hij : i ≤ j) (hj : j ≤ zs.length) :
    Calls Try.prog 87 #[.slice (some ⟨blk, off, none⟩) zs.length cap, .int .i64 i, .int .i64 j] w fun e w' => e = .returned (.slice (some ⟨blk, off, none⟩) (zs.length - (j - i)) cap) ∧ ∃ q, w' = putRow (Value.int .i64) (Sort.ahead w q) blk off (zs.take i ++ zs.drop j ++ List.replicate (j - i) 0).toArray := Any.slices_Delete_int Try.laysNm223 blk off cap i j zs w hH hcap hm hij hj
end Go.Proofs
