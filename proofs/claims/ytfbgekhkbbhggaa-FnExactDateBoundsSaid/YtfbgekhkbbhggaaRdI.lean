/- The program's reduced: weights reduced, from a first year on. -/
import Derived.Test.YtfbgekhkbbhggaaRdM
import Derived.Test.YtfbgekhkbbhggaaShI
namespace Go.Proofs.Ytfbgekhkbbhggaa.RdI
open Go.RowKit Pairs Rec Keep GivesI DvM DvG DvI AppI Di ShI RdM
set_option linter.unusedVariables false
theorem clo_any (x : Int) (w : World) :
    Calls Try.prog 110 #[.int .i64 x] w fun e w' => e = .returned (.bool (decide (0 < x))) ∧ Below w.heap.size w w' := by
  go_enter Try.func110, Try.ntmps110
  go_wp2_with fail
  go_ret
  exact ⟨rfl, Below.refl _ _⟩
theorem ix_st {W : List Int} (hp : ∀ x ∈ W, 0 ≤ x) : (st W = W.length ∧ FuncI.ix (fun x => decide (0 < x)) W = -1) ∨ (st W < W.length ∧ FuncI.ix (fun x => decide (0 < x)) W = (st W : Int)) := by
  have hs := st_is W
  rcases Nat.lt_or_ge (st W) W.length with h | h
  · refine .inr ⟨h, ?_⟩
    have hx : W[st W]? = some W[st W] := List.getElem?_eq_getElem h
    refine FuncI.ix_hit (k := st W) (x := W[st W]) (fun j y hj hy => ?_) hx ?_
    · have := hs.zero j hj
      rw [getD_of hy] at this
      subst this
      rfl
    · have h1 := hs.here h
      rw [getD_of hx] at h1
      have h2 := hp _ (List.getElem_mem h)
      exact decide_eq_true (by omega)
  · have he : st W = W.length := Nat.le_antisymm hs.le h
    refine .inl ⟨he, (FuncI.ix_none fun j y hj hy => ?_).1⟩
    have := hs.zero j (by omega)
    rw [getD_of hy] at this
    subst this
    rfl
theorem holds_core {w : World} {b off n s k : Nat} {M : List Int} (h : HoldsI w (some ⟨b, off, none⟩) n M) (hs : st M = s) (hk : en M = k) (hsk : s < k) : HoldsI w (some ⟨b, off + s, none⟩) (k - s) (core M) := by
  subst hs hk
  have hle := (en_is M).le
  refine ⟨core_len, ?_⟩
  rcases h.2 with h0 | ⟨b', off', ha, hb, hc⟩
  · have := h.1
    omega
  · injection ha with ha
    injection ha with e1 e2
    subst e1 e2
    refine .inr ⟨b, off + st M, rfl, hb, fun i x hi => ?_⟩
    have hil : i < en M - st M := by have := (List.getElem?_eq_some_iff.1 hi).1; rw [core_len] at this; exact this
    rw [core_at hil] at hi
    have := hc _ _ hi
    rw [← Nat.add_assoc] at this
    exact this
theorem ints_set (L : List Int) (j : Nat) (x : Int) : (ints L).set j (.int .i64 x) = ints (L.set j x) := by
  unfold ints
  rw [List.map_set]
/-- A row of one's own under way. -/
def UpD (B : Nat) (w wr : World) (g m d : Nat) (C : List Int) (D : Int) (j : Nat) : Prop :=
  wr.ownsRow B 3 1 (.slice (some ⟨g, 0, none⟩) m d) m (ints (mixL C D j)) ∧ Kept (fun b => b = g) w wr
theorem UpD.step {B : Nat} {w wr : World} {g m d : Nat} {C : List Int} {D : Int} {j : Nat} {x : Int} (h : UpD B w wr g m d C D j) (hx : C[j]? = some x) : UpD B w (wr.setCell ⟨g, j, none⟩ (.int .i64 (x / D))) g m d C D (j + 1) := by
  obtain ⟨h1, h2⟩ := h
  refine ⟨?_, h2.setCell (g := g) rfl _⟩
  have := (h1.stored j (.int .i64 (x / D))).1
  rw [ints_set, mixL_set hx] at this
  exact this
theorem UpD.at {B : Nat} {w wr : World} {g m d : Nat} {C : List Int} {D : Int} {j : Nat} {x : Int} (h : UpD B w wr g m d C D j) (hx : C[j]? = some x) (hj : j < m) : wr.cell? ⟨g, j, none⟩ = some (.int .i64 x) ∧ wr.frozen? ⟨g, j, none⟩ = false := by
  refine ⟨?_, h.1.frozenAt j⟩
  have hl := h.1.1
  rw [h.1.cellAt j (by omega)]
  exact GivesI.ints_at (mixL_at hx)
set_option maxRecDepth 100000 in
set_option maxHeartbeats 8000000 in
theorem reduced_any (f : Int) (p : Option Addr) (n c : Nat) (M : List Int) (w : World) (hn : n ≤ 1048576) (hf : -1048576 ≤ f ∧ f ≤ 1048576) (hc : n ≤ c) (h : HoldsI w p n M) (hp : ∀ x ∈ M, 0 ≤ x ∧ x ≤ 4611686018427387904) :
    Calls Try.prog 69 #[.int .i64 f, .slice p n c] w (ResZ (red f M).isSome ((red f M).getD (0, [])).1 ((red f M).getD (0, [])).2 w) := by
  have HL := Lib.hid h.1
  have hb0 := below_alloc w (.cells #[.int .i64 0, .slice none 0 0] 50)
  have BX := Lib.hid (bx_new w (.int .i64 0) (.slice none 0 0) 50)
  have H := Lib.hid (h.below hb0)
  have HB := Lib.hid hb0
  have HP := Lib.hid hp
  have hix := ix_st (W := M) fun x hx => (hp x hx).1
  clear h hb0 hp
  go_enter Try.func69, Try.ntmps69
  go_wp2_with fail
  generalize w.alloc (.cells #[.int .i64 0, .slice none 0 0] 50) = W at *
  refine (FuncI.index_any 110 #[] (fun x => decide (0 < x)) p n c M _ hn H.out (fun args W => FuncI.call_enter Try.func110 (by kernel_rfl) rfl args W) (fun x wr _ hbr => clo_any x wr)).mono ?_
  rintro e w1 ⟨rfl, b⟩
  replace H := Lib.hid (H.out.below b)
  replace BX := Lib.hid (BX.out.below b)
  replace HB := Lib.hid (HB.out.trans (b.mono HB.out.size))
  clear b
  rcases hix with ⟨h1, h2⟩ | ⟨h1, h2⟩
  · rw [h2]
    have HN := Lib.hid (red_none (f := f) h1)
    clear h2 h1
    obtain ⟨c0, c1, f0, f1, lt1⟩ := BX.out
    go_wp2_with fail
    try simp only [Exit.inBlock, Exit.then]
    refine bodyPost_ret (v := .tuple #[.agg #[.int .i64 0, .slice none 0 0], .bool false]) (by simp [results, Try.results69, go_sem, c0, c1]) rfl ?_
    rw [HN.out]
    exact ⟨none, 0, 0, rfl, World.ownsRow_nil _ _ _ _, by omega, (HB.out.setCell (p := ⟨w.heap.size, 0, none⟩) (Nat.le_refl _) _).setCell (p := ⟨w.heap.size, 1, none⟩) (Nat.le_refl _) _⟩
  · rw [h2]
    have HS := Lib.hid h1
    have hsn : st M < n := by rw [← HL.out]; exact h1
    have HE := Lib.hid (en_is M)
    have HSE := Lib.hid (st_en h1)
    clear h2 h1
    generalize hst : st M = s at *
    have HST := Lib.hid hst
    clear hst
    have hs0 : ¬ (s : Int) < 0 := by omega
    go_wp2_with fail
    go_loopw [8] (fun s8 wr => ∃ k : Nat, s < k ∧ k ≤ n ∧ s8 = .int .i64 k ∧ Hid (∀ j, k ≤ j → j < n → M.getD j 0 = 0) ∧ wr = w1) (fun s8 _ => (intOf s8).toNat)
    case atStart => exact ⟨n, hsn, Nat.le_refl _, rfl, fun j h1 h2 => absurd h2 (by omega), rfl⟩
    case round =>
      obtain ⟨k, hsk, hk, rfl, HZ, rfl⟩ := hrel
      obtain ⟨b, off, x, rfl, hx, e1⟩ := H.out.at (k - 1) (by omega)
      have hk1 : (k : Int) - 1 = ((k - 1 : Nat) : Int) := by omega
      by_cases hx0 : x = 0
      · subst hx0
        have HZ2 : Hid (∀ j, k - 1 ≤ j → j < n → M.getD j 0 = 0) := fun j j1 j2 => by
          by_cases e : j = k - 1
          · rw [e]; exact getD_of hx
          · exact HZ.out j (by omega) j2
        have hsk1 : s < k - 1 := by
          rcases Nat.lt_or_ge s (k - 1) with q | q
          · exact q
          · have hq : s = k - 1 := by omega
            exfalso
            have h3 := (st_is M).here (by rw [HST.out]; exact HS.out)
            rw [HST.out, hq, getD_of hx] at h3
            exact h3 rfl
        clear hx
        go_wp2_with fail
        exact ⟨⟨k - 1, hsk1, by omega, by go_num, HZ2, trivial⟩, by simp [intOf]; omega⟩
      · have HEN := Lib.hid (show en M = k from (en_is M).uniq ⟨by rw [HL.out]; exact hk, fun j j1 j2 => HZ.out j j1 (by rw [← HL.out]; exact j2), fun _ => by rw [getD_of hx]; exact hx0⟩)
        clear hx
        have hxb : (x == 0) = false := by simp [hx0]
        go_wp2_with fail
        have HC := Lib.hid (holds_core H.out HST.out HEN.out hsk)
        have hcl : (core M).length = k - s := by rw [core_len, HST.out, HEN.out]
        have HCL := Lib.hid hcl
        have HCP := Lib.hid (show ∀ x ∈ core M, 0 ≤ x ∧ x ≤ 4611686018427387904 from fun x hx => HP.out x (core_mem hx))
        have HDP := Lib.hid (dv_pos (W := M) (by rw [HST.out]; exact HS.out) (fun x hx => (HP.out x hx).1))
        have HNO := Lib.hid (fun e => red_no (f := f) (W := M) e)
        have HYE := Lib.hid (fun e => red_yes (f := f) (W := M) (by rw [HST.out]; exact HS.out) e)
        rw [HST.out] at HNO HYE
        obtain ⟨r, hr⟩ : ∃ r, r = red f M := ⟨_, rfl⟩
        rw [← hr] at HNO HYE
        have HRR := Lib.hid hr
        generalize core M = C at *
        clear hcl e1 hxb hx0 hk1 HZ HE HSE hr
        have hwz := Lib.hid BX.out.lt
        refine (clone_any _ (k - s) (c - s) C (by omega) _ HC.out).mono ?_
        rintro e w8 ⟨p8, d8, rfl, o8, b⟩
        replace BX := Lib.hid (BX.out.below b)
        replace HB := Lib.hid (HB.out.trans (b.mono HB.out.size))
        clear b HC H
        obtain ⟨g, cap, hv, hgb, hgl⟩ := o8.form (by omega)
        injection hv with hv1 _ hv3
        subst hv1 hv3
        have b := below_alloc w8 (.cells #[.int .i64 (f + s), .slice (some ⟨g, 0, none⟩) (k - s) d8] 50)
        have x1 := box_first w8 (.int .i64 (f + s)) (.slice (some ⟨g, 0, none⟩) (k - s) d8) 50
        have x2 := box_second w8 (.int .i64 (f + s)) (.slice (some ⟨g, 0, none⟩) (k - s) d8) 50
        have hlt : w8.heap.size < (w8.alloc (.cells #[.int .i64 (f + s), .slice (some ⟨g, 0, none⟩) (k - s) d8] 50)).heap.size := by simp
        have O := Lib.hid (ownsRow_below o8 b)
        replace BX := Lib.hid (BX.out.below b)
        replace HB := Lib.hid (HB.out.trans (b.mono HB.out.size))
        have HG := Lib.hid (And.intro hgb hgl)
        clear b o8 hgb hgl
        go_wp2_with fail
        generalize w8.alloc (.cells #[.int .i64 (f + s), .slice (some ⟨g, 0, none⟩) (k - s) d8] 50) = W9 at *
        refine (common_any (some ⟨g, 0, none⟩) (k - s) d8 C _ (by omega) (holds_own O.out) (fun x hx => (HCP.out x hx).1)).mono ?_
        rintro e w10 ⟨rfl, b⟩
        replace x1 := (b.cell (p := ⟨w8.heap.size, 0, none⟩) hlt).trans x1
        replace x2 := (b.cell (p := ⟨w8.heap.size, 1, none⟩) hlt).trans x2
        replace hlt := Nat.lt_of_lt_of_le hlt b.size
        replace O := Lib.hid (ownsRow_below O.out b)
        replace BX := Lib.hid (BX.out.below b)
        replace HB := Lib.hid (HB.out.trans (b.mono HB.out.size))
        clear b
        generalize hD : dv C = D at *
        have hD0 : 0 < D := HDP.out
        clear hD HDP
        generalize hm : k - s = m at *
        have hm1 : 1 ≤ m ∧ m ≤ 1048576 := by omega
        have HM := Lib.hid hm
        clear hm
        have HU : Hid (UpD wr.heap.size w10 w10 g m d8 C D 0) := ⟨O.out, Kept.refl _ _⟩
        go_wp2_with fail
        go_loopw [11, 43] (fun s11 s43 wx => ∃ j : Nat, j ≤ m ∧ s43 = .int .i64 j ∧ Hid (UpD wr.heap.size w10 wx g m d8 C D j)) (fun _ s43 _ => m - (intOf s43).toNat)
        case atStart => exact ⟨0, Nat.zero_le _, rfl, HU⟩
        case round =>
          obtain ⟨j, hj, rfl, HR⟩ := hrel
          have hgne : w8.heap.size ≠ g := by have := HG.out.2; omega
          replace x1 := HR.out.2.cell x1 hgne
          replace x2 := HR.out.2.cell x2 hgne
          by_cases hjm : j < m
          · have hx := List.getElem?_eq_getElem (l := C) (i := j) (by rw [HCL.out]; exact hjm)
            generalize C[j]'(by rw [HCL.out]; exact hjm) = y at hx
            obtain ⟨e1, e2⟩ := HR.out.at hx hjm
            have hy := HCP.out y (List.mem_of_getElem? hx)
            obtain ⟨hy1, hy2⟩ := hy
            have HN := Lib.hid (HR.out.step hx)
            have hd := div_bd hy1 hD0
            have hjm' : (j : Int) < (m : Int) := by omega
            clear hx
            go_wp2_with fail
            exact ⟨⟨j + 1, by omega, by go_num, HN⟩, by simp [intOf]; omega⟩
          · obtain rfl : j = m := by omega
            have hjm' : ¬ (j : Int) < (j : Int) := by omega
            have hO := HR.out.1
            rw [mixL_all HCL.out] at hO
            replace O := Lib.hid hO
            have kk := HR.out.2
            have BR : Hid (Bx wr w.heap.size (.int .i64 0) (.slice none 0 0)) := by
              have hb := BX.out
              have hne : ¬ w.heap.size = g := by have h1 := HG.out.1; have h2 := hwz.out; omega
              have hfz : wr.heap[w.heap.size]? = w10.heap[w.heap.size]? := kk.block _ hb.lt hne
              exact ⟨kk.cell hb.c0 hne, kk.cell hb.c1 hne, by unfold World.frozen?; rw [hfz]; exact hb.f0, by unfold World.frozen?; rw [hfz]; exact hb.f1, Nat.lt_of_lt_of_le hb.lt kk.size⟩
            have HB2 := Lib.hid (HB.out.trans (kk.below (B := w.heap.size) (fun b hq => by have h1 := HG.out.1; have h2 := hwz.out; omega) HB.out.size))
            have hlt2 := Nat.lt_of_lt_of_le hlt kk.size
            clear HB BX HU HR kk hO hjm hj
            go_wp2_with fail
            refine (valid_any (f + s) (some ⟨g, 0, none⟩) j d8 (C.map (· / D)) _ (by omega) (holds_own O.out)).mono ?_
            rintro e w11 ⟨rfl, b⟩
            replace x1 := (b.cell (p := ⟨w8.heap.size, 0, none⟩) hlt2).trans x1
            replace x2 := (b.cell (p := ⟨w8.heap.size, 1, none⟩) hlt2).trans x2
            replace O := Lib.hid (ownsRow_below O.out b)
            replace BR := Lib.hid (BR.out.below b)
            have HB := Lib.hid (HB2.out.trans (b.mono HB2.out.size))
            clear b HB2 hlt2
            obtain ⟨c0, c1, f0, f1, lt1⟩ := BR.out
            cases hv : okD (f + s) (C.map (· / D)) with
            | false =>
              have HN := Lib.hid (HNO.out hv)
              go_wp2_with fail
              try simp only [Exit.inBlock, Exit.then]
              refine bodyPost_ret (v := .tuple #[.agg #[.int .i64 0, .slice none 0 0], .bool false]) (by simp [results, Try.results69, go_sem, c0, c1]) rfl ?_
              rw [← HRR.out, HN.out]
              exact ⟨none, 0, 0, rfl, World.ownsRow_nil _ _ _ _, by omega, (HB.out.setCell (p := ⟨w.heap.size, 0, none⟩) (Nat.le_refl _) _).setCell (p := ⟨w.heap.size, 1, none⟩) (Nat.le_refl _) _⟩
            | true =>
              have HN := Lib.hid (HYE.out hv)
              go_wp2_with fail
              try simp only [Exit.inBlock, Exit.then]
              refine bodyPost_ret (v := .tuple #[.agg #[.int .i64 (f + s), .slice (some ⟨g, 0, none⟩) j d8], .bool true]) (by simp [results, Try.results69, go_sem, c0, c1]) rfl ?_
              rw [← HRR.out, HN.out]
              have O2 := ownsRow_setCell_below (ownsRow_setCell_below O.out (a := ⟨w.heap.size, 0, none⟩) hwz.out (.int .i64 (f + s))) (a := ⟨w.heap.size, 1, none⟩) hwz.out (.slice (some ⟨g, 0, none⟩) j d8)
              exact ⟨_, _, _, rfl, ownsRow_base O2 (Nat.le_of_lt hwz.out), by omega, (HB.out.setCell (p := ⟨w.heap.size, 0, none⟩) (Nat.le_refl _) _).setCell (p := ⟨w.heap.size, 1, none⟩) (Nat.le_refl _) _⟩
end Go.Proofs.Ytfbgekhkbbhggaa.RdI
