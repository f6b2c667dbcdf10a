/- The model's ShiftDistribution. -/
import Derived.Test.YtfnbjfmegikciaaDvS
import Derived.Test.YtfnbjfmegikciaaShI
import Derived.Deep.DeepCutAuto
namespace Go.Proofs.Ytfnbjfmegikciaa.ShS
open Go.RowKit Pairs Rec Keep GivesI DvM DvG DvS AppI Di ShI
set_option linter.unusedVariables false
set_option maxRecDepth 100000 in
set_option maxHeartbeats 8000000 in
theorem spec_any (y f : Int) (p : Option Addr) (n c : Nat) (M : List Int) (w : World) (hn : n ≤ 1048576) (h : HoldsI w p n M) :
    Calls Try.prog 27 #[.agg #[.int .i64 f, .slice p n c], .int .i64 y] w (ResZ (shP y f M).isSome ((shP y f M).getD (0, [])).1 ((shP y f M).getD (0, [])).2 w) := by
  obtain ⟨hs, x1, x2, y1, y2, fy1, fy2, hb0⟩ := two w (.int .i64 f) (.slice p n c) (.int .i64 0) (.slice none 0 0) 27 27
  have HL := Lib.hid h.1
  have H := Lib.hid (h.below hb0)
  have HB := Lib.hid hb0
  have hlt : w.heap.size < ((w.alloc (.cells #[.int .i64 f, .slice p n c] 27)).alloc (.cells #[.int .i64 0, .slice none 0 0] 27)).heap.size := by rw [hs]; omega
  have BX := Lib.hid (Bx.mk y1 y2 fy1 fy2 (by rw [hs]; omega))
  clear h hb0 y1 y2 fy1 fy2 hs
  go_enter Try.func27, Try.ntmps27
  go_wp2_with fail
  generalize (w.alloc (.cells #[.int .i64 f, .slice p n c] 27)).alloc (.cells #[.int .i64 0, .slice none 0 0] 27) = W at *
  refine (good_any f p n c M W hn H.out).mono ?_
  rintro e w1 ⟨rfl, b⟩
  replace x1 := (b.cell (p := ⟨w.heap.size, 0, none⟩) hlt).trans x1
  replace x2 := (b.cell (p := ⟨w.heap.size, 1, none⟩) hlt).trans x2
  replace hlt := Nat.lt_of_lt_of_le hlt b.size
  replace H := Lib.hid (H.out.below b)
  replace BX := Lib.hid (BX.out.below b)
  replace HB := Lib.hid (HB.out.trans (b.mono HB.out.size))
  clear b
  cases hv : okD f M with
  | false =>
    have HN := Lib.hid (shP_no (y := y) (f := f) (M := M) fun e _ => by rw [hv] at e; cases e)
    obtain ⟨c0, c1, f0, f1, lt1⟩ := BX.out
    go_wp2_with fail
    try simp only [Exit.inBlock, Exit.then]
    refine bodyPost_ret (v := .tuple #[.agg #[.int .i64 0, .slice none 0 0], .bool false]) (by simp [results, Try.results27, go_sem, c0, c1]) rfl ?_
    rw [HN.out]
    exact ⟨none, 0, 0, rfl, World.ownsRow_nil _ _ _ _, by omega, (HB.out.setCell (p := ⟨w.heap.size + 1, 0, none⟩) (by show w.heap.size ≤ w.heap.size + 1; omega) _).setCell (p := ⟨w.heap.size + 1, 1, none⟩) (by show w.heap.size ≤ w.heap.size + 1; omega) _⟩
  | true =>
    have O := Lib.hid (okD_iff.1 hv)
    have HV := Lib.hid hv
    have hf1 := O.out.lo
    have hf2 : f ≤ 2100 := by have h1 := O.out.hi; have h2 := O.out.pos; omega
    clear hv
    go_wp2_with fail
    refine (l1In_any y (-22100) 22100 _).mono ?_
    rintro e w3 ⟨rfl, rfl⟩
    by_cases hy : -22100 ≤ y ∧ y ≤ 22100
    · rw [decide_eq_true hy]
      have bd : Below w3.heap.size w3 w3.drew := (Below.refl w3.heap.size w3).drew
      have ba := below_alloc w3 (.cells #[.int .i64 0, .slice none 0 0] 27)
      have bad : Below w3.heap.size w3 (w3.alloc (.cells #[.int .i64 0, .slice none 0 0] 27)).drew := ba.drew
      have Hd := Lib.hid (H.out.below bd)
      have Hda := Lib.hid (H.out.below bad)
      have BXd := Lib.hid (BX.out.below bd)
      have BXda := Lib.hid (BX.out.below bad)
      have a1 := (ba.cell (p := ⟨w.heap.size, 0, none⟩) hlt).trans x1
      have a2 := (ba.cell (p := ⟨w.heap.size, 1, none⟩) hlt).trans x2
      have hlta := Nat.lt_of_lt_of_le hlt ba.size
      have BN := Lib.hid (show Bx (w3.alloc (.cells #[.int .i64 0, .slice none 0 0] 27)).drew w3.heap.size (.int .i64 0) (.slice none 0 0) from ⟨(bx_new w3 _ _ _).c0, (bx_new w3 _ _ _).c1, (bx_new w3 _ _ _).f0, (bx_new w3 _ _ _).f1, (bx_new w3 _ _ _).lt⟩)
      have hwr : IntKind.i64.wrap (f + y) = f + y := by rw [IntKind.wrap_i64]; omega
      have HW := Lib.hid hwr
      have HLT := Lib.hid BX.out.lt
      have hne3 : w.heap.size ≠ w3.heap.size := Nat.ne_of_lt hlt
      clear hwr
      go_upto_region 3 with fail
      go_cut [6] (fun s6 wc => ∃ gb p8 d8, s6 = .pointer (some ⟨gb, 0, none⟩) ∧ Hid (Rel w wc gb p8 n d8 (f + y) M))
      case first =>
        go_region_held3 (fun w' => w'.cell? ⟨w.heap.size, 0, none⟩ = some (.int .i64 f) ∧ w'.cell? ⟨w.heap.size, 1, none⟩ = some (.slice p n c))
          (first | go_keep | (exact ⟨by assumption, by assumption⟩))
          (first
            | (go_at_call 55; refine (own_any p n c M hn w3.drew Hd.out).mono ?_; rintro e w8 ⟨p8, d8, rfl, o8, b8⟩; have s1 := (b8.cell (p := ⟨w.heap.size, 0, none⟩) hlt).trans x1; have s2 := (b8.cell (p := ⟨w.heap.size, 1, none⟩) hlt).trans x2; have lt8 := Nat.lt_of_lt_of_le hlt b8.size; have s3 := ((below_alloc w8 (.cells #[.int .i64 0, .slice none 0 0] 27)).cell (p := ⟨w.heap.size, 0, none⟩) lt8).trans s1; have s4 := ((below_alloc w8 (.cells #[.int .i64 0, .slice none 0 0] 27)).cell (p := ⟨w.heap.size, 1, none⟩) lt8).trans s2)
            | (go_at_call 55; refine (own_any p n c M hn (w3.alloc (.cells #[.int .i64 0, .slice none 0 0] 27)).drew Hda.out).mono ?_; rintro e w8 ⟨p8, d8, rfl, o8, b8⟩; have s1 := (b8.cell (p := ⟨w.heap.size, 0, none⟩) hlta).trans a1; have s2 := (b8.cell (p := ⟨w.heap.size, 1, none⟩) hlta).trans a2; obtain ⟨n0, n1, n2, n3, -⟩ := BN.out.below b8; have s5 := cell_off (.int .i64 (IntKind.i64.wrap (f + y))) (.slice p8 n d8) s1 hne3; have s6 := cell_off (.int .i64 (IntKind.i64.wrap (f + y))) (.slice p8 n d8) s2 hne3))
        · rw [HW.out]
          go_wp2_with fail
          go_meet
          exact ⟨_, p8, d8, rfl, rel_new o8 HLT.out (BXd.out.below b8) (HB.out.trans ((bd.trans (b8.mono bd.size)).mono HB.out.size))⟩
        · rw [HW.out]
          go_wp2_with fail
          go_meet
          exact ⟨_, p8, d8, rfl, rel_put (BN.out.below b8) o8 (BN.out.lt) (Nat.le_trans HLT.out bad.size) (BXda.out.below b8) HLT.out (HB.out.trans ((bad.trans (b8.mono bad.size)).mono HB.out.size))⟩
      case rest =>
        obtain ⟨gb, p8, d8, rfl, HC⟩ := hcut
        obtain ⟨hb, ho, hr, hbel⟩ := HC.out
        obtain ⟨g0, g1, -, -, hgl⟩ := hb
        have OW := Lib.hid ho
        have BR := Lib.hid hr
        replace HB := Lib.hid hbel
        clear hr hbel ho HC Hd Hda BXd BXda a1 a2 hlta BN HW HLT hne3 bd ba bad x1 x2 hlt BX H
        go_wp2_with fail
        refine (good_any (f + y) p8 n d8 M wc hn (holds_own OW.out)).mono ?_
        rintro e w9 ⟨rfl, b⟩
        replace g0 := (b.cell (p := ⟨gb, 0, none⟩) hgl).trans g0
        replace g1 := (b.cell (p := ⟨gb, 1, none⟩) hgl).trans g1
        replace BR := Lib.hid (BR.out.below b)
        replace OW := Lib.hid (ownsRow_below OW.out b)
        replace HB := Lib.hid (HB.out.trans (b.mono HB.out.size))
        clear b hgl
        cases hv2 : okD (f + y) M with
        | false =>
          have HN := Lib.hid (shP_no (y := y) (f := f) (M := M) fun _ e => by rw [hv2] at e; cases e)
          clear hv2
          obtain ⟨c0, c1, f0, f1, lt1⟩ := BR.out
          go_wp2_with fail
          try simp only [Exit.inBlock, Exit.then]
          refine bodyPost_ret (v := .tuple #[.agg #[.int .i64 0, .slice none 0 0], .bool false]) (by simp [results, Try.results27, go_sem, c0, c1]) rfl ?_
          rw [HN.out]
          exact ⟨none, 0, 0, rfl, World.ownsRow_nil _ _ _ _, by omega, (HB.out.setCell (p := ⟨w.heap.size + 1, 0, none⟩) (by show w.heap.size ≤ w.heap.size + 1; omega) _).setCell (p := ⟨w.heap.size + 1, 1, none⟩) (by show w.heap.size ≤ w.heap.size + 1; omega) _⟩
        | true =>
          have HN := Lib.hid (shP_yes (y := y) HV.out hv2)
          clear hv2
          obtain ⟨c0, c1, f0, f1, lt1⟩ := BR.out
          go_wp2_with fail
          try simp only [Exit.inBlock, Exit.then]
          refine bodyPost_ret (v := .tuple #[.agg #[.int .i64 (f + y), .slice p8 n d8], .bool true]) (by simp [results, Try.results27, go_sem, c0, c1]) rfl ?_
          rw [HN.out]
          have O2 := ownsRow_setCell_below (ownsRow_setCell_below OW.out (a := ⟨w.heap.size + 1, 0, none⟩) (by show w.heap.size + 1 < w.heap.size + 2; omega) (.int .i64 (f + y))) (a := ⟨w.heap.size + 1, 1, none⟩) (by show w.heap.size + 1 < w.heap.size + 2; omega) (.slice p8 n d8)
          exact ⟨p8, n, d8, rfl, ownsRow_base O2 (by omega), hn, (HB.out.setCell (p := ⟨w.heap.size + 1, 0, none⟩) (by show w.heap.size ≤ w.heap.size + 1; omega) _).setCell (p := ⟨w.heap.size + 1, 1, none⟩) (by show w.heap.size ≤ w.heap.size + 1; omega) _⟩
    · have HN := Lib.hid (shP_no (y := y) (f := f) (M := M) fun _ e => hy (by have h1 := okD_iff.1 e; have h2 := h1.lo; have h3 := h1.hi; have h4 := h1.pos; omega))
      rw [decide_eq_false hy]
      obtain ⟨c0, c1, f0, f1, lt1⟩ := BX.out
      go_wp2_with fail
      try simp only [Exit.inBlock, Exit.then]
      refine bodyPost_ret (v := .tuple #[.agg #[.int .i64 0, .slice none 0 0], .bool false]) (by simp [results, Try.results27, go_sem, c0, c1]) rfl ?_
      rw [HN.out]
      exact ⟨none, 0, 0, rfl, World.ownsRow_nil _ _ _ _, by omega, (HB.out.setCell (p := ⟨w.heap.size + 1, 0, none⟩) (by show w.heap.size ≤ w.heap.size + 1; omega) _).setCell (p := ⟨w.heap.size + 1, 1, none⟩) (by show w.heap.size ≤ w.heap.size + 1; omega) _⟩
end Go.Proofs.Ytfnbjfmegikciaa.ShS
