/- WigglePlacement: the program. -/
import Derived.Test.YtlpcgchekhoieaaWgE
import Derived.Test.YtlpcgchekhoieaaQsp
namespace Go.Proofs.Ytlpcgchekhoieaa.WgI
open Go Go.RowKit Go.Shelf Pairs Rec Keep GivesI Cu CvM CvI PtM Sw Di ShI RdM Yr OvI YwI WgM WgD WgE Qsp
attribute [local go_sem] Oper.semAt_some
set_option linter.unusedVariables false
theorem cell_set2 {W : World} {b c i : Nat} {u v z : Value} (hne : c ≠ b) (h : W.cell? ⟨c, i, none⟩ = some z) : ((W.setCell ⟨b, 0, none⟩ u).setCell ⟨b, 1, none⟩ v).cell? ⟨c, i, none⟩ = some z := by
  have e : ((W.setCell ⟨b, 0, none⟩ u).setCell ⟨b, 1, none⟩ v).heap[c]? = W.heap[c]? := (Below.heap_setCell _ _ _ _ hne).trans (Below.heap_setCell _ _ _ _ hne)
  exact (World.cell?_of_block (w := W) (w' := (W.setCell ⟨b, 0, none⟩ u).setCell ⟨b, 1, none⟩ v) (a := ⟨c, i, none⟩) e).trans h
theorem cell_set1 {W : World} {b c i : Nat} {u z : Value} (hne : c ≠ b) (h : W.cell? ⟨c, i, none⟩ = some z) : (W.setCell ⟨b, 0, none⟩ u).cell? ⟨c, i, none⟩ = some z :=
  (World.cell?_of_block (w := W) (w' := W.setCell ⟨b, 0, none⟩ u) (a := ⟨c, i, none⟩) (Below.heap_setCell _ _ _ _ hne)).trans h
set_option maxRecDepth 100000 in
set_option maxHeartbeats 16000000 in
theorem impl_any : WgE.Says 48 := by
  intro a n L am nm ms ag ng gs w hn h hnm hm hng hg
  obtain ⟨hen, hb0⟩ := two1 w (.slice a n n) (.slice am nm nm)
  have HL := Lib.hid h.1
  have HLM := Lib.hid hm.1
  have HLG := Lib.hid hg.1
  have H0 := Lib.hid h
  have HM0 := Lib.hid hm
  have HG0 := Lib.hid hg
  have HE := Lib.hid hen
  have HB := Lib.hid hb0
  have g0 : ((((w.alloc (.cells #[.slice a n n] 25)).alloc (.cells #[.slice am nm nm] 54)).alloc (.cells #[.int .i64 0, .slice none 0 0] 42)).alloc (.cells #[.bool false] 4)).cell? ⟨w.heap.size, 0, none⟩ = some (.slice a n n) := by unfold World.cell?; rw [hen.c0]; rfl
  obtain ⟨r, hr⟩ : ∃ r, r = wgP L ms gs := ⟨_, rfl⟩
  rw [← hr]
  have HR := Lib.hid hr
  clear hr h hm hg hen hb0
  refine (callsIn_wide (n := 8)).1 ?_
  refine callsIn_of_wp_marks Try.func48 rfl trivial ?_ rfl
  simp only [Try.ntmps48, List.size_toArray, List.length_cons, List.length_nil, Nat.reduceAdd, Nat.reduceSub, Array.replicate_succ, Array.replicate_zero, List.push_toArray, List.append_toArray, List.nil_append, List.cons_append]
  have HV := Lib.hid (fun W b => valid_any a n n L W hn (Nat.le_refl _) (H0.out.below (w' := W) b))
  gi_wp2
  refine ⟨trivial, ?_⟩
  refine (callsIn_wide.2 (HV.out _ HB.out)).mono ?_
  rintro e w1 ⟨rfl, b1⟩
  generalize (((w.alloc (.cells #[.slice a n n] 25)).alloc (.cells #[.slice am nm nm] 54)).alloc (.cells #[.int .i64 0, .slice none 0 0] 42)).alloc (.cells #[.bool false] 4) = W5 at *
  replace HE := Lib.hid (HE.out.below b1)
  replace HB := Lib.hid (HB.out.trans (b1.mono HB.out.size))
  clear b1 g0
  cases hu : cv L with
  | false =>
    have HF := Lib.hid (HR.out.trans (wgP_no fun e _ _ _ _ => by rw [hu] at e; cases e))
    clear hu
    obtain ⟨d0, d1, f0, f1, lt1⟩ := HE.out.rs
    have d2 := HE.out.rb.cell
    have f2 := HE.out.rb.frozen
    gi_wp2
    refine ⟨trivial, ?_⟩
    gi_wp2
    obtain ⟨q1, q2⟩ := res_put HE.out.rs HE.out.rb (.int .i64 0) (.slice none 0 0) false
    refine ⟨_, resW _ (w.heap.size + 2) (w.heap.size + 3) (.int .i64 0) (.slice none 0 0) false _ q1 q2.cell rfl rfl, ?_⟩
    rw [HF.out]
    exact ⟨none, 0, 0, rfl, World.ownsRow_nil _ _ _ _, by omega, below_res HB.out (Nat.le_refl _)⟩
  | true =>
    have HU := Lib.hid hu
    have O := Lib.hid (cv_iff.1 hu)
    have HMC := Lib.hid (MsM.are_any 6 am nm nm ms w1 hnm (HM0.out.below HB.out))
    have c1 : w1.cell? ⟨w.heap.size + 1, 0, none⟩ = some (.slice am nm nm) := by unfold World.cell?; rw [HE.out.c1]; rfl
    clear hu
    gi_wp2
    refine ⟨trivial, ?_⟩
    refine (callsIn_wide.2 HMC.out).mono ?_
    rintro e w2 ⟨rfl, b⟩
    replace HE := Lib.hid (HE.out.below b)
    replace HB := Lib.hid (HB.out.trans (b.mono HB.out.size))
    clear b c1 HMC
    cases hmk : MsM.msOK 6 ms with
    | false =>
      have HF := Lib.hid (HR.out.trans (wgP_no fun _ e _ _ _ => by rw [hmk] at e; cases e))
      clear hmk
      obtain ⟨d0, d1, f0, f1, lt1⟩ := HE.out.rs
      have d2 := HE.out.rb.cell
      have f2 := HE.out.rb.frozen
      gi_wp2
      obtain ⟨q1, q2⟩ := res_put HE.out.rs HE.out.rb (.int .i64 0) (.slice none 0 0) false
      refine ⟨_, resW _ (w.heap.size + 2) (w.heap.size + 3) (.int .i64 0) (.slice none 0 0) false _ q1 q2.cell rfl rfl, ?_⟩
      rw [HF.out]
      exact ⟨none, 0, 0, rfl, World.ownsRow_nil _ _ _ _, by omega, below_res HB.out (Nat.le_refl _)⟩
    | true =>
      have HMK := Lib.hid hmk
      have OM := Lib.hid (MsM.msOK_iff.1 hmk)
      have hm1 : 1 ≤ nm ∧ nm ≤ 6 := by have h1 := OM.out.pos; have h2 := OM.out.len; rw [HLM.out] at h1 h2; omega
      have c1 : w2.cell? ⟨w.heap.size + 1, 0, none⟩ = some (.slice am nm nm) := by unfold World.cell?; rw [HE.out.c1]; rfl
      have q1 : wrap64 ((nm : Int) - 1) = (nm : Int) - 1 := by unfold wrap64; omega
      clear hmk
      by_cases hgl : (ng : Int) = (nm : Int) - 1
      · have HGC := Lib.hid (gaps_any ag ng ng gs w2 hng (HG0.out.below HB.out))
        gi_wp2
        refine ⟨trivial, ?_⟩
        refine (callsIn_wide.2 HGC.out).mono ?_
        rintro e w3 ⟨rfl, b⟩
        replace HE := Lib.hid (HE.out.below b)
        replace HB := Lib.hid (HB.out.trans (b.mono HB.out.size))
        clear b HGC c1
        cases hok : okG gs with
        | false =>
          have HF := Lib.hid (HR.out.trans (wgP_no fun _ _ _ e _ => by rw [hok] at e; cases e))
          clear hok
          obtain ⟨d0, d1, f0, f1, lt1⟩ := HE.out.rs
          have d2 := HE.out.rb.cell
          have f2 := HE.out.rb.frozen
          gi_wp2
          obtain ⟨q1, q2⟩ := res_put HE.out.rs HE.out.rb (.int .i64 0) (.slice none 0 0) false
          refine ⟨_, resW _ (w.heap.size + 2) (w.heap.size + 3) (.int .i64 0) (.slice none 0 0) false _ q1 q2.cell rfl rfl, ?_⟩
          rw [HF.out]
          exact ⟨none, 0, 0, rfl, World.ownsRow_nil _ _ _ _, by omega, below_res HB.out (Nat.le_refl _)⟩
        | true =>
          have HOK := Lib.hid hok
          have HGL := Lib.hid (show (gs.length : Int) = (ms.length : Int) - 1 by rw [HLG.out, HLM.out]; exact hgl)
          have HGN : Hid (ng + 1 = nm) := by unfold Hid; omega
          have hng5 : ng ≤ 5 := by omega
          have HDC := Lib.hid (dist_any ag ng ng gs w3 hng5 hok (HG0.out.below HB.out))
          unfold sixV at HDC
          obtain ⟨D, hD⟩ : ∃ D, D = dAt gs ng := ⟨_, rfl⟩
          rw [← hD] at HDC
          have HDD := Lib.hid hD
          have hn1 : 1 ≤ n := by have := O.out.lo; rw [HL.out] at this; omega
          clear hok hgl hD
          gi_wp2
          refine ⟨trivial, ?_⟩
          refine (callsIn_wide.2 HDC.out).mono ?_
          rintro e w4 ⟨rfl, b⟩
          replace HE := Lib.hid (HE.out.below b)
          replace HB := Lib.hid (HB.out.trans (b.mono HB.out.size))
          clear b HDC
          obtain ⟨hsx, k1, k2, hs8, b8⟩ := three_d w4 D
          have HE8 := Lib.hid (HE.out.below b8)
          have HB8 := Lib.hid (HB.out.trans (b8.mono HB.out.size))
          have HSX := Lib.hid hsx
          have HK1 := Lib.hid k1
          have HK2 := Lib.hid k2
          have HS8 := Lib.hid hs8
          have g0 : (((w4.alloc (.cells #[.int .i64 (D 0), .int .i64 (D 1), .int .i64 (D 2), .int .i64 (D 3), .int .i64 (D 4), .int .i64 (D 5)] 103)).alloc (.cells #[] 3)).alloc (.cells #[.slice (some ⟨w4.heap.size + 1, 0, none⟩) 0 0] 32)).cell? ⟨w.heap.size, 0, none⟩ = some (.slice a n n) := by unfold World.cell?; rw [HE8.out.c0]; rfl
          have HYC := Lib.hid (CvM.years_any a n n L _ hn hn1 (H0.out.below HB8.out))
          clear hsx k1 k2 hs8 b8
          gi_wp2
          refine ⟨trivial, ?_⟩
          refine (callsIn_wide.2 HYC.out).mono ?_
          rintro e w5 ⟨rfl, b⟩
          generalize ((w4.alloc (.cells #[.int .i64 (D 0), .int .i64 (D 1), .int .i64 (D 2), .int .i64 (D 3), .int .i64 (D 4), .int .i64 (D 5)] 103)).alloc (.cells #[] 3)).alloc (.cells #[.slice (some ⟨w4.heap.size + 1, 0, none⟩) 0 0] 32) = W8 at *
          have hz4 := HE.out.sz
          obtain ⟨m, hm⟩ : ∃ m, w4.heap.size = m := ⟨_, rfl⟩
          rw [hm] at hz4 HSX HK1 HK2 HS8 ⊢
          have HE5 := Lib.hid (HE8.out.below b)
          have HB5 := Lib.hid (HB8.out.trans (b.mono HB8.out.size))
          have HSX5 := Lib.hid (HSX.out.below b)
          have HK15 := Lib.hid ((b.block _ (by rw [HS8.out]; omega)).trans HK1.out)
          have HK25 := Lib.hid ((b.block _ (by rw [HS8.out]; omega)).trans HK2.out)
          have hz5 : m + 3 ≤ w5.heap.size := by have := b.size; have := HS8.out; omega
          have HY : Hid ((∀ y ∈ yrs (pt L 0).1 (pt L (n - 1)).1, fine L ms gs y = true) → r = red (pt L 0).1 ((yrs (pt L 0).1 (pt L (n - 1)).1).map (pwt L ms gs))) := by
            intro h
            rw [HR.out, ← HL.out]
            rw [← HL.out] at h
            exact wgP_yes HU.out HMK.out HGL.out HOK.out h
          have HNO : Hid ((∃ y ∈ yrs (pt L 0).1 (pt L (n - 1)).1, fine L ms gs y = false) → r = none) := by
            rintro ⟨y, h1, h2⟩
            rw [HR.out]
            rw [← HL.out] at h1
            refine wgP_no fun _ _ _ _ h => ?_
            rw [h y h1] at h2
            cases h2
          have HP0 : Hid (∀ q : Dt, L[0]? = some q → (pt L 0).1 = q.1) := fun q h => by rw [pt_of h]
          have hya := (O.out.p (i := 0) (by rw [HL.out]; omega)).y
          have hyb := (O.out.p (i := n - 1) (by rw [HL.out]; omega)).y
          have hsp := O.out.span
          rw [HL.out] at hsp
          clear b HYC HE8 HB8 HSX HK1 HK2 HS8 g0 HE HB
          generalize (pt L 0).1 = x at *
          generalize (pt L (n - 1)).1 = t at *
          gi_wp2
          refine ⟨trivial, ?_⟩
          refine (callsIn_wide.2 (yearsOf_b x t _)).mono ?_
          rintro e w6 ⟨rfl, b3, y0, y1⟩
          obtain ⟨bq, hbq⟩ : ∃ bq, w5.heap.size = bq := ⟨_, rfl⟩
          rw [hbq] at y0 y1 hz5
          have hqs : bq < w6.heap.size := World.block_lt_of_cell? w6 _ y0
          have HRD : Hid (Rd w6 w m bq (.slice a n n) (.slice am nm nm) D []) := by
            refine ⟨HE5.out.below b3, HSX5.out.below b3, ⟨some ⟨m + 1, 0, none⟩, 0, ⟨?_, ⟨rfl, .inr ⟨m + 1, 0, #[], rfl, Nat.le_refl _, ?_, Nat.le_refl _, by unfold maxLen; omega, rfl, rfl⟩⟩, by simp [Value.ownBlock], by simp [Value.ownBlock]; omega⟩⟩, HB5.out.trans (b3.mono HB5.out.size), hqs, hz4, hz5⟩
            · exact (b3.block _ (by omega)).trans HK25.out
            · exact (b3.block _ (by omega)).trans HK15.out
          have HQ := Lib.hid hbq
          have HQS := Lib.hid (And.intro hz4 (And.intro hz5 hqs))
          clear b3 HE5 HB5 HSX5 HK15 HK25 hbq
          gi_wp2
          refine wpIn_rangeFunc_ownF (α := Yx x t) rfl (by decide) (gf := 101) (lb := #[.pointer (some ⟨bq, 0, none⟩)]) ?_ trivial (enters_of Try.func101 (by kernel_rfl) rfl)
            (yr_stops 7 (by omega) x t (by omega) (by omega) bq w6 y0 y1) (fun h k => h.trans k) (fun W l0 o o' hl ho hc _ => kpC_b W l0 o o' hl (by have := HQS.out.2.2; omega)) (Below.refl _ _) (fun _ => rfl)
            (fun pre V => Rd V w m bq (.slice a n n) (.slice am nm nm) D (pl L ms gs pre) ∧ Fi L ms gs pre)
            (fun c pre V => c = .ret ∧ (∃ y, y ∈ yrs x t ∧ fine L ms gs y = false) ∧ EnW V w.heap.size (.slice a n n) (.slice am nm nm) ∧ Below w.heap.size w V)
            ?own ?ownx ⟨HRD.out, fun y hy => by cases hy⟩ ?a1 ?assign ?body ?done ?stop
          · show Value.func (.func 101) #[] #[.pointer (some ⟨w5.heap.size, 0, none⟩)] = _
            rw [HQ.out]
          case own =>
            intro pre V V' row hs' hgw hr
            exact ⟨hs'.1.grown hgw (fun r e => ⟨by have := (hr r e).1; have := HQS.out; omega, (hr r e).2⟩), hs'.2⟩
          case ownx =>
            intro c pre V V' row hs' hgw hr
            obtain ⟨h1, h2, h3, h4⟩ := hs'
            exact ⟨h1, h2, h3.grown hgw (fun r e => by have := (hr r e).1; have := HQS.out; omega), h4.grown hgw h4.size (fun k hk => by have := (hr k hk).1; have := HQS.out; omega)⟩
          case assign =>
            intro l0 y V K hK
            gi_wp2
            exact hK
          case stop =>
            rintro D c pre V hD hS ⟨rfl, hex, hen, hbel⟩ hK
            have HF := Lib.hid (HNO.out hex)
            have HI := Lib.hid (And.intro hen (And.intro hbel (And.intro hK hD)))
            clear hen hbel hK hex hS hD
            gi_wp2
            obtain ⟨hen, hbel, hK, hD⟩ := HI.out
            refine ⟨by simp, .inl ⟨_, _, rfl, run_takeDeferred hK, ?_⟩⟩
            have hne : D ≠ w.heap.size + 2 := by have := HQS.out; omega
            have hne3 : D ≠ w.heap.size + 3 := by have := HQS.out; omega
            refine ⟨_, resW _ (w.heap.size + 2) (w.heap.size + 3) (.int .i64 0) (.slice none 0 0) false _ (bx_eq' hen.rs (World.putObj_heap_other hne.symm) (by simp)) (show Boxed _ (w.heap.size + 3) 4 (.bool false) from (World.putObj_heap_other hne3.symm).trans hen.rb).cell rfl rfl, ?_⟩
            rw [HF.out]
            exact ⟨none, 0, 0, rfl, World.ownsRow_nil _ _ _ _, by omega, hbel.trans (belowK_b (w := w) (Nat.le_refl _) _ D _ _ (by have := HQS.out; omega) hK rfl rfl)⟩
          case body =>
            rintro l0 pre ⟨y, hy⟩ V ⟨hrd, hfi⟩ hlen
            have hyb2 := yrs_mem.1 hy
            rw [yrs_len] at hlen
            have hll : (pl L ms gs pre).length < 1048576 := by rw [pl_len]; omega
            obtain ⟨X, hX⟩ : ∃ X, X = pl L ms gs pre := ⟨_, rfl⟩
            rw [← hX] at hrd hll
            have HXN := Lib.hid (pl_app L ms gs pre ⟨y, hy⟩)
            rw [← hX] at HXN
            have HFI := Lib.hid hfi
            clear hX hfi
            have c1 : V.cell? ⟨w.heap.size + 1, 0, none⟩ = some (.slice am nm nm) := by unfold World.cell?; rw [hrd.en.c1]; rfl
            have HRV := Lib.hid hrd
            have HLL := Lib.hid hll
            clear hrd hll
            gi_wp2
            gi_loopw [11, 44] (fun s11 s44 wr => ∃ (k : Nat) (p : Int), k ≤ nm ∧ s11 = .int .i64 p ∧ s44 = .int .i64 (k : Int) ∧ Hid (prd L ms gs y k = some p) ∧ Hid (Below V.heap.size V wr)) (fun _ s44 _ => nm - (intOf s44).toNat)
            case atStart => exact ⟨0, 1, Nat.zero_le _, rfl, rfl, rfl, Below.refl _ _⟩
            case round =>
              obtain ⟨k, p, hk, rfl, rfl, HP, HW⟩ := hrel
              by_cases hlt : k < nm
              · have hki : (k : Int) < (nm : Int) := by omega
                have hk0 : (0 : Int) ≤ (k : Int) := by omega
                have hk6 : (k : Int) < 6 := by omega
                have hk6n : k < 6 := by omega
                have hk1 : k + 1 ≤ nm := by omega
                have hkms : k + 1 ≤ ms.length := by rw [HLM.out]; exact hk1
                have hmu : nm - (k + 1) < nm - k := by omega
                obtain ⟨b1, off1, A, E, rfl, hx, e1, e2⟩ := (HM0.out.below (HRV.out.bel.trans (HW.out.mono HRV.out.bel.size))).at k hlt
                have hmd : ms.getD k (0, 0) = (A, E) := by rw [List.getD_eq_getElem?_getD, hx]; rfl
                have hom : MsM.okM (A, E) = true := OM.out.all _ (List.mem_of_getElem? hx)
                have hpb := pw_bd O.out OM.out.all y k p (by rw [HLM.out]; omega) HP.out
                have hdb := dst_bd HOK.out k
                have hDk : D k = dst gs k := by rw [HDD.out]; unfold dAt; rw [if_pos (by have := HGN.out; omega)]
                have hsb := swt_bd O.out hom (y + D k)
                obtain ⟨s, hs⟩ : ∃ s, s = swt L (A, E) (y + D k) := ⟨_, rfl⟩
                have HS : Hid (swt L (ms.getD k (0, 0)) (y + dst gs k) = s) := by unfold Hid; rw [hs, hmd, hDk]
                have HCC := Lib.hid (fun W h => Sw.impl_any a n L A E (y + D k) W hn O.out hom h)
                rw [← hs] at hsb HCC
                have hps0 : 0 ≤ p * s := Int.mul_nonneg hpb.1 hsb.1
                have hps1 : p * s ≤ 1000000000000 * 7000000 := Int.mul_le_mul hpb.2 hsb.2 hsb.1 (by decide)
                have hyd : -1000000 ≤ y + D k ∧ y + D k ≤ 1000000 := by rw [hDk]; omega
                have v1 : wrap64 (p * s) = p * s := by generalize p * s = z at *; unfold wrap64; omega
                have v2 : wrap64 (y + D k) = y + D k := by generalize y + D k = z at *; unfold wrap64; omega
                have v3 : IntKind.i64.wrap (p * s) = p * s := by rw [IntKind.wrap_i64]; generalize p * s = z at *; omega
                have v4 : IntKind.i64.wrap (y + D k) = y + D k := by rw [IntKind.wrap_i64]; generalize y + D k = z at *; omega
                obtain ⟨u1, u2, ba⟩ := box_m wr A E
                have HW2 := Lib.hid (HW.out.trans (ba.mono HW.out.size))
                clear hx hmd hom hpb hdb hDk hs ba hps0 hps1 hyd hsb
                gi_wp2
                have r2 := HRV.out.below HW2.out
                have w0 : (wr.alloc (.cells #[.int .i64 A, .int .i64 E] 45)).cell? ⟨w.heap.size, 0, none⟩ = some (.slice a n n) := by unfold World.cell?; rw [r2.en.c0]; rfl
                have w3' := r2.six.c k hk6n
                have HH2 := Lib.hid (H0.out.below r2.bel)
                have R2 := Lib.hid r2
                clear r2 e1 e2 c1
                generalize wr.alloc (.cells #[.int .i64 A, .int .i64 E] 45) = W2 at *
                have k1 := cell_regrown w0
                have k2 := cell_regrown u1
                have k3 := cell_regrown u2
                have k4 := cell_regrown w3'
                have cU : ∀ d os, Calls Try.prog 74 #[.slice a n n, .agg #[.int .i64 A, .int .i64 E], .int .i64 (y + D k)] (Sort.grow (redrawn W2 d) os) fun e w'' => e = .returned (.int .i64 s) ∧ ∃ p : Regrown, w'' = Sort.grow (redrawn W2 p.d) p.os := fun d os => Calls.regrown_of (HCC.out _ (HH2.out.below (below_regrown W2 d os)))
                clear w0 u1 u2 w3' HCC
                refine region_at (l := l0) 10 (by kernel_rfl) (by kernel_rfl) ?_
                simp only [List.take_succ_cons, List.take_zero, List.drop_succ_cons, List.drop_zero]
                repeat (go_big_quiet_step ((go_at_call 74; exact cU _ _)))
                refine wpQuiet_nil ?_
                intro _ hw'
                obtain ⟨⟨dq, osq⟩, hw''⟩ := hw'
                subst hw''
                have HBQ := Lib.hid (below_regrown W2 dq osq)
                have R3 := Lib.hid (R2.out.below HBQ.out)
                have HW3 := Lib.hid (HW2.out.trans (HBQ.out.mono HW2.out.size))
                clear k1 k2 k3 k4 cU
                generalize Sort.grow (redrawn W2 dq) osq = W3 at *
                have HPN : Hid (1000000000000 < p * s → fine L ms gs y = false) := by
                  intro hgt
                  have e := prd_no HP.out (by rw [HS.out]; exact hgt) ms.length hkms
                  unfold fine
                  rw [e]
                  rfl
                have HPY : Hid (¬ 1000000000000 < p * s → prd L ms gs y (k + 1) = some (p * s)) := by
                  intro hgt
                  have e := prd_yes HP.out (by rw [HS.out]; exact hgt)
                  rw [HS.out] at e
                  exact e
                clear v1 v2 v3 v4 HP HS
                generalize p * s = z at *
                by_cases hgt : 1000000000000 < z
                · have HN := Lib.hid (HPN.out hgt)
                  obtain ⟨d0, d1, f0, f1, lt1⟩ := R3.out.en.rs
                  have d2 := R3.out.en.rb.cell
                  have f2 := R3.out.en.rb.frozen
                  gi_wp2
                  exact ⟨(others_below HW3.out).trans (((KeepsOthers.setCell _ _ _).trans (KeepsOthers.setCell _ _ _)).trans (KeepsOthers.setCell _ _ _)), rfl, ⟨y, hy, HN.out⟩, R3.out.en.zero, below_res R3.out.bel (Nat.le_refl _)⟩
                · have HP2 := Lib.hid (HPY.out hgt)
                  have hgt2 : decide (1000000000000 < z) = false := decide_eq_false hgt
                  clear HPN HPY
                  gi_wp2
                  exact ⟨⟨k + 1, z, hk1, rfl, by push_cast; rfl, HP2, HW3⟩, by have e : (intOf (.int .i64 ((k : Int) + 1))).toNat = k + 1 := rfl; have e2 : (intOf (.int .i64 (k : Int))).toNat = k := rfl; rw [e, e2]; exact hmu⟩
              · obtain rfl : k = nm := by omega
                have hki : ¬ (k : Int) < (k : Int) := by omega
                have HPW : Hid (pwt L ms gs y = p) := by unfold Hid pwt; rw [HLM.out, HP.out]; rfl
                have HFN : Hid (fine L ms gs y = true) := by unfold Hid fine; rw [HLM.out, HP.out]; rfl
                have HRW := Lib.hid (HRV.out.below HW.out)
                obtain ⟨p9, d9, g9, cap9, V9, v0, hr9, v1, v2, hrd9, hko9, hkp9⟩ := HRW.out.app HLL.out p 32
                have HZ := Lib.hid (And.intro hrd9 (And.intro hko9 hkp9))
                have v0' : wr.cell? ⟨m + 1 + 1, 0, none⟩ = some (.slice p9 X.length d9) := v0
                have v1' : V9.cell? ⟨m + 1 + 1, 0, none⟩ = some (.slice p9 X.length d9) := v1
                have v2' : V9.frozen? ⟨m + 1 + 1, 0, none⟩ = false := v2
                clear hrd9 hko9 hkp9 v0 v1 v2 c1
                gi_wp2_with (gi_at_builtin; refine wpListIn_app_run rfl _ _ 32 rfl _ _ _ rfl rfl hr9 ?_)
                obtain ⟨hrd9, hko9, hkp9⟩ := HZ.out
                have e9 := hkp9.trans (KpC.refl _ _)
                refine ⟨(others_below HW.out).trans hko9, (KpC.of_below HW.out HRV.out.lt).trans hkp9, ?_, fi_app HFI.out HFN.out⟩
                rw [HXN.out, HPW.out]
                exact hrd9
          case done =>
            rintro Dd xs V hD hS ⟨hrd, hfi⟩ hK
            have HF := Lib.hid (HY.out (fi_done hS hfi))
            have hPW : ∀ z ∈ (yrs x t).map (pwt L ms gs), 0 ≤ z ∧ z ≤ 4611686018427387904 := by
              intro z hz
              obtain ⟨y, hy, rfl⟩ := List.mem_map.1 hz
              have hf := fi_done hS hfi y hy
              unfold fine at hf
              unfold pwt
              cases hp : prd L ms gs y ms.length with
              | none => rw [hp] at hf; cases hf
              | some p =>
                have := pw_bd O.out OM.out.all y ms.length p (Nat.le_refl _) hp
                show 0 ≤ p ∧ p ≤ 4611686018427387904
                omega
            obtain ⟨X, hX⟩ : ∃ X, X = (yrs x t).map (pwt L ms gs) := ⟨_, rfl⟩
            rw [pl_done hS, ← hX] at hrd
            unfold Hid at HF
            rw [← hX] at HF hPW
            replace HF := Lib.hid HF
            have HLL : Hid (X.length ≤ 1048576) := by unfold Hid; rw [hX, List.length_map, yrs_len]; omega
            obtain ⟨p, d, hrw⟩ := hrd.rv
            have HCAP := Lib.hid (own_cap hrw.own)
            have HPW := Lib.hid hPW
            have hxb : -1048576 ≤ x ∧ x ≤ 1048576 := by omega
            obtain ⟨b1, off1, x1, y1', z1, rfl, hx, e1, e2, e3⟩ := (H0.out.below hrd.bel).at 0 (by omega)
            have hxx : x = x1 := HP0.out _ hx
            rw [Nat.zero_mul, Nat.add_zero, ← hxx] at e1
            have c2 : V.cell? ⟨w.heap.size, 0, none⟩ = some (.slice (some ⟨b1, off1, none⟩) n n) := by unfold World.cell?; rw [hrd.en.c0]; rfl
            have c6 : V.cell? ⟨m + 1 + 1, 0, none⟩ = some (.slice p X.length d) := hrw.box.cell
            have hn0 : (0 : Int) < (n : Int) := by omega
            have hn00 : 0 < n := by omega
            have HHI := Lib.hid (GivesI.holds_own hrw.own)
            have HI := Lib.hid (And.intro hrd (And.intro hK hD))
            clear hrd hrw hK hD hX hPW hfi hS hx hxx e2 e3
            gi_wp2
            refine wpIn_wide.2 ?_
            have bd : Below V.heap.size V V.drew := (Below.refl V.heap.size V).drew
            have HHD := Lib.hid (HHI.out.below bd)
            have HRDD := Lib.hid (HI.out.1.below bd)
            have HBD := Lib.hid bd
            have hl1 : w.heap.size < V.drew.heap.size := World.block_lt_of_cell? V.drew _ ((bd.cell (World.block_lt_of_cell? V _ c2)).trans c2)
            have t1 := (bd.cell (World.block_lt_of_cell? V _ c2)).trans c2
            have t2 := (bd.cell (World.block_lt_of_cell? V _ e1)).trans e1
            have t3 := (bd.cell (World.block_lt_of_cell? V _ c6)).trans c6
            have HB1 : Hid (b1 < w.heap.size) := by
              rcases H0.out.2 with h | ⟨b', off', e', hb', _⟩
              · omega
              · injection e' with e'
                injection e' with e'
                unfold Hid
                omega
            have hn1b : b1 ≠ w.heap.size + 1 + 1 := by have := HB1.out; omega
            have hn2b : w.heap.size ≠ w.heap.size + 1 + 1 := by omega
            have hn3b : m + 1 + 1 ≠ w.heap.size + 1 + 1 := by omega
            have hn4b : b1 ≠ w.heap.size + 1 + 1 + 1 := by have := HB1.out; omega
            have hn5b : w.heap.size ≠ w.heap.size + 1 + 1 + 1 := by omega
            have hn6b : m + 1 + 1 ≠ w.heap.size + 1 + 1 + 1 := by omega
            clear bd hl1
            go_region_held3 (fun w' => w'.cell? ⟨w.heap.size, 0, none⟩ = some (.slice (some ⟨b1, off1, none⟩) n n) ∧ w'.cell? ⟨b1, off1, none⟩ = some (.int .i64 x) ∧ w'.cell? ⟨m + 1 + 1, 0, none⟩ = some (.slice p X.length d))
              (first | go_keep | (exact ⟨by assumption, by assumption, by assumption⟩))
              ((go_at_call 82; refine (RdI.reduced_any x p X.length d X V.drew HLL.out hxb HCAP.out HHD.out HPW.out).mono ?_; rintro e w8 ⟨p8, k8, d8, rfl, o8, hk8, b8⟩; have s1 := (b8.cell (World.block_lt_of_cell? V.drew _ t1)).trans t1; have s2 := (b8.cell (World.block_lt_of_cell? V.drew _ t2)).trans t2; have s3 := (b8.cell (World.block_lt_of_cell? V.drew _ t3)).trans t3; have s4 := cell_set2 (u := .int .i64 ((RdM.red x X).getD (0, [])).1) (v := .slice p8 k8 d8) hn2b s1; have s5 := cell_set2 (u := .int .i64 ((RdM.red x X).getD (0, [])).1) (v := .slice p8 k8 d8) hn1b s2; have s6 := cell_set2 (u := .int .i64 ((RdM.red x X).getD (0, [])).1) (v := .slice p8 k8 d8) hn3b s3; have s7 := cell_set1 (u := .bool (RdM.red x X).isSome) hn5b s4; have s8 := cell_set1 (u := .bool (RdM.red x X).isSome) hn4b s5; have s9 := cell_set1 (u := .bool (RdM.red x X).isSome) hn6b s6; have H8 := Lib.hid (HRDD.out.en.below b8); have O8 := Lib.hid o8; have B8 := Lib.hid b8; obtain ⟨d0, d1, f0, f1, lt1⟩ := H8.out.rs; have d2 := H8.out.rb.cell; have f2 := H8.out.rb.frozen; clear o8 b8))
            clear t1 t2 t3 s1 s2 s3 s4 s5 s6 s7 s8 s9
            obtain ⟨zz, hzz⟩ : ∃ zz, zz = ((RdM.red x X).getD (0, [])).1 := ⟨_, rfl⟩
            obtain ⟨bb, hbb⟩ : ∃ bb, bb = (RdM.red x X).isSome := ⟨_, rfl⟩
            rw [← hzz, ← hbb]
            have HZZ := Lib.hid hzz
            have HBB := Lib.hid hbb
            clear hzz hbb
            obtain ⟨q1', q2'⟩ := res_put H8.out.rs H8.out.rb (.int .i64 zz) (.slice p8 k8 d8) bb
            have HQ1 := Lib.hid q1'
            have HQ2 := Lib.hid q2'
            clear q1' q2' d0 d1 d2 f0 f1 f2 lt1
            gi_wp2
            have hKV := HI.out.2.1
            have hDV : Dd < V.heap.size := (Array.getElem?_eq_some_iff.1 hKV).1
            have hDb : w6.heap.size ≤ Dd := HI.out.2.2
            have hQS := HQS.out
            have hb08 := HBD.out.trans (B8.out.mono HBD.out.size)
            have hne2 : Dd ≠ w.heap.size + 2 := by omega
            have hne3 : Dd ≠ w.heap.size + 3 := by omega
            have hK4 : (((w8.setCell ⟨w.heap.size + 2, 0, none⟩ (.int .i64 zz)).setCell ⟨w.heap.size + 2, 1, none⟩ (.slice p8 k8 d8)).setCell ⟨w.heap.size + 3, 0, none⟩ (.bool bb)).heap[Dd]? = some (.deferred (some [])) :=
              (Below.heap_setCell _ _ _ _ (by show Dd ≠ w.heap.size + 3; omega)).trans ((Below.heap_setCell _ _ _ _ (by show Dd ≠ w.heap.size + 2; omega)).trans ((Below.heap_setCell _ _ _ _ (by show Dd ≠ w.heap.size + 2; omega)).trans ((hb08.block _ hDV).trans hKV)))
            refine ⟨by simp, .inl ⟨_, _, rfl, run_takeDeferred hK4, ?_⟩⟩
            refine ⟨_, resW _ (w.heap.size + 2) (w.heap.size + 3) (.int .i64 zz) (.slice p8 k8 d8) bb _ (bx_eq' HQ1.out (World.putObj_heap_other hne2.symm) (by simp)) (show Boxed _ (w.heap.size + 3) 4 (.bool bb) from (World.putObj_heap_other hne3.symm).trans HQ2.out).cell rfl rfl, ?_⟩
            have hz : w.heap.size + 4 ≤ V.drew.heap.size := HRDD.out.en.sz
            have O2 := ownsRow_setCell_below (ownsRow_setCell_below (ownsRow_setCell_below O8.out (a := ⟨w.heap.size + 2, 0, none⟩) (by show w.heap.size + 2 < _; omega) (.int .i64 zz)) (a := ⟨w.heap.size + 2, 1, none⟩) (by show w.heap.size + 2 < _; omega) (.slice p8 k8 d8)) (a := ⟨w.heap.size + 3, 0, none⟩) (by show w.heap.size + 3 < _; omega) (.bool bb)
            have hbb : Below w.heap.size w (((w8.setCell ⟨w.heap.size + 2, 0, none⟩ (.int .i64 zz)).setCell ⟨w.heap.size + 2, 1, none⟩ (.slice p8 k8 d8)).setCell ⟨w.heap.size + 3, 0, none⟩ (.bool bb)) := below_res (HI.out.1.bel.trans (hb08.mono HI.out.1.bel.size)) (Nat.le_refl _)
            refine ⟨p8, k8, d8, by rw [HZZ.out, HBB.out, HF.out], ?_, hk8, hbb.trans (belowK_b (w := w) (Nat.le_refl _) _ Dd _ _ (by omega) hK4 rfl rfl)⟩
            rw [HF.out]
            exact Keep.ownsRow_base (ownsRow_putObj O2 _ hK4 rfl) (by omega)
      · have HF := Lib.hid (HR.out.trans (wgP_no fun _ _ e _ _ => hgl (by rw [HLG.out, HLM.out] at e; exact e)))
        obtain ⟨d0, d1, f0, f1, lt1⟩ := HE.out.rs
        have d2 := HE.out.rb.cell
        have f2 := HE.out.rb.frozen
        gi_wp2
        refine ⟨trivial, ?_⟩
        gi_wp2
        obtain ⟨q1, q2⟩ := res_put HE.out.rs HE.out.rb (.int .i64 0) (.slice none 0 0) false
        refine ⟨_, resW _ (w.heap.size + 2) (w.heap.size + 3) (.int .i64 0) (.slice none 0 0) false _ q1 q2.cell rfl rfl, ?_⟩
        rw [HF.out]
        exact ⟨none, 0, 0, rfl, World.ownsRow_nil _ _ _ _, by omega, below_res HB.out (Nat.le_refl _)⟩
end Go.Proofs.Ytlpcgchekhoieaa.WgI
