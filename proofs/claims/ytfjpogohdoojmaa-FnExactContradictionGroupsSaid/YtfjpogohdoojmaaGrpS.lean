/- The model's ContradictionGroups. -/
import Derived.Test.YtfjpogohdoojmaaGrpM
import Derived.Test.YtfjpogohdoojmaaSSApp
import Derived.Test.YtfjpogohdoojmaaConsistA
namespace Go.Proofs.Ytfjpogohdoojmaa.GrpS
open Go.RowKit Pairs Rec Chain Find2 GoodM Keep GivesI Lows Order Bit Table Idx That IsLater Consist SusI GrpM SSApp
structure StS (B : Nat) (W wr : World) (gt n : Nat) (T : List Nat) (p : Option Addr) (D d : Nat) (R : List (List Int)) (vs : List Value) : Prop where
  own : SS.OwnSS wr B p D d R vs
  ne : (Value.slice p D d).ownBlock ≠ some gt
  tab : HoldsI wr (some ⟨gt, 0, none⟩) n (intsN T)
  lt : n = 0 ∨ gt < wr.heap.size
  bel : Below B W wr
  le : B ≤ wr.heap.size
theorem StS.below {B : Nat} {W wr X : World} {gt n : Nat} {T : List Nat} {p : Option Addr} {D d : Nat} {R : List (List Int)} {vs : List Value} (h : StS B W wr gt n T p D d R vs) (hb : Below wr.heap.size wr X) : StS B W X gt n T p D d R vs :=
  ⟨h.own.below hb, h.ne, h.tab.below hb, h.lt.imp_right (fun e => Nat.lt_of_lt_of_le e hb.size), h.bel.trans (hb.mono h.le), Nat.le_trans h.le hb.size⟩
theorem tab_grown {w w' : World} {g n : Nat} {r : Option Nat} {L : List Int} (h : HoldsI w (some ⟨g, 0, none⟩) n L) (hlt : n = 0 ∨ g < w.heap.size) (hg : w.grownBy w' r) (hne : r ≠ some g) : HoldsI w' (some ⟨g, 0, none⟩) n L := by
  refine ⟨h.1, ?_⟩
  rcases hlt with hlt | hlt
  · exact .inl hlt
  rcases h.2 with h0 | ⟨b, off, hp, hb, hc⟩
  · exact .inl h0
  · injection hp with hp
    injection hp with h1 h2
    subst h1 h2
    exact .inr ⟨g, 0, rfl, Nat.lt_of_lt_of_le hlt hg.size, fun i x hi => (World.cell?_of_block (w := w) (w' := w') (a := ⟨g, 0 + i, none⟩) (hg.block g hlt (Ne.symm hne))).trans (hc i x hi)⟩
theorem StS.app {B : Nat} {W wr X w9 : World} {gt n : Nat} {T : List Nat} {p : Option Addr} {d : Nat} {R : List (List Int)} {vs : List Value} (h : StS B W wr gt n T p R.length d R vs) (hn : 0 < n) (hX : Below wr.heap.size wr X) {pr : Option Addr} {dr : Nat} {r : List Int}
    (hr : X.ownsRow wr.heap.size 3 1 (.slice pr r.length dr) r.length (ints r)) {g9 cap : Nat} (hown : w9.ownsRow B 29 1 (.slice (some ⟨g9, 0, none⟩) (R.length + 1) cap) (R.length + 1) (vs ++ [.slice pr r.length dr]))
    (hgrow : X.grownBy w9 (Value.slice p R.length d).ownBlock) (hat : (Value.slice p R.length d).ownBlock = some g9 ∨ X.heap.size ≤ g9) :
    StS B W w9 gt n T (some ⟨g9, 0, none⟩) (R.length + 1) cap (R ++ [r]) (vs ++ [.slice pr r.length dr]) := by
  have hg9 : ∀ b, (Value.slice (some ⟨g9, 0, none⟩) (R.length + 1) cap).ownBlock = some b → b = g9 := fun b hb => by simpa [Value.ownBlock] using hb.symm
  have hS := h.below hX
  have hgl : gt < X.heap.size := by rcases hS.lt with h0 | h0 <;> omega
  refine ⟨ownSS_app h.own h.le hX hr hown hgrow hat, fun e => ?_, tab_grown hS.tab hS.lt hgrow h.ne, .inr (Nat.lt_of_lt_of_le hgl hgrow.size), hS.bel.grown hgrow hS.le (fun k hk => (hS.own.out.lt k hk).1), Nat.le_trans hS.le hgrow.size⟩
  have e2 := hg9 _ e
  subst e2
  rcases hat with hat | hat
  · exact h.ne hat
  · omega
theorem or_lt {z k : Nat} (hz : z < 1024) (hk : k < 10) : z ||| 2 ^ k < 1024 := lor_lt (n := 10) hz (Nat.pow_lt_pow_right (by decide) hk)
theorem bit_hit {l m : Ps} {n i k z : Nat} (hik : i ≤ k) (h : mtlI l m i k = true) (hz : ∀ t, t < n → (z.testBit t = true ↔ DoneTo l m i k t)) : ∀ t, t < n → ((z ||| 2 ^ k).testBit t = true ↔ DoneTo l m i (k + 1) t) := fun t ht => by
  rw [Nat.testBit_or, Bool.or_eq_true, hz t ht, pow_bit, doneTo_hit hik h]
  exact or_congr Iff.rfl ⟨fun e => e.symm, fun e => e.symm⟩
theorem bit_miss {l m : Ps} {n i k z : Nat} (h : mtlI l m i k = false) (hz : ∀ t, t < n → (z.testBit t = true ↔ DoneTo l m i k t)) : ∀ t, t < n → (z.testBit t = true ↔ DoneTo l m i (k + 1) t) := fun t ht => by
  rw [hz t ht, doneTo_miss h]
set_option maxRecDepth 100000 in
set_option maxHeartbeats 8000000 in
theorem spec_any : SS.Gives 27 grpP := by
  intro a1 a2 n1 n2 l m w hz1 hz2 h1 h2
  obtain ⟨i0, hi, hy0, hy1, hy2⟩ := info_parts SSApp.infoSlice
  obtain ⟨i1, hi1, hw0, hw1, hw2⟩ := info_parts That.infoInt
  have hb := below_alloc w (.cells #[.slice a1 n1 n1, .slice a2 n2 n2] 27)
  have hf := box_first w (.slice a1 n1 n1) (.slice a2 n2 n2) 27
  have hf2 := box_second w (.slice a1 n1 n1) (.slice a2 n2 n2) 27
  have H1 := Lib.hid (h1.below hb)
  have H2 := Lib.hid (h2.below hb)
  have HL1 := Lib.hid h1.1
  have HB := Lib.hid hb
  have hsz : w.heap.size < (w.alloc (.cells #[.slice a1 n1 n1, .slice a2 n2 n2] 27)).heap.size := by simp
  have hWe : (w.alloc (.cells #[.slice a1 n1 n1, .slice a2 n2 n2] 27)).heap.size = w.heap.size + 1 := by simp
  have HWE := Lib.hid hWe
  clear h1 h2 hb hWe
  go_enter Try.func27, Try.ntmps27
  go_wp2_with fail
  generalize w.alloc (.cells #[.slice a1 n1 n1, .slice a2 n2 n2] 27) = W at *
  have hE := That.empty_own (T := 29) W
  have hbE := below_alloc W (.cells #[] 29)
  rw [HWE.out] at hE
  have HOE : Hid (SS.OwnSS (W.alloc (.cells #[] 29)) W.heap.size (some ⟨w.heap.size + 1, 0, none⟩) 0 0 [] []) := by
    rw [HWE.out]
    exact ⟨hE, rfl, fun i r hr => by simp at hr, fun i v b hv => by simp at hv, fun i j u v b hu => by simp at hu⟩
  have g1 := (hbE.cell (p := ⟨w.heap.size, 0, none⟩) hsz).trans hf
  have g2 := (hbE.cell (p := ⟨w.heap.size, 1, none⟩) hsz).trans hf2
  have hsE : (W.alloc (.cells #[] 29)).heap.size = w.heap.size + 2 := by simp [HWE.out]
  have HSE := Lib.hid hsE
  have HBE := Lib.hid hbE
  have K1 := Lib.hid (H1.out.below hbE)
  have K2 := Lib.hid (H2.out.below hbE)
  have HF := Lib.hid (And.intro hf hf2)
  clear hE hbE hf hf2 hsE
  generalize W.alloc (.cells #[] 29) = E at *
  refine (Good2.l2Good_any a1 a2 n1 n1 n2 n2 l m E K1.out K2.out).mono ?_
  rintro e w1 ⟨rfl, b1⟩
  have r1 := (b1.cell (p := ⟨w.heap.size, 0, none⟩) (by show w.heap.size < _; rw [HSE.out]; omega)).trans g1
  have r2 := (b1.cell (p := ⟨w.heap.size, 1, none⟩) (by show w.heap.size < _; rw [HSE.out]; omega)).trans g2
  have HB1 := Lib.hid (HBE.out.trans (b1.mono HBE.out.size))
  have HO1 := Lib.hid (HOE.out.below b1)
  have hs1 := b1.size
  rw [HSE.out] at hs1
  clear g1 g2 b1
  cases hg : good l m with
  | false =>
    have HE := Lib.hid (grp_bad hg)
    clear hg
    go_wp2_with fail
    go_ret2
    rw [HE.out]
    exact ⟨_, _, _, [], rfl, HO1.out.base HB.out.size, by omega, by show 0 ≤ _; omega, HB.out.trans (HB1.out.mono HB.out.size)⟩
  | true =>
    have HE := Lib.hid (grp_yes hg)
    have HG := Lib.hid hg
    have hn1 : n1 ≤ 10 := by rw [← HL1.out]; exact (Table.good_few hg).1
    clear hg
    go_wp2_with fail
    refine (later_any a1 a2 n1 n1 n2 n2 l m w1 HG.out (H1.out.below HB1.out) (H2.out.below HB1.out)).mono ?_
    rintro e w2 ⟨gt, T, rfl, hge, hT, TT, b2⟩
    have HTT := Lib.hid TT
    have HLT : Hid (T.length = n1) := TT.len
    have HS0 : Hid (StS W.heap.size W w2 gt n1 T (some ⟨w.heap.size + 1, 0, none⟩) 0 0 (grpsI l m 0) []) := by
      refine ⟨HO1.out.below b2, fun e => ?_, hT, ?_, HB1.out.trans (b2.mono HB1.out.size), Nat.le_trans HB1.out.size b2.size⟩
      · have e2 : w.heap.size + 1 = gt := by simpa [Value.ownBlock] using e
        omega
      · rcases hT.2 with h0 | ⟨bb, off, hp, hbb, _⟩
        · exact .inl h0
        · injection hp with hp
          injection hp with h1 h2
          rw [h1]
          exact .inr hbb
    have HM3 : Hid (∀ wr, Below W.heap.size W wr → Holds wr a1 n1 l ∧ wr.cell? ⟨w.heap.size, 0, none⟩ = some (.slice a1 n1 n1)) := fun wr hwr => ⟨H1.out.below hwr, (hwr.cell (p := ⟨w.heap.size, 0, none⟩) hsz).trans HF.out.1⟩
    have HBB : Hid (∀ t, t < n1 → (Nat.testBit 0 t = true ↔ Done l m 0 t)) := fun t _ => ⟨fun h => by simp at h, fun h => absurd h done_zero⟩
    clear hT TT b2 r1 r2 hge
    go_wp2_with fail
    go_loopw [4, 6, 7] (fun s4 s6 s7 wr => ∃ (i z : Nat) (p : Option Addr) (D d : Nat) (vs : List Value), i ≤ n1 ∧ z < 1024 ∧ s7 = .int .i64 i ∧ s6 = .int .i64 z ∧ s4 = .slice p D d ∧ D ≤ i ∧ Hid (∀ t, t < n1 → (z.testBit t = true ↔ Done l m i t)) ∧ Hid (StS W.heap.size W wr gt n1 T p D d (grpsI l m i) vs)) (fun _ _ s7 _ => n1 - (intOf s7).toNat)
    case atStart => exact ⟨0, 0, _, 0, 0, [], Nat.zero_le _, by omega, rfl, rfl, rfl, by omega, HBB, HS0⟩
    case round =>
      clear HS0 HBB
      obtain ⟨i, z, p, D, d, vs, hile, hz, rfl, rfl, rfl, hDi, HZ, HS⟩ := hrel
      obtain ⟨hH, p1⟩ := HM3.out wr HS.out.bel
      by_cases hlt : i < n1
      · have hin : (i : Int) < (n1 : Int) := by omega
        have hi00 : (0 : Int) ≤ (i : Int) := by omega
        obtain ⟨b, off, x, y, rfl, hx, e1, e2⟩ := hH.at i hlt
        have hxi := num_at HG.out hx
        obtain ⟨bb, oo, zz, hp, hzz, e3⟩ := HS.out.tab.at i hlt
        obtain ⟨ti, ht, rfl⟩ := row_at hzz
        injection hp with hp
        injection hp with hp1 hp2
        subst hp1 hp2
        rw [Nat.zero_add] at e3
        have hti10 := bd hn1 (HTT.out.bd i ti ht)
        have hbit : ti.testBit i = sus m x := tbit HG.out HL1.out HTT.out hxi hxi ht
        have hl4 := l4Bit_any ti i hti10 (by omega)
        rw [hbit] at hl4
        have HL4 := Lib.hid hl4
        have HL5 := Lib.hid (l4Bit_any z i hz (by omega))
        have HXI := Lib.hid hxi
        have HX := Lib.hid hx
        have HTI := Lib.hid ht
        have hs0 := HS.out.le
        clear hx hxi hzz ht hbit hl4 hH
        go_wp2_with fail
        refine (HL4.out wr).mono ?_
        rintro e w' ⟨rfl, hw'⟩
        have hw2 := hw'.symm
        subst hw2
        clear hw'
        cases hq : sus m x with
        | false =>
          have HX2 : Hid (grpsI l m (i + 1) = grpsI l m i) := grpsI_miss HX.out hq
          have HZ2 : Hid (∀ t, t < n1 → (z.testBit t = true ↔ Done l m (i + 1) t)) := fun t ht => (HZ.out t ht).trans (done_not (by rw [mtlI_self HX.out]; exact hq)).symm
          have HS2 := HS
          rw [← HX2.out] at HS2
          clear hq
          go_wp2_with fail
          exact ⟨⟨i + 1, z, _, _, _, _, by omega, hz, by go_num, rfl, rfl, by omega, HZ2, HS2⟩, by simp [intOf]; omega⟩
        | true =>
          have HQ := Lib.hid hq
          clear hq
          go_wp2_with fail
          refine (HL5.out _).mono ?_
          rintro e w' ⟨rfl, hw'⟩
          have hw2 := hw'.symm
          subst hw2
          clear hw'
          cases hd : z.testBit i with
          | true =>
            have hdn := (HZ.out i hlt).1 hd
            have HX2 : Hid (grpsI l m (i + 1) = grpsI l m i) := grpsI_old HG.out HX.out hdn
            have HZ2 : Hid (∀ t, t < n1 → (z.testBit t = true ↔ Done l m (i + 1) t)) := fun t ht => (HZ.out t ht).trans (done_old hdn).symm
            have HS2 := HS
            rw [← HX2.out] at HS2
            clear hd hdn
            go_wp2_with fail
            exact ⟨⟨i + 1, z, _, _, _, _, by omega, hz, by go_num, rfl, rfl, by omega, HZ2, HS2⟩, by simp [intOf]; omega⟩
          | false =>
            have hdn : ¬ Done l m i i := fun h => by have := (HZ.out i hlt).2 h; rw [hd] at this; cases this
            have HX2 : Hid (grpsI l m (i + 1) = grpsI l m i ++ [grp l m x]) := grpsI_new HX.out HQ.out hdn
            have HZ2 : Hid (∀ t, t < n1 → (z.testBit t = true ↔ DoneTo l m i i t)) := fun t ht => (HZ.out t ht).trans doneTo_start.symm
            have HG0 : Hid (That.G1 wr.heap.size wr (wr.alloc (.cells #[] 3)) (.slice (some ⟨wr.heap.size, 0, none⟩) 0 0) (sel (mtl m x) (l.take i))) := by
              unfold Hid
              rw [before_none HX.out hdn]
              exact ⟨That.empty_own (T := 3) wr, below_alloc wr _⟩
            clear hd hdn
            go_wp2_with fail
            obtain ⟨w5, hw5⟩ : ∃ w5, w5 = wr := ⟨_, rfl⟩
            subst hw5
            generalize w5.alloc (.cells #[] 3) = V5 at *
            have HS5 := HS
            clear HS
            go_loopw [6, 8, 9] (fun s6 s8 s9 wq => ∃ (k z' : Nat), i ≤ k ∧ k ≤ n1 ∧ z' < 1024 ∧ s9 = .int .i64 k ∧ s6 = .int .i64 z' ∧ Hid (∀ t, t < n1 → (z'.testBit t = true ↔ DoneTo l m i k t)) ∧ Hid (That.G1 w5.heap.size w5 wq s8 (sel (mtl m x) (l.take k)))) (fun _ _ s9 _ => n1 - (intOf s9).toNat)
            case atStart => exact ⟨i, z, Nat.le_refl _, by omega, hz, rfl, rfl, HZ2, HG0⟩
            case round =>
              clear HG0 HZ2
              obtain ⟨k, z', hik, hkn1, hz', rfl, rfl, HZ3, HG1⟩ := hrel
              obtain ⟨p8, d8, hv8⟩ := From.own_form HG1.out.1
              subst hv8
              have HBQ := Lib.hid HG1.out.2
              have HSq := Lib.hid (HS5.out.below HBQ.out)
              obtain ⟨hHq, p1q⟩ := HM3.out _ HSq.out.bel
              have hsq := HBQ.out.size
              by_cases hlt2 : k < n1
              · have hkn : (k : Int) < (n1 : Int) := by omega
                have hk00 : (0 : Int) ≤ (k : Int) := by omega
                obtain ⟨b2, off2, xk, yk, hbb, hxk, k1, k2⟩ := hHq.at k hlt2
                injection hbb with hbb
                injection hbb with hb1 hb2
                subst hb1 hb2
                have hxki := num_at HG.out hxk
                obtain ⟨bb, oo, zz, hp, hzz, k3⟩ := HSq.out.tab.at i hlt
                injection hp with hp
                injection hp with hp1 hp2
                subst hp1 hp2
                obtain ⟨ti', hti', rfl⟩ := row_at hzz
                rw [HTI.out] at hti'
                injection hti' with hti'
                subst hti'
                obtain ⟨bb, oo, zz, hp, hzz2, k4⟩ := HSq.out.tab.at k hlt2
                injection hp with hp
                injection hp with hp1 hp2
                subst hp1 hp2
                obtain ⟨tk, htk, rfl⟩ := row_at hzz2
                rw [Nat.zero_add] at k3 k4
                have htk10 := bd hn1 (HTT.out.bd k tk htk)
                have hb1 : ti.testBit k = later m x xk := tbit HG.out HL1.out HTT.out HXI.out hxki HTI.out
                have hb2 : tk.testBit i = later m xk x := tbit HG.out HL1.out HTT.out hxki HXI.out htk
                have HM : Hid (mtlI l m i k = (later m x xk && later m xk x)) := mtlI_eq HX.out hxk
                have HMx : Hid (mtl m x xk = (later m x xk && later m xk x)) := rfl
                have hla := l4Bit_any ti k hti10 (by omega)
                have hlb := l4Bit_any tk i htk10 (by omega)
                rw [hb1] at hla
                rw [hb2] at hlb
                have HLA := Lib.hid hla
                have HLB := Lib.hid hlb
                have HSN := Lib.hid (sel_next (mtl m x) hxk)
                have hkk : (sel (mtl m x) (l.take k)).length ≤ k := by
                  have := sel_len (mtl m x) (l.take k)
                  rw [List.length_take] at this
                  omega
                clear hxk hxki hzz hzz2 htk hb1 hb2 hla hlb hHq
                go_wp2_with fail
                refine (HLA.out _).mono ?_
                rintro e w' ⟨rfl, hw'⟩
                have hw2 := hw'.symm
                subst hw2
                clear hw'
                have miss : (later m x xk && later m xk x) = false → Hid (∀ t, t < n1 → (z'.testBit t = true ↔ DoneTo l m i (k + 1) t)) ∧ sel (mtl m x) (l.take (k + 1)) = sel (mtl m x) (l.take k) := fun h =>
                  ⟨bit_miss (by rw [HM.out]; exact h) HZ3.out, by rw [HSN.out, HMx.out, h]; simp⟩
                have hit : (later m x xk && later m xk x) = true → Hid (∀ t, t < n1 → ((z' ||| 2 ^ k).testBit t = true ↔ DoneTo l m i (k + 1) t)) ∧ sel (mtl m x) (l.take (k + 1)) = sel (mtl m x) (l.take k) ++ [xk] := fun h =>
                  ⟨bit_hit hik (by rw [HM.out]; exact h) HZ3.out, by rw [HSN.out, HMx.out, h]; simp⟩
                have MISS := Lib.hid miss
                have HIT := Lib.hid hit
                clear miss hit
                cases hq1 : later m x xk with
                | false =>
                  obtain ⟨HZ4, hsame⟩ := MISS.out (by rw [hq1]; rfl)
                  have HG2 : Hid (That.G1 w5.heap.size w5 wr (.slice p8 (sel (mtl m x) (l.take k)).length d8) (sel (mtl m x) (l.take (k + 1)))) := by
                    unfold Hid
                    rw [hsame]
                    exact HG1.out
                  clear hsame MISS HIT
                  go_wp2_with fail
                  exact ⟨⟨k + 1, z', by omega, by omega, hz', by go_num, rfl, HZ4, HG2⟩, by simp [intOf]; omega⟩
                | true =>
                  have HQ1 := Lib.hid hq1
                  clear hq1
                  go_wp2_with fail
                  refine (HLB.out _).mono ?_
                  rintro e w' ⟨rfl, hw'⟩
                  have hw2 := hw'.symm
                  subst hw2
                  clear hw'
                  cases hq2 : later m xk x with
                  | false =>
                    obtain ⟨HZ4, hsame⟩ := MISS.out (by rw [hq2, Bool.and_false])
                    have HG2 : Hid (That.G1 w5.heap.size w5 wr (.slice p8 (sel (mtl m x) (l.take k)).length d8) (sel (mtl m x) (l.take (k + 1)))) := by
                      unfold Hid
                      rw [hsame]
                      exact HG1.out
                    clear hsame MISS HIT hq2
                    go_wp2_with fail
                    exact ⟨⟨k + 1, z', by omega, by omega, hz', by go_num, rfl, HZ4, HG2⟩, by simp [intOf]; omega⟩
                  | true =>
                    obtain ⟨HZ4, hmore⟩ := HIT.out (by rw [HQ1.out, hq2]; rfl)
                    have HMORE := Lib.hid hmore
                    have hown := HG1.out.1
                    have hpn := pow_lt hlt2 hn1
                    have hor := shl_or z' k hz' hpn
                    have HOR := Lib.hid hor
                    have HZL := Lib.hid (or_lt hz' (show k < 10 by omega))
                    clear hor hmore MISS HIT hq2
                    generalize sel (mtl m x) (l.take k) = Q at *
                    go_wp2_with (at_builtin; go_loud (refine wpList_append_lies _ rfl _ _ 29 rfl w5.heap.size 3 i1 (.int .i64 0) 1 8 Try.underlying29 hi1 hw0 hw1 hw2 rfl (by decide) (.slice p8 Q.length d8) Q.length (ints Q) rfl (hown.alloc _) ⟨wr.heap.size, 0, none⟩ 1 1 [.int .i64 xk] rfl rfl (cell_one_new _ _ _) (by simp [Value.oneCell']) (by decide) (by unfold maxLen; omega) (by omega) (by simp; omega) (wr.heap.size + 1) (by simp) ?_; intro g9 cap9 w9 hown9 hgrow9 hat9 hlt9; have HG9 := Lib.hid (g1_app HG1.out hsq (below_alloc wr _) hown9 hgrow9); clear hown9 hgrow9 hat9 hlt9))
                    rw [← HMORE.out] at HG9
                    rw [HOR.out]
                    exact ⟨⟨k + 1, z' ||| 2 ^ k, by omega, by omega, HZL.out, by go_num, rfl, HZ4, HG9⟩, by simp [intOf]; omega⟩
              · obtain rfl : k = n1 := by omega
                have hkn : ¬ (k : Int) < (k : Int) := by omega
                have HE9 : Hid (∀ t, t < k → (z'.testBit t = true ↔ Done l m (i + 1) t)) := fun t ht => (HZ3.out t ht).trans (doneTo_end HL1.out)
                have hgr := HG1.out.1
                rw [List.take_of_length_le (by rw [HL1.out]; exact Nat.le_refl _)] at hgr
                have hgr2 : wr.ownsRow w5.heap.size 3 1 (.slice p8 (grp l m x).length d8) (grp l m x).length (ints (grp l m x)) := hgr
                have HGR := Lib.hid hgr2
                have hDl := HS5.out.own.len
                have hgl := grp_len l m x
                rw [HL1.out] at hgl
                clear hgr hgr2 HZ3 HG1
                generalize grpsI l m i = R at *
                rw [List.take_of_length_le (show l.length ≤ k by rw [HL1.out]; exact Nat.le_refl _), show sel (mtl m x) l = grp l m x from rfl]
                generalize grp l m x = G at *
                subst hDl
                have hown3 := HSq.out.own.out
                have hle3 := HSq.out.le
                have hR9 : R.length ≤ 10 := by omega
                have hk0 : 0 < k := by omega
                go_wp2_with (at_builtin; go_loud (refine wpList_append_lies _ rfl _ _ 44 rfl W.heap.size 29 i0 (.slice none 0 0) 1 24 Try.underlying44 hi hy0 hy1 hy2 rfl (by decide) (.slice p R.length d) R.length vs rfl (hown3.alloc _) ⟨wr.heap.size, 0, none⟩ 1 1 [.slice p8 G.length d8] rfl rfl (cell_one_new _ _ _) (by simp [Value.oneCell']) (by decide) (by unfold maxLen; omega) (by omega) (by simp <;> omega) (wr.heap.size + 1) (by simp) ?_; intro g9 cap9 w9 hown9 hgrow9 hat9 hlt9))
                have HRN := Lib.hid (HS5.out.app hk0 (HBQ.out.trans ((below_alloc wr (.cells #[.slice p8 G.length d8] 29)).mono HBQ.out.size)) (HGR.out.alloc _) hown9 hgrow9 (hat9.imp_right (fun e => by simp <;> omega)))
                rw [← HX2.out] at HRN
                clear hown9 hgrow9 hat9 hlt9 hown3
                exact ⟨⟨i + 1, z', _, _, _, _, by omega, hz', by go_num, rfl, rfl, by omega, HE9, HRN⟩, by simp [intOf]; omega⟩
      · obtain rfl : i = n1 := by omega
        have hin : ¬ (i : Int) < (i : Int) := by omega
        have hO := HS.out.own
        rw [grpsI_end HL1.out] at hO
        have hDl := hO.len
        have hoff := grps_off (l := l) (m := m) (sel (sus m) l)
        have hsl := sel_len (sus m) l
        rw [HL1.out] at hsl
        rw [hDl, HL1.out] at hoff
        have HO := Lib.hid hO
        have HBD := Lib.hid (HB.out.trans (HS.out.bel.mono HB.out.size))
        have hoff2 : SS.off (grps l m (sel (sus m) l)) D ≤ 1000000 := Nat.le_trans hoff (Nat.le_trans (Nat.mul_le_mul (show _ ≤ 10 by omega) hn1) (by decide))
        have HOFF := Lib.hid hoff2
        clear hO hDl hoff hoff2 hH p1
        go_wp2_with fail
        go_ret2
        rw [HE.out]
        exact ⟨_, _, _, vs, rfl, HO.out.base HB.out.size, by omega, HOFF.out, HBD.out⟩
end Go.Proofs.Ytfjpogohdoojmaa.GrpS
