/- The model's l9Own: the interval of every context. -/
import Derived.Test.YtmjhgjlnpnkmkaaIvI
import Derived.Test.YtmjhgjlnpnkmkaaEvS
import Derived.Test.YtmjhgjlnpnkmkaaElems
import Derived.Test.YtmjhgjlnpnkmkaaFcI
import Derived.Test.YtmjhgjlnpnkmkaaConsistB
import Derived.Test.YtmjhgjlnpnkmkaaLawKit
import Derived.Test.YtmjhgjlnpnkmkaaDaT
import Derived.Test.YtmjhgjlnpnkmkaaDa
namespace Go.Proofs.Ytmjhgjlnpnkmkaa.IvS
open Go.RowKit Pairs Rec RecEq Chain Find2 GoodM Keep GivesI Da DaT DaG EvM IvM RepI IvI Elems
set_option linter.unusedVariables false
def GV (B : Nat) (w wr : World) (v : Value) (L : List (Int × Int)) : Prop := wr.ownsRow B 64 2 v L.length (flat L) ∧ Below B w wr
def OwnR (L : List (Int × Int)) (w : World) (e : Ending) (w' : World) : Prop :=
  ∃ (p : Option Addr) (d : Nat), e = .returned (.slice p L.length d) ∧ w'.ownsRow w.heap.size 64 2 (.slice p L.length d) L.length (flat L) ∧ Below w.heap.size w w'
/-- The box of the round: an interval, and all that stood before it. -/
def Bx (wr wi : World) (v : Int × Int) : Prop := wi.heap[wr.heap.size]? = some (.cells #[.int .i64 v.1, .int .i64 v.2] 64) ∧ Below wr.heap.size wr wi
theorem Bx.new (wr : World) (a b : Int) : Bx wr (wr.alloc (.cells #[.int .i64 a, .int .i64 b] 64)) (a, b) := by
  refine ⟨?_, below_alloc wr _⟩
  show (wr.heap.push _)[wr.heap.size]? = _
  rw [Array.getElem?_push, if_pos rfl]
theorem Bx.cells {wr wi : World} {v : Int × Int} (h : Bx wr wi v) : (wi.cell? ⟨wr.heap.size, 0, none⟩ = some (.int .i64 v.1) ∧ wi.cell? ⟨wr.heap.size, 1, none⟩ = some (.int .i64 v.2)) ∧ wi.frozen? ⟨wr.heap.size, 0, none⟩ = false ∧ wi.frozen? ⟨wr.heap.size, 1, none⟩ = false := by
  refine ⟨⟨?_, ?_⟩, ?_, ?_⟩
  · unfold World.cell?; rw [h.1]; rfl
  · unfold World.cell?; rw [h.1]; rfl
  · unfold World.frozen?; rw [h.1]; rfl
  · unfold World.frozen?; rw [h.1]; rfl
theorem Bx.quiet {wr wi : World} {v : Int × Int} (h : Bx wr wi v) (d : Nat) (os : Array Obj) : Bx wr (Sort.grow (redrawn wi d) os) v := by
  have hlt : wr.heap.size < wi.heap.size := (Array.getElem?_eq_some_iff.1 h.1).1
  have hb := below_regrown wi d os
  refine ⟨?_, h.2.trans (hb.mono (Nat.le_of_lt hlt))⟩
  rw [hb.block _ hlt]
  exact h.1
theorem Bx.put {wr wi : World} {v : Int × Int} (h : Bx wr wi v) (a b : Int) : Bx wr ((wi.setCell ⟨wr.heap.size, 0, none⟩ (.int .i64 a)).setCell ⟨wr.heap.size, 1, none⟩ (.int .i64 b)) (a, b) := by
  refine ⟨?_, (h.2.setCell (p := ⟨wr.heap.size, 0, none⟩) (Nat.le_refl _) _).setCell (p := ⟨wr.heap.size, 1, none⟩) (Nat.le_refl _) _⟩
  have h1 := heap_setCell_same wi wr.heap.size 0 _ _ (.int .i64 a) h.1
  have h2 := heap_setCell_same _ wr.heap.size 1 _ _ (.int .i64 b) h1
  exact h2
theorem take_own {l : List (Int × Int)} {L : List Dt} {k : Nat} {x y : Int} (h : l[k]? = some (x, y)) : (own l L).take (k + 1) = (own l L).take k ++ [iv L x] := by
  rw [List.take_add_one, own_at h]; rfl
set_option maxRecDepth 100000 in
set_option maxHeartbeats 8000000 in
theorem l9Own_any (a1 a2 p : Option Addr) (n1 c1 n2 c2 np cp : Nat) (l : List (Int × Int)) (L : List Dt) (w : World) (hz : n1 ≤ 10) (hp : np ≤ 1048576) (h : Holds w a1 n1 l) (hL : HoldsD w p np L) (hE : evi l L = true) :
    Calls Try.prog 57 #[.agg #[.slice a1 n1 c1, .slice a2 n2 c2], .slice p np cp] w (OwnR (own l L) w) := by
  obtain ⟨i0, hi, hy0, hy1, hy2⟩ := info_parts infoV
  obtain ⟨W, hW⟩ : ∃ W, w.alloc (.cells #[.slice a1 n1 c1, .slice a2 n2 c2] 33) = W := ⟨_, rfl⟩
  have hWs : W.heap.size = w.heap.size + 1 := by rw [← hW]; simp
  have hb : Below w.heap.size w W := by rw [← hW]; exact below_alloc w _
  have hf : W.cell? ⟨w.heap.size, 0, none⟩ = some (.slice a1 n1 c1) := by rw [← hW]; exact box_first w _ _ _
  have H1 := Lib.hid (h.below hb)
  have HL := Lib.hid (hL.below hb)
  have HE := Lib.hid hE
  have HB := Lib.hid hb
  have HLL := Lib.hid hL.1
  have HL1 := Lib.hid h.1
  have HWS := Lib.hid hWs
  have hfz := World.block_lt_of_cell? W _ hf
  have HG0 : Hid (GV W.heap.size W (W.alloc (.cells #[] 64)) (.slice (some ⟨W.heap.size, 0, none⟩) 0 0) ((own l L).take 0)) := ⟨Elems.empty_own W, below_alloc W _⟩
  clear h hL hb hE hWs
  go_enter Try.func57, Try.ntmps57
  go_wp2_with fail
  clear hW
  generalize W.alloc (.cells #[] 64) = V at *
  go_loopw [5, 6] (fun s5 s6 wr => ∃ k : Nat, k ≤ n1 ∧ s6 = .int .i64 k ∧ Hid (GV W.heap.size W wr s5 ((own l L).take k))) (fun _ s6 _ => n1 - (intOf s6).toNat)
  case atStart => exact ⟨0, Nat.zero_le _, rfl, HG0⟩
  case round =>
    clear HG0
    obtain ⟨k, hk, rfl, HR⟩ := hrel
    obtain ⟨wo, rfl⟩ : ∃ z, z = wr := ⟨wr, rfl⟩
    by_cases hlt : k < n1
    · have hkn : (k : Int) < (n1 : Int) := by omega
      have hk0 : (0 : Int) ≤ (k : Int) := by omega
      have q1 := (HR.out.2.cell (p := ⟨w.heap.size, 0, none⟩) hfz).trans hf
      obtain ⟨b, off, x, y, rfl, hx, e1, e2⟩ := (H1.out.below HR.out.2).at k hlt
      have HX := Lib.hid hx
      have HX0 := Lib.hid (Bx.new wo (-20000) 2100)
      have hfr := Nat.lt_of_lt_of_le hfz HR.out.2.size
      have hbr := World.block_lt_of_cell? wo _ e1
      clear hx e2
      go_wp2_with fail
      generalize wo.alloc (.cells #[.int .i64 (-20000), .int .i64 2100] 64) = Y at *
      go_loopw [8] (fun s8 wi => ∃ j : Nat, j ≤ np ∧ s8 = .int .i64 j ∧ Hid (Bx wo wi (iv (L.take j) x))) (fun s8 _ => np - (intOf s8).toNat)
      case atStart => exact ⟨0, Nat.zero_le _, rfl, HX0⟩
      case round =>
        clear HX0
        obtain ⟨j, hj, rfl, HI⟩ := hrel
        have z1 := (HI.out.2.cell (p := ⟨w.heap.size, 0, none⟩) hfr).trans q1
        have z2 := (HI.out.2.cell hbr).trans e1
        by_cases hlj : j < np
        · have hjn : (j : Int) < (np : Int) := by omega
          have hj0 : (0 : Int) ≤ (j : Int) := by omega
          obtain ⟨b2, off2, u, y2, z2', rfl, hu, g1, g2, g3⟩ := ((HL.out.below HR.out.2).below HI.out.2).at j hlj
          have HU := Lib.hid (iv_next HE.out hu x)
          have k1 := cell_regrown z1
          have k2 := cell_regrown z2
          have k3 := cell_regrown g1
          have hr1 := World.block_lt_of_cell? wr _ g1
          clear hu
          by_cases hux : u = x
          · have HU2 : Hid (iv (L.take (j + 1)) x = (y2, z2')) := by unfold Hid; rw [HU.out, if_pos hux]
            have hde : (u == x) = true := by simp [hux]
            clear HU
            go_wp2_with fail
            refine wp_region_quiet_below (by kernel_rfl) (by kernel_rfl) ?_
            repeat (go_big_quiet_step (fail))
            refine wpQuiet_nil ?_
            intro _ hw'
            obtain ⟨⟨dq, osq⟩, hw''⟩ := hw'
            subst hw''
            have hbq := below_regrown wr dq osq
            have HIQ := Lib.hid (HI.out.quiet dq osq)
            have v1 := (hbq.cell (World.block_lt_of_cell? wr _ g1)).trans g1
            have v2 := (hbq.cell (World.block_lt_of_cell? wr _ g2)).trans g2
            have v3 := (hbq.cell (World.block_lt_of_cell? wr _ g3)).trans g3
            clear k1 k2 k3 g1 g2 g3 hbq HI z1 z2 hr1
            generalize Sort.grow (redrawn wr dq) osq = W5 at *
            obtain ⟨⟨c1', c2'⟩, f1, f2⟩ := HIQ.out.cells
            have HI2 : Hid (Bx wo ((W5.setCell ⟨wo.heap.size, 0, none⟩ (.int .i64 y2)).setCell ⟨wo.heap.size, 1, none⟩ (.int .i64 z2')) (iv (L.take (j + 1)) x)) := by
              unfold Hid
              rw [HU2.out]
              exact HIQ.out.put y2 z2'
            go_wp2_with fail
            exact ⟨⟨j + 1, by omega, by go_num, HI2⟩, by simp [intOf]; omega⟩
          · have HU2 : Hid (iv (L.take (j + 1)) x = iv (L.take j) x) := by unfold Hid; rw [HU.out, if_neg hux]
            have hde : (u == x) = false := by simp [hux]
            clear HU
            go_wp2_with fail
            refine wp_region_quiet_below (by kernel_rfl) (by kernel_rfl) ?_
            repeat (go_big_quiet_step (fail))
            refine wpQuiet_nil ?_
            intro _ hw'
            obtain ⟨⟨dq, osq⟩, hw''⟩ := hw'
            subst hw''
            have HIQ : Hid (Bx wo (Sort.grow (redrawn wr dq) osq) (iv (L.take (j + 1)) x)) := by
              unfold Hid
              rw [HU2.out]
              exact HI.out.quiet dq osq
            clear k1 k2 k3 g1 g2 g3 HI z1 z2 hr1
            generalize Sort.grow (redrawn wr dq) osq = W5 at *
            go_wp2_with fail
            exact ⟨⟨j + 1, by omega, by go_num, HIQ⟩, by simp [intOf]; omega⟩
        · obtain rfl : j = np := by omega
          have hjj : ¬ (j : Int) < (j : Int) := by omega
          have HI3 : Hid (Bx wo wr (iv L x)) := by
            have := HI.out
            rw [List.take_of_length_le (by rw [HLL.out]; exact Nat.le_refl _)] at this
            exact this
          obtain ⟨⟨c1', c2'⟩, f1, f2⟩ := HI3.out.cells
          have hown := ownsRow_below HR.out.1 HI3.out.2
          have hln : ((own l L).take k).length ≤ 10 := by rw [List.length_take, own_len]; omega
          have hs5 : W.heap.size ≤ wr.heap.size := Nat.le_trans HR.out.2.size HI3.out.2.size
          clear HI
          go_wp2_with (at_builtin; refine wpList_append_own _ rfl _ _ 48 rfl W.heap.size 64 i0 (.agg #[.int .i64 0, .int .i64 0]) 2 16 Try.underlying48 hi hy0 hy1 hy2 rfl (by decide) _ _ _ rfl (hown.alloc _) ⟨wr.heap.size, 0, none⟩ 1 1 [.int .i64 (iv L x).1, .int .i64 (iv L x).2] rfl rfl (cell_two_new _ _ _ _) (by simp [Value.oneCell']) (by unfold maxLen; omega) (by omega) (by simp; omega) ?_; intro v' w9 hown' hgrow hnil)
          have HG9 : Hid (GV W.heap.size W w9 v' ((own l L).take (k + 1))) := by
            unfold Hid GV
            rw [take_own HX.out, List.length_append, Elems.flat_append]
            exact ⟨hown', ((HR.out.2.trans (HI3.out.2.mono HR.out.2.size)).alloc hs5 _).grown hgrow (by simp; omega) (fun j hj => (hown.lt j hj).1)⟩
          clear hown' hgrow hown hnil
          exact ⟨⟨k + 1, by omega, by go_num, HG9⟩, by simp [intOf]; omega⟩
    · obtain rfl : k = n1 := by omega
      have hkn : ¬ (k : Int) < (k : Int) := by omega
      have q1 := (HR.out.2.cell (p := ⟨w.heap.size, 0, none⟩) hfz).trans hf
      have HO : Hid (wo.ownsRow W.heap.size 64 2 u5 (own l L).length (flat (own l L)) ∧ Below W.heap.size W wo) := by
        have := HR.out
        rw [List.take_of_length_le (by rw [own_len, HL1.out]; exact Nat.le_refl _)] at this
        exact this
      clear HR
      obtain ⟨p', d, rfl⟩ := Elems.own_form HO.out.1
      go_wp2_with fail
      go_ret
      exact ⟨_, _, rfl, ownsRow_base HO.out.1 HB.out.size, HB.out.trans (HO.out.2.mono HB.out.size)⟩
end Go.Proofs.Ytmjhgjlnpnkmkaa.IvS

namespace Go.Proofs.Ytmjhgjlnpnkmkaa.FcS
open Go.RowKit Pairs Rec RecEq Chain Find2 GoodM Keep GivesI Da DaT DaG EvM IvM LpM FcM FcI IvS Lows Order Bit Table Idx That IsLater Consist
set_option linter.unusedVariables false
theorem results_tmp4 {fn : Func} {t u v x : Tmp} (h : fn.results = #[.tmp t, .tmp u, .tmp v, .tmp x]) (tmps : Array Value) (P : Program) (w : World) :
    (results fn tmps).run P w = .ok (.tuple #[tmps.getD t undef, tmps.getD u undef, tmps.getD v undef, tmps.getD x undef]) w := by
  simp [results, h]
set_option maxRecDepth 100000 in
set_option maxHeartbeats 8000000 in
theorem spec_any : Says4 24 := by
  intro a1 a2 p n1 c1 n2 c2 np cp l m L w z1 z2 z3 h1 h2 h3
  obtain ⟨W, hW⟩ : ∃ W, w.alloc (.cells #[.slice a1 n1 c1, .slice a2 n2 c2] 33) = W := ⟨_, rfl⟩
  have hb : Below w.heap.size w W := by rw [← hW]; exact below_alloc w _
  have hf : W.cell? ⟨w.heap.size, 0, none⟩ = some (.slice a1 n1 c1) := by rw [← hW]; exact box_first w _ _ _
  have hf2 : W.cell? ⟨w.heap.size, 1, none⟩ = some (.slice a2 n2 c2) := by rw [← hW]; exact box_second w _ _ _
  have H1 := Lib.hid (h1.below hb)
  have H2 := Lib.hid (h2.below hb)
  have H3 := Lib.hid (h3.below hb)
  have HB := Lib.hid hb
  have HL1 := Lib.hid h1.1
  clear h1 h2 h3 hb
  go_enter Try.func24, Try.ntmps24
  go_wp2_with fail
  clear hW
  refine (EvS.l9Good_any a1 a2 p n1 c1 n2 c2 np cp l m L W z1 z2 z3 H1.out H2.out H3.out).mono ?_
  rintro e w1 ⟨rfl, b1⟩
  have r1 := (b1.cell (World.block_lt_of_cell? W _ hf)).trans hf
  have r2 := (b1.cell (World.block_lt_of_cell? W _ hf2)).trans hf2
  have HB1 := Lib.hid (HB.out.trans (b1.mono HB.out.size))
  have K1 := Lib.hid (H1.out.below b1)
  have K2 := Lib.hid (H2.out.below b1)
  have K3 := Lib.hid (H3.out.below b1)
  clear b1 hf hf2 H1 H2 H3
  cases hev : evP l m L with
  | false =>
    have HF := Lib.hid (fcP_no hev)
    clear hev
    go_wp2_with fail
    ((try simp only [Exit.inBlock, Exit.then]); refine bodyPost_ret (results_tmp4 rfl _ _ _) rfl ?_)
    exact ⟨by rw [HF.out]; rfl, HB1.out⟩
  | true =>
    have HF := Lib.hid (fcP_yes hev)
    obtain ⟨hg, hevi⟩ := ev_parts hev
    have HG := Lib.hid hg
    have HEV := Lib.hid hevi
    have hn10 : n1 ≤ 10 := by rw [← HL1.out]; exact (Table.good_few hg).1
    have HLO : Hid ((own l L).length = n1) := by unfold Hid; rw [own_len, HL1.out]
    clear hev hg hevi
    go_wp2_with fail
    refine (l9Own_any a1 a2 p n1 c1 n2 c2 np cp l L w1 hn10 z3 K1.out K3.out HEV.out).mono ?_
    rintro e w2 ⟨p', d, rfl, hown, b2⟩
    rw [HLO.out]
    rw [HLO.out] at hown
    have HO := Lib.hid (Keep.holds_own hown)
    have s1 := (b2.cell (World.block_lt_of_cell? w1 _ r1)).trans r1
    have s2 := (b2.cell (World.block_lt_of_cell? w1 _ r2)).trans r2
    have HB2 := Lib.hid (HB1.out.trans (b2.mono HB1.out.size))
    have J1 := Lib.hid (K1.out.below b2)
    have J2 := Lib.hid (K2.out.below b2)
    clear b2 hown r1 r2 K1 K2 K3
    go_wp2_with fail
    refine (later_any a1 a2 n1 c1 n2 c2 l m w2 HG.out J1.out J2.out).mono ?_
    rintro e w3 ⟨g, T, rfl, hge, hT, TT, b3⟩
    have q1 := (b3.cell (World.block_lt_of_cell? w2 _ s1)).trans s1
    have HB3 := Lib.hid (HB2.out.trans (b3.mono HB2.out.size))
    have M1 := Lib.hid (J1.out.below b3)
    have MO := Lib.hid (HO.out.below b3)
    have HT := Lib.hid TT
    have HTT := Lib.hid hT
    clear b3 s1 s2 J1 J2 HO hT TT hge
    go_wp2_with fail
    go_loopw [10] (fun s10 wr => ∃ i : Nat, i ≤ n1 ∧ s10 = .int .i64 i ∧ Hid ((upto l m i 0).find? (cf (own l L)) = none ∧ Below w3.heap.size w3 wr)) (fun s10 _ => n1 - (intOf s10).toNat)
    case atStart => exact ⟨0, Nat.zero_le _, rfl, rfl, Below.refl _ _⟩
    case round =>
      obtain ⟨i, hi, rfl, HR⟩ := hrel
      obtain ⟨wo, rfl⟩ : ∃ z, z = wr := ⟨wr, rfl⟩
      by_cases hlt : i < n1
      · have hin : (i : Int) < (n1 : Int) := by omega
        have hi0 : (0 : Int) ≤ (i : Int) := by omega
        go_wp2_with fail
        go_loopw [11] (fun s11 wi => ∃ j : Nat, j ≤ n1 ∧ s11 = .int .i64 j ∧ Hid ((upto l m i j).find? (cf (own l L)) = none ∧ Below w3.heap.size w3 wi)) (fun s11 _ => n1 - (intOf s11).toNat)
        case atStart => exact ⟨0, Nat.zero_le _, rfl, HR.out⟩
        case round =>
          clear HR
          obtain ⟨j, hj, rfl, HI⟩ := hrel
          by_cases hlj : j < n1
          · have hjn : (j : Int) < (n1 : Int) := by omega
            have hj0 : (0 : Int) ≤ (j : Int) := by omega
            obtain ⟨bb, off, z, hp, hz, e1⟩ := (HTT.out.below HI.out.2).at i hlt
            obtain ⟨x, hx, rfl⟩ := row_at hz
            injection hp with hp
            injection hp with hp1 hp2
            subst hp1 hp2
            rw [Nat.zero_add] at e1
            obtain ⟨b1, o1, x1, y1, rfl, hx1, d1, d2⟩ := (M1.out.below HI.out.2).at i hlt
            obtain ⟨b1', o1', x2, y2, hpp, hx2, d3, d4⟩ := (M1.out.below HI.out.2).at j hlj
            injection hpp with hpp
            injection hpp with hp1 hp2
            subst hp1 hp2
            obtain ⟨b3, o3, f1, t1, rfl, ho1, g1, g2⟩ := (MO.out.below HI.out.2).at i hlt
            obtain ⟨b3', o3', f2, t2, hpp, ho2, g3, g4⟩ := (MO.out.below HI.out.2).at j hlj
            injection hpp with hpp
            injection hpp with hp1 hp2
            subst hp1 hp2
            have hx10 := bd hn10 (HT.out.bd i x hx)
            have HN1 := Lib.hid (LpM.num_at hx1)
            have HN2 := Lib.hid (LpM.num_at hx2)
            have HXB : Hid (x.testBit j = lt l m i j) := by
              unfold Hid lt
              rw [HN1.out, HN2.out]
              exact tbit HG.out HL1.out HT.out (Consist.num_at HG.out hx1) (Consist.num_at HG.out hx2) hx
            have HCF : Hid (cf (own l L) (i, j) = decide (t1 < f2)) := by unfold Hid cf; rw [tt_at ho1, fr_at ho2]
            have qq := (HI.out.2.cell (World.block_lt_of_cell? w3 _ q1)).trans q1
            have k1 := cell_regrown e1
            have k2 := cell_regrown g2
            have k3 := cell_regrown g3
            have cU : ∀ d os, Calls Try.prog 61 #[.int .i64 x, .int .i64 j] (Sort.grow (redrawn wr d) os) fun e w'' => e = .returned (.bool (lt l m i j)) ∧ ∃ p : Regrown, w'' = Sort.grow (redrawn wr p.d) p.os := fun d os => Calls.regrown_of (by
              refine (l4Bit_any x j hx10 (by omega) _).mono ?_
              rintro e w' ⟨rfl, rfl⟩
              exact ⟨by rw [HXB.out], Below.refl _ _⟩)
            clear hx hz hx1 hx2 ho1 ho2
            cases hlt2 : lt l m i j with
            | false =>
              have HN : Hid ((upto l m i (j + 1)).find? (cf (own l L)) = none) := by unfold Hid; rw [upto_miss hlt2]; exact HI.out.1
              rw [hlt2] at cU
              clear hlt2
              go_wp2_with fail
              refine wp_region_quiet_below (by kernel_rfl) (by kernel_rfl) ?_
              repeat (go_big_quiet_step ((go_at_call 61; exact cU _ _)))
              refine wpQuiet_nil ?_
              intro _ hw'
              obtain ⟨⟨dq, osq⟩, hw''⟩ := hw'
              subst hw''
              have hbq := below_regrown wr dq osq
              have HQ := Lib.hid (And.intro HN.out (HI.out.2.trans (hbq.mono HI.out.2.size)))
              clear k1 k2 k3 cU e1 g1 g2 g3 g4 d1 d2 d3 d4 qq hbq
              generalize Sort.grow (redrawn wr dq) osq = W5 at *
              go_wp2_with fail
              exact ⟨⟨j + 1, by omega, by go_num, HQ⟩, by simp [intOf]; omega⟩
            | true =>
              rw [hlt2] at cU
              have HUP := Lib.hid (upto_hit hlt2)
              clear hlt2
              by_cases hc : t1 < f2
              · have hcd : decide (t1 < f2) = true := by simp [hc]
                have HN : Hid (fc l m L = some (i, j)) := fc_hit (pre := upto l m i j) (by rw [← HUP.out]; exact upto_pre (by rw [HL1.out]; exact hlt) (by rw [HL1.out]; omega)) HI.out.1 (by rw [HCF.out]; exact hcd)
                go_wp2_with fail
                refine wp_region_quiet_below (by kernel_rfl) (by kernel_rfl) ?_
                repeat (go_big_quiet_step ((go_at_call 61; exact cU _ _)))
                refine wpQuiet_nil ?_
                intro _ hw'
                obtain ⟨⟨dq, osq⟩, hw''⟩ := hw'
                subst hw''
                have hbq := below_regrown wr dq osq
                have HQ := Lib.hid (HI.out.2.trans (hbq.mono HI.out.2.size))
                have v1 := (hbq.cell (World.block_lt_of_cell? wr _ qq)).trans qq
                have v2 := (hbq.cell (World.block_lt_of_cell? wr _ d1)).trans d1
                have v3 := (hbq.cell (World.block_lt_of_cell? wr _ d3)).trans d3
                clear k1 k2 k3 cU e1 g1 g2 g3 g4 d1 d2 d3 d4 qq hbq HI
                generalize Sort.grow (redrawn wr dq) osq = W5 at *
                have k1 := cell_regrown v1
                have k2 := cell_regrown v2
                have k3 := cell_regrown v3
                go_wp2_with fail
                refine wp_region_quiet_below (by kernel_rfl) (by kernel_rfl) ?_
                repeat (go_big_quiet_step (fail))
                refine wpQuiet_nil ?_
                intro _ hw'
                obtain ⟨⟨dq2, osq2⟩, hw''⟩ := hw'
                subst hw''
                have hbq := below_regrown W5 dq2 osq2
                have HQ2 := Lib.hid (HQ.out.trans (hbq.mono HQ.out.size))
                clear k1 k2 k3 v1 v2 v3 hbq
                generalize Sort.grow (redrawn W5 dq2) osq2 = W6 at *
                go_wp2_with fail
                ((try simp only [Exit.inBlock, Exit.then]); refine bodyPost_ret (results_tmp4 rfl _ _ _) rfl ?_)
                exact ⟨by rw [HF.out, HN.out]; show _ = Ending.returned (.tuple #[.int .i64 (num l i), .int .i64 (num l j), _, _]); rw [HN1.out, HN2.out]; rfl, HB3.out.trans (HQ2.out.mono HB3.out.size)⟩
              · have hcd : decide (t1 < f2) = false := by simp [hc]
                have HN : Hid ((upto l m i (j + 1)).find? (cf (own l L)) = none) := by unfold Hid; rw [HUP.out]; exact fc_next HI.out.1 (by rw [HCF.out]; exact hcd)
                go_wp2_with fail
                refine wp_region_quiet_below (by kernel_rfl) (by kernel_rfl) ?_
                repeat (go_big_quiet_step ((go_at_call 61; exact cU _ _)))
                refine wpQuiet_nil ?_
                intro _ hw'
                obtain ⟨⟨dq, osq⟩, hw''⟩ := hw'
                subst hw''
                have hbq := below_regrown wr dq osq
                have HQ := Lib.hid (And.intro HN.out (HI.out.2.trans (hbq.mono HI.out.2.size)))
                clear k1 k2 k3 cU e1 g1 g2 g3 g4 d1 d2 d3 d4 qq hbq
                generalize Sort.grow (redrawn wr dq) osq = W5 at *
                go_wp2_with fail
                exact ⟨⟨j + 1, by omega, by go_num, HQ⟩, by simp [intOf]; omega⟩
          · obtain rfl : j = n1 := by omega
            have hjj : ¬ (j : Int) < (j : Int) := by omega
            have HQ : Hid ((upto l m (i + 1) 0).find? (cf (own l L)) = none ∧ Below w3.heap.size w3 wr) := by
              unfold Hid
              rw [upto_next, HL1.out]
              exact HI.out
            clear HI
            go_wp2_with fail
            exact ⟨⟨i + 1, by omega, by go_num, HQ⟩, by simp [intOf]; omega⟩
      · obtain rfl : i = n1 := by omega
        have hii : ¬ (i : Int) < (i : Int) := by omega
        have HN : Hid (fc l m L = none) := by
          unfold Hid fc
          rw [← upto_all, HL1.out]
          exact HR.out.1
        have HQ := Lib.hid HR.out.2
        clear HR
        go_wp2_with fail
        ((try simp only [Exit.inBlock, Exit.then]); refine bodyPost_ret (results_tmp4 rfl _ _ _) rfl ?_)
        exact ⟨by rw [HF.out, HN.out]; rfl, HB3.out.trans (HQ.out.mono HB3.out.size)⟩
end Go.Proofs.Ytmjhgjlnpnkmkaa.FcS

namespace Go.Proofs.Ytmjhgjlnpnkmkaa.WFirstConflict
open Go.ChangeShapes Go.WideShapes Go.ChangeAt Go.RowKit
open Pairs Rec RecEq RecOpen
open LawKit (S toRecord_keeps eqRecord_keeps ownHolds)
set_option linter.unusedVariables false
set_option maxRecDepth 100000 in
set_option maxHeartbeats 8000000 in
theorem walk (F : List (Int × Int) → List (Int × Int) → List Da.Dt → Int × Int × Bool × Bool) (hI : ∀ (a1 a2 : Option Addr) (n1 c1 n2 c2 : Nat) (l m : List (Int × Int)) (p : Option Addr) (np : Nat) (L : List Da.Dt) (w : World), n1 ≤ 1048576 → n2 ≤ 1048576 → Holds w a1 n1 l → Holds w a2 n2 m → np ≤ 1048576 → Da.HoldsD w p np L → Calls Try.prog 25 #[.agg #[.slice a1 n1 c1, .slice a2 n2 c2], .slice p np np] w fun e w' => e = .returned (.tuple #[.int .i64 ((F l m L).1), .int .i64 ((F l m L).2.1), .bool ((F l m L).2.2.1), .bool ((F l m L).2.2.2)]) ∧ Below w.heap.size w w') (hM : ∀ (a1 a2 : Option Addr) (n1 c1 n2 c2 : Nat) (l m : List (Int × Int)) (p : Option Addr) (np : Nat) (L : List Da.Dt) (w : World), n1 ≤ 1048576 → n2 ≤ 1048576 → Holds w a1 n1 l → Holds w a2 n2 m → np ≤ 1048576 → Da.HoldsD w p np L → Calls Try.prog 24 #[.agg #[.slice a1 n1 c1, .slice a2 n2 c2], .slice p np np] w fun e w' => e = .returned (.tuple #[.int .i64 ((F l m L).1), .int .i64 ((F l m L).2.1), .bool ((F l m L).2.2.1), .bool ((F l m L).2.2.2)]) ∧ Below w.heap.size w w') (a1 a2 : Option Addr) (n1 c1 n2 c2 : Nat) (l1 l2 : List (Int × Int)) (p : Option Addr) (np cp : Nat) (L : List Da.Dt) (w : World) (z1 : n1 ≤ 9223372036854775807) (z2 : n2 ≤ 9223372036854775807) (H1 : Holds w a1 n1 l1) (H2 : Holds w a2 n2 l2) (z3 : np ≤ 9223372036854775807) (H3 : Da.HoldsD w p np L) :
    Calls Try.prog 5 #[.agg #[.slice a1 n1 c1, .slice a2 n2 c2], .slice p np cp] w fun e w' => e = .returned (.bool true) ∧ Below w.heap.size w w' := by
  have hb0 := below_alloc w (.cells #[.slice a1 n1 c1, .slice a2 n2 c2] 25)
  have f1 := box_first w (.slice a1 n1 c1) (.slice a2 n2 c2) 25
  have f2 := box_second w (.slice a1 n1 c1) (.slice a2 n2 c2) 25
  have hlt : w.heap.size < (w.alloc (.cells #[.slice a1 n1 c1, .slice a2 n2 c2] 25)).heap.size := by simp
  have K1 := Lib.hid (H1.below hb0)
  have K2 := Lib.hid (H2.below hb0)
  have K3 := Lib.hid (H3.below hb0)
  clear H1 H2 H3
  have hI1 := fun (p1 p2 p3 : Option Addr) (w : World) h1 h2 h3 h4 h5 h6 => hI p1 p2 n1 n1 n2 n2 l1 l2 p3 np L w h1 h2 h3 h4 h5 h6
  have hM1 := fun (p1 p2 p3 : Option Addr) (w : World) h1 h2 h3 h4 h5 h6 => hM p1 p2 n1 n1 n2 n2 l1 l2 p3 np L w h1 h2 h3 h4 h5 h6
  clear hI hM
  generalize F l1 l2 L = FF at hI1 hM1
  obtain ⟨r1, r2, r3, r4⟩ := FF
  have HI := Lib.hid hI1
  have HM := Lib.hid hM1
  clear hI1 hM1
  go_enter Try.func5, Try.ntmps5
  go_wp2_with fail
  generalize w.alloc (.cells #[.slice a1 n1 c1, .slice a2 n2 c2] 25) = W at *
  refine (szRecord_any a1 a2 n1 c1 n2 c2 z1 z2 W).mono ?_
  rintro e w1 ⟨rfl, b1⟩
  have k1 := (b1.cell (p := ⟨w.heap.size, 0, none⟩) hlt).trans f1
  have k2 := (b1.cell (p := ⟨w.heap.size, 1, none⟩) hlt).trans f2
  by_cases hbig : (1048576 : Int) < (n1 : Int) + n2
  · have hl : left n1 n2 = -1 := by unfold left; rw [if_pos hbig]
    rw [hl]
    go_wp2_with fail
    go_ret
    exact ⟨rfl, hb0.trans (b1.mono hb0.size)⟩
  · have hl : left n1 n2 = 1048576 - n1 - n2 := by unfold left; rw [if_neg hbig]
    rw [hl]
    clear hl
    have hs1 : n1 ≤ 1048576 := by omega
    have hs2 : n2 ≤ 1048576 := by omega
    have hnn : ¬ (1048576 : Int) - n1 - n2 < 0 := by omega
    go_wp2_with fail
    refine (DaT.szDatedS_any p np cp (1048576 - n1 - n2) (by omega) (by omega) z3 w1).mono ?_
    rintro e wz ⟨rfl, rfl⟩
    by_cases hbp : (1048576 : Int) - n1 - n2 < np
    · rw [if_pos hbp]
      go_wp2_with fail
      go_ret
      exact ⟨rfl, hb0.trans (b1.mono hb0.size)⟩
    · rw [if_neg hbp]
      have B1Z := Lib.hid b1
      have hnp : np ≤ 1048576 := by omega
      have hrn : ¬ (1048576 : Int) - n1 - n2 - np < 0 := by omega
      clear b1
      go_wp2_with fail
      refine (toRecord_any a1 a2 n1 c1 n2 c2 l1 l2 hs1 hs2 _ (K1.out.below B1Z.out) (K2.out.below B1Z.out)).mono ?_
      rintro e w2 ⟨g1, g2, rfl, o2, b2⟩
      have b12 := B1Z.out.trans (b2.mono B1Z.out.size)
      have hh := ownHolds o2
      have hh1 := Lib.hid hh.1
      have hh2 := Lib.hid hh.2
      have B12 := Lib.hid b12
      clear hh o2 b2 b12 k1 k2
      go_wp2_with fail
      refine (DaT.toDatedS_any p np cp L hnp _ (K3.out.below B12.out)).mono ?_
      rintro e w3 ⟨g3, rfl, o3, b3⟩
      have b13 := B12.out.trans (b3.mono B12.out.size)
      have hh3 := Lib.hid (hh1.out.below b3)
      have hh4 := Lib.hid (hh2.out.below b3)
      have HP3 := Lib.hid (Da.holds_ownD o3)
      have B13 := Lib.hid b13
      clear b13 b3 o3 hh1 hh2
      go_wp2_with fail
      refine (HM.out _ _ _ _ hs1 hs2 hh3.out hh4.out hnp HP3.out).mono ?_
      rintro e X ⟨rfl, b4⟩
      have bX := B13.out.trans (b4.mono B13.out.size)
      have m1 := (bX.cell (p := ⟨w.heap.size, 0, none⟩) hlt).trans f1
      have m2 := (bX.cell (p := ⟨w.heap.size, 1, none⟩) hlt).trans f2
      have KX1 := Lib.hid (K1.out.below bX)
      have KX2 := Lib.hid (K2.out.below bX)
      have KX3 := Lib.hid (K3.out.below bX)
      have HBX := Lib.hid (hb0.trans (bX.mono hb0.size))
      have hltX := Nat.lt_of_lt_of_le hlt bX.size
      clear b4 hh3 hh4 HP3 bX hb0 K1 K2 K3 f1 f2 B1Z B12 B13
      go_wp2_with fail
      refine (toRecord_any a1 a2 n1 c1 n2 c2 l1 l2 hs1 hs2 _ KX1.out KX2.out).mono ?_
      rintro e w4 ⟨g4, g5, rfl, o4, b4⟩
      have hb5 := below_alloc w4 (.cells #[.slice (some ⟨g4, 0, none⟩) n1 n1, .slice (some ⟨g5, 0, none⟩) n2 n2] 33)
      have x1 := box_first w4 (.slice (some ⟨g4, 0, none⟩) n1 n1) (.slice (some ⟨g5, 0, none⟩) n2 n2) 33
      have x2 := box_second w4 (.slice (some ⟨g4, 0, none⟩) n1 n1) (.slice (some ⟨g5, 0, none⟩) n2 n2) 33
      have hlt5 : w4.heap.size < (w4.alloc (.cells #[.slice (some ⟨g4, 0, none⟩) n1 n1, .slice (some ⟨g5, 0, none⟩) n2 n2] 33)).heap.size := by simp
      have B5 := Lib.hid (b4.trans (hb5.mono b4.size))
      have hh5 := Lib.hid ((ownHolds o4).1.below hb5)
      have hh6 := Lib.hid ((ownHolds o4).2.below hb5)
      clear o4 b4 hb5
      go_wp2_with fail
      generalize w4.alloc (.cells #[.slice (some ⟨g4, 0, none⟩) n1 n1, .slice (some ⟨g5, 0, none⟩) n2 n2] 33) = W5 at *
      refine (DaT.toDatedS_any p np cp L hnp _ (KX3.out.below B5.out)).mono ?_
      rintro e w6 ⟨g6, rfl, o6, b6⟩
      have B6 := Lib.hid (B5.out.trans (b6.mono B5.out.size))
      have y1 := (b6.cell (p := ⟨w4.heap.size, 0, none⟩) hlt5).trans x1
      have y2 := (b6.cell (p := ⟨w4.heap.size, 1, none⟩) hlt5).trans x2
      have hh7 := Lib.hid (hh5.out.below b6)
      have hh8 := Lib.hid (hh6.out.below b6)
      have HP6 := Lib.hid (Da.holds_ownD o6)
      have hlt6 := Nat.lt_of_lt_of_le hlt5 b6.size
      clear x1 x2 o6 b6 hh5 hh6
      go_wp2_with fail
      refine (HI.out _ _ _ _ hs1 hs2 hh7.out hh8.out hnp HP6.out).mono ?_
      rintro e w7 ⟨rfl, b7⟩
      have y1 := (b7.cell (p := ⟨w4.heap.size, 0, none⟩) hlt6).trans y1
      have y2 := (b7.cell (p := ⟨w4.heap.size, 1, none⟩) hlt6).trans y2
      have b67 := B6.out.trans (b7.mono B6.out.size)
      have j1 := (b67.cell (p := ⟨w.heap.size, 0, none⟩) hltX).trans m1
      have j2 := (b67.cell (p := ⟨w.heap.size, 1, none⟩) hltX).trans m2
      have hh9 := Lib.hid (hh7.out.below b7)
      have hh10 := Lib.hid (hh8.out.below b7)
      have HP7 := Lib.hid (HP6.out.below b7)
      have hlt7 := Nat.lt_of_lt_of_le hlt6 b7.size
      have hltw7 := Nat.lt_of_lt_of_le hltX b67.size
      have B7 := Lib.hid b67
      clear b7 b67 hh7 hh8 HP6
      go_wp2_with fail
      have hK1 := Lib.hid (KX1.out.below B7.out.drew)
      have hK2 := Lib.hid (KX2.out.below B7.out.drew)
      have hh11 := Lib.hid (hh9.out.below (Below.refl w7.heap.size w7).drew)
      have hh12 := Lib.hid (hh10.out.below (Below.refl w7.heap.size w7).drew)
      go_region_held3 (fun w' => w'.cell? ⟨w4.heap.size, 0, none⟩ = some (.slice (some ⟨g4, 0, none⟩) n1 n1) ∧ w'.cell? ⟨w4.heap.size, 1, none⟩ = some (.slice (some ⟨g5, 0, none⟩) n2 n2) ∧ w4.heap.size < w'.heap.size ∧ w'.cell? ⟨w.heap.size, 0, none⟩ = some (.slice a1 n1 c1) ∧ w'.cell? ⟨w.heap.size, 1, none⟩ = some (.slice a2 n2 c2) ∧ w.heap.size < w'.heap.size)
        (first | go_keep | (exact ⟨by assumption, by assumption, by assumption, by assumption, by assumption, by assumption⟩))
        (first
          | (go_at_call 15; refine (toRecord_keeps a1 a2 n1 c1 n2 c2 l1 l2 hs1 hs2 w4.heap.size w.heap.size (.slice (some ⟨g4, 0, none⟩) n1 n1) (.slice (some ⟨g5, 0, none⟩) n2 n2) (.slice a1 n1 c1) (.slice a2 n2 c2) w7.drew hK1.out hK2.out ⟨y1, y2, hlt7, j1, j2, hltw7⟩).mono ?_; rintro e w8 ⟨g7, g8, rfl, o8, b8, s1, s2, s3, s4, s5, s6⟩)
          | (go_at_call 18; refine (eqRecord_keeps (some ⟨g4, 0, none⟩) (some ⟨g5, 0, none⟩) (some ⟨g7, 0, none⟩) (some ⟨g8, 0, none⟩) n1 n2 n1 n2 n1 n2 l1 l2 hs1 hs2 w4.heap.size w.heap.size (.slice (some ⟨g4, 0, none⟩) n1 n1) (.slice (some ⟨g5, 0, none⟩) n2 n2) (.slice a1 n1 c1) (.slice a2 n2 c2) w8 (hh11.out.below b8) (hh12.out.below b8) (ownHolds o8).1 (ownHolds o8).2 ⟨s1, s2, s3, s4, s5, s6⟩).mono ?_; rintro e w9 ⟨rfl, b9, t1, t2, t3, t4, t5, t6⟩))
      have b79 : Below w7.heap.size w7 w9 := (Below.refl w7.heap.size w7).drew.trans (b8.trans (b9.mono b8.size))
      have B9 := Lib.hid (B7.out.trans (b79.mono B7.out.size))
      have HP9 := Lib.hid (HP7.out.below b79)
      clear o8 b8 b9 b79 s1 s2 s3 s4 s5 s6 y1 y2 j1 j2 t1 t2 t4 t5 hh11 hh12 HP7
      go_wp2_with fail
      refine (DaT.toDatedS_any p np cp L hnp _ (KX3.out.below B9.out)).mono ?_
      rintro e w10 ⟨g9, rfl, o10, b10⟩
      have B10 := Lib.hid (B9.out.trans (b10.mono B9.out.size))
      have HP10 := Lib.hid (HP9.out.below b10)
      have HQ10 := Lib.hid (Da.holds_ownD o10)
      clear o10 b10
      go_wp2_with fail
      refine (DaT.eqDatedS_same _ _ np np np L hnp _ HP10.out HQ10.out).mono ?_
      rintro e w11 ⟨rfl, b11⟩
      have HB := Lib.hid (HBX.out.trans ((B10.out.trans (b11.mono B10.out.size)).mono HBX.out.size))
      clear b11
      go_wp2_with fail
      go_ret
      exact ⟨rfl, HB.out⟩
end Go.Proofs.Ytmjhgjlnpnkmkaa.WFirstConflict

namespace Go.Proofs.Ytmjhgjlnpnkmkaa.FFirstConflict
open Go.ChangeShapes Go.WideShapes Go.ChangeAt Go.RowKit
open Pairs Rec RecEq RecOpen LawKit
set_option linter.unusedVariables false

theorem field_int {H : Type} {enc : TypeId × Value → H} {w : World} {base : Nat} {spare : Nat → Bool} {held : Bool} {t : TypeId} {fuel : Nat} {v : Value} {x : DataW H × List MemPlace} (t0 : Try.prog.underlying t = some (.int .i64)) (h : DataW.trod enc Try.prog w base spare held fuel t [v] = some x) : ∃ y : Int, v = .int .i64 y := by
  obtain ⟨p, hp, _⟩ := DataW.trod_int t0 h
  simp only [List.cons.injEq, and_true] at hp
  exact ⟨p, hp⟩
set_option maxRecDepth 100000 in
theorem lifted (hw : ∀  (a1 a2 : Option Addr) (n1 c1 n2 c2 : Nat) (l1 l2 : List (Int × Int)) (p : Option Addr) (np cp : Nat) (L : List Da.Dt) (w : World), n1 ≤ 9223372036854775807 → n2 ≤ 9223372036854775807 → Holds w a1 n1 l1 → Holds w a2 n2 l2 → np ≤ 9223372036854775807 → Da.HoldsD w p np L → Calls Try.prog 5 #[.agg #[.slice a1 n1 c1, .slice a2 n2 c2], .slice p np cp] w fun e w' => e = .returned (.bool true) ∧ Below w.heap.size w w') (os : Os) (started : os.Started) (H : Type) (enc : TypeId × Value → H) :
    ReturnsInHanded {} Try.checked os 5 .any (Rows.fnExactFirstConflictSpec.pre6 enc Try.prog Try.f5 Rows.fnExactFirstConflictRow.domain false) (Rows.fnExactFirstConflictSpec.post enc Try.prog Try.f5 false true false false) := by
  refine returnsInHanded_of_change (C := Try.checked) own started (by kernel_rfl) Try.func5
    (ChangeSpec.witness6 (enc := enc) (C := Try.checked) false ⟨#[], #[.agg #[.slice none 0 0, .slice none 0 0], .slice none 0 0], []⟩ 8 (by kernel_rfl) (by kernel_rfl) (by kernel_rfl) (by kernel_rfl)) ?_
  intro W base args ds gs before hval0 hW hcnd _
  have hval : ∀ (j : Nat) t v, Try.f5.params[j]? = some t → args[j]? = some v → Value.okWide Try.prog W .any base t v := hval0
  have hW' := hW
  obtain ⟨p, q, hA0, hV, rfl, hfz, hnd⟩ := hW
  have hA : DataW.TrodAll enc Try.prog W 0 (fun _ => true) true Try.f5.params.toList args.toList ds p := hA0
  rw [Try.params5] at hA hval
  obtain ⟨v0, vs0, d0, ds0, p0, q0, hargs, rfl, rfl, h0, r0⟩ := trodAll_cons hA
  obtain ⟨v1, vs1, d1, ds1, p1, q1, rfl, rfl, rfl, h1, r1⟩ := trodAll_cons r0
  obtain ⟨rfl, rfl, rfl⟩ := trodAll_nil r1
  obtain rfl : args = #[v0, v1] := by cases args; simp_all
  obtain ⟨rfl, rfl⟩ := trodVars_none hV
  have k0 := h0
  have lt0 : ∀ x ∈ p0, x.block < W.heap.size := by obtain ⟨m, hm⟩ := k0; exact DataW.trod_lt m _ _ _ hm
  obtain ⟨u, v, y0, y9, fuel, rfl, rfl, hp, hu, hv⟩ := Joins.open_agg2 Try.underlying25 (by kernel_rfl) (by kernel_rfl) (hval 0 25 v0 rfl rfl) h0
  obtain ⟨a1, n1, c1, l1, rfl, z1, H1⟩ := open_pairs Try.underlying22 Try.underlying108 (by kernel_rfl) rfl rfl (by kernel_rfl) (by kernel_rfl) Try.underlying3 Try.underlying3 hu
  obtain ⟨a2, n2, c2, l2, rfl, z2, H2⟩ := open_pairs Try.underlying23 Try.underlying112 (by kernel_rfl) rfl rfl (by kernel_rfl) (by kernel_rfl) Try.underlying3 Try.underlying3 hv
  have k1 := h1
  have lt1 : ∀ x ∈ p1, x.block < W.heap.size := by obtain ⟨m, hm⟩ := k1; exact DataW.trod_lt m _ _ _ hm
  obtain ⟨sa, sn, sc, rfl⟩ := okWide_slice Try.underlying26 (hval 1 26 v1 rfl rfl)
  obtain ⟨ps, nps, cps, L, hps, z3, H3⟩ : ∃ (a : Option Addr) (n c : Nat) (L : List Da.Dt), Value.slice sa sn sc = .slice a n c ∧ n ≤ 9223372036854775807 ∧ Da.HoldsD W a n L := by
    obtain ⟨fuel, hf⟩ := h1
    exact Da.open_datedS Try.underlying26 Try.underlying61 Try.underlying59 rfl rfl rfl rfl rfl (by kernel_rfl) (by kernel_rfl) (by kernel_rfl) (by kernel_rfl) (by kernel_rfl) Try.underlying3 Try.underlying3 Try.underlying3 hf
  injection hps with hp1 hp2 hp3
  subst hp1 hp2 hp3
  clear hA0 hval0
  refine (hw  a1 a2 n1 c1 n2 c2 l1 l2 sa sn sc L W z1 z2 H1 H2 z3 H3).mono fun e W' ⟨he, bel⟩ => ?_
  subst he
  exact ⟨_, rfl, _, _, _, [], _, [], hW', trodAll_mk1 (shut_bool Try.underlying4 _), (trodAll_cons_mk (Below.trod LawKit.laidOut (by kernel_rfl) (of_decide_eq_true (by kernel_rfl)) k0 bel lt0) (trodAll_cons_mk (Below.trod LawKit.laidOut (by kernel_rfl) (of_decide_eq_true (by kernel_rfl)) k1 bel lt1) trodAll_mk0)), rfl, bel.frame _, fun h => by cases h⟩

theorem over (hw : ∀  (a1 a2 : Option Addr) (n1 c1 n2 c2 : Nat) (l1 l2 : List (Int × Int)) (p : Option Addr) (np cp : Nat) (L : List Da.Dt) (w : World), n1 ≤ 9223372036854775807 → n2 ≤ 9223372036854775807 → Holds w a1 n1 l1 → Holds w a2 n2 l2 → np ≤ 9223372036854775807 → Da.HoldsD w p np L → Calls Try.prog 5 #[.agg #[.slice a1 n1 c1, .slice a2 n2 c2], .slice p np cp] w fun e w' => e = .returned (.bool true) ∧ Below w.heap.size w w') : Rows.fnExactFirstConflictRow.holds Try.pinned (OpenSpec.ofChange Rows.fnExactFirstConflictSpec) :=
  OpenClaim.holds_of_wide 5 Try.f5 rfl rfl rfl rfl rfl rfl rfl ⟨rfl, rfl, rfl, rfl, rfl⟩ rfl rfl rfl rfl rfl (by kernel_rfl) Try.func5 (by kernel_rfl)
    (of_decide_eq_true (by kernel_rfl)) (by unfold Func.isWrapper; first | (rw [if_pos (by decide +kernel)]; kernel_rfl) | (rw [if_neg (by decide +kernel)]; exact ⟨rfl, rfl⟩))
    (fun os started H enc _ => lifted hw os started H enc)
end Go.Proofs.Ytmjhgjlnpnkmkaa.FFirstConflict

namespace Go.Proofs.Ytmjhgjlnpnkmkaa
theorem fnExactFirstConflict_proved : Rows.FnExactFirstConflictSaid := FFirstConflict.over (WFirstConflict.walk FcM.fcP (fun a1 a2 n1 c1 n2 c2 l m p np L w z1 z2 h1 h2 z3 h3 => FcI.impl_any a1 a2 p n1 c1 n2 c2 np np l m L w z1 z2 z3 h1 h2 h3) (fun a1 a2 n1 c1 n2 c2 l m p np L w z1 z2 h1 h2 z3 h3 => FcS.spec_any a1 a2 p n1 c1 n2 c2 np np l m L w z1 z2 z3 h1 h2 h3))
#print axioms fnExactFirstConflict_proved
end Go.Proofs.Ytmjhgjlnpnkmkaa

