/- UngroupedContexts on both sides. -/
import Derived.Test.YtbdplgcdnpcnfaaGpP
import Derived.Test.YtbdplgcdnpcnfaaThat
namespace Go.Proofs.Ytbdplgcdnpcnfaa.GpU
open Go.RowKit Pairs Rec RecEq Keep GivesI Chain Find2 GoodM That Ph GpM GpB GpC GpI GpS GpP
noncomputable def unP (l m : Ps) (L : List Pt) : Option (List Int) := if grp l m L = true then some (sel (fun z => decide (phs L z < 0)) l) else none
theorem un_no {l m : Ps} {L : List Pt} (h : grp l m L = false) : unP l m L = none := by unfold unP; rw [if_neg (by rw [h]; simp)]
theorem un_yes {l m : Ps} {L : List Pt} (h : grp l m L = true) : unP l m L = some (sel (fun z => decide (phs L z < 0)) l) := by unfold unP; rw [if_pos h]
theorem un1_any (z : Int) (bx : Nat) (p : Option Addr) (n c : Nat) (L : List Pt) (hn : n ≤ 1048576) (hS : Sm L 1048576) (w : World) (e1 : w.cell? ⟨bx, 0, none⟩ = some (.slice p n c)) (h : HoldsP w p n L) :
    Calls Try.prog 46 #[.int .i64 z, .pointer (some ⟨bx, 0, none⟩)] w fun e w' => e = .returned (.bool (decide (phs L z < 0))) ∧ Below w.heap.size w w' := by
  have HH := Lib.hid h
  have HS := Lib.hid hS
  clear h hS
  obtain ⟨g, hg⟩ : ∃ g, phs L z = g := ⟨_, rfl⟩
  rw [hg]
  have HGg := Lib.hid hg
  clear hg
  go_enter Try.func46, Try.ntmps46
  go_wp2_with fail
  refine (place_any z p n c L hn HS.out w HH.out).mono ?_
  rintro e w1 ⟨rfl, b1⟩
  rw [HGg.out]
  have HB := Lib.hid b1
  clear b1
  go_wp2_with fail
  go_ret
  exact ⟨rfl, HB.out⟩
set_option maxRecDepth 100000 in
set_option maxHeartbeats 4000000 in
theorem impl_any (a1 a2 : Option Addr) (n1 c1 n2 c2 : Nat) (l m : Ps) (p : Option Addr) (n : Nat) (L : List Pt) (w : World) (hz1 : n1 ≤ 1048576) (hz2 : n2 ≤ 1048576) (h1 : Holds w a1 n1 l) (h2 : Holds w a2 n2 m) (hn : n ≤ 1048576) (h : HoldsP w p n L) (hS : Sm L 1048576) :
    Calls Try.prog 19 #[.agg #[.slice a1 n1 c1, .slice a2 n2 c2], .slice p n n] w (GivesI.Res (unP l m L).isSome ((unP l m L).getD []) w) := by
  have ha := below_alloc w (.cells #[.slice a1 n1 c1, .slice a2 n2 c2] 33)
  have hf := box_first w (.slice a1 n1 c1) (.slice a2 n2 c2) 33
  have hf2 := box_second w (.slice a1 n1 c1) (.slice a2 n2 c2) 33
  have hsz : w.heap.size < (w.alloc (.cells #[.slice a1 n1 c1, .slice a2 n2 c2] 33)).heap.size := by simp
  have hse : (w.alloc (.cells #[.slice a1 n1 c1, .slice a2 n2 c2] 33)).heap.size = w.heap.size + 1 := by simp
  have hb1 := below_alloc (w.alloc (.cells #[.slice a1 n1 c1, .slice a2 n2 c2] 33)) (.cells #[.slice p n n] 35)
  have hb := ha.trans (hb1.mono ha.size)
  have r1 := (hb1.cell (p := ⟨w.heap.size, 0, none⟩) hsz).trans hf
  have r2 := (hb1.cell (p := ⟨w.heap.size, 1, none⟩) hsz).trans hf2
  have r3 : ((w.alloc (.cells #[.slice a1 n1 c1, .slice a2 n2 c2] 33)).alloc (.cells #[.slice p n n] 35)).cell? ⟨w.heap.size + 1, 0, none⟩ = some (.slice p n n) := by
    rw [← hse, World.cell?_alloc_mark]
    rfl
  have hsz2 : w.heap.size + 1 < ((w.alloc (.cells #[.slice a1 n1 c1, .slice a2 n2 c2] 33)).alloc (.cells #[.slice p n n] 35)).heap.size := by simp
  have H1 := Lib.hid (h1.below hb)
  have H2 := Lib.hid (h2.below hb)
  have HH := Lib.hid (h.below hb)
  have HL1 := Lib.hid h1.1
  have HS := Lib.hid hS
  have HB := Lib.hid hb
  clear h h1 h2 hS hb ha hb1 hf hf2 hsz hse
  go_enter Try.func19, Try.ntmps19
  go_wp2_with fail
  generalize (w.alloc (.cells #[.slice a1 n1 c1, .slice a2 n2 c2] 33)).alloc (.cells #[.slice p n n] 35) = W at *
  have hszW : w.heap.size < W.heap.size := by omega
  refine (grp_any a1 a2 n1 c1 n2 c2 l m p n n L W hz1 hz2 (Nat.le_refl _) hn HS.out H1.out H2.out HH.out).mono ?_
  rintro e w1 ⟨rfl, b1⟩
  have g1 := (b1.cell (p := ⟨w.heap.size, 0, none⟩) hszW).trans r1
  have g2 := (b1.cell (p := ⟨w.heap.size, 1, none⟩) hszW).trans r2
  have g3 := (b1.cell (p := ⟨w.heap.size + 1, 0, none⟩) hsz2).trans r3
  have hsz3 := Nat.lt_of_lt_of_le hsz2 b1.size
  have HB1 := Lib.hid (HB.out.trans (b1.mono HB.out.size))
  have B1 := Lib.hid b1
  clear b1 r1 r2 r3
  cases hg : grp l m L with
  | false =>
    have HE := Lib.hid (un_no hg)
    have HO := Lib.hid (That.empty_own (T := 3) w1)
    have HBE := Lib.hid (HB1.out.trans ((below_alloc w1 (.cells #[] 3)).mono HB1.out.size))
    clear hg
    go_wp2_with fail
    go_ret2
    exact ⟨_, 0, 0, by rw [HE.out]; rfl, by rw [HE.out]; exact ownsRow_base HO.out HB1.out.size, by omega, HBE.out⟩
  | true =>
    have HE := Lib.hid (un_yes hg)
    have HG := Lib.hid hg
    have G3 := Lib.hid g3
    have hn1 : n1 ≤ 10 := by rw [← HL1.out]; exact (Table.good_few (grp_good hg)).1
    clear hg
    go_wp2_with fail
    refine (that_any 46 #[.pointer (some ⟨w.heap.size + 1, 0, none⟩)] (fun z => decide (phs L z < 0)) a1 a2 n1 c1 n2 c2 l w1 hn1 (H1.out.below B1.out) (fun args W => FuncI.call_enter Try.func46 (by kernel_rfl) rfl args W) (fun z wr hz hwr => ?_)).mono ?_
    · exact un1_any z (w.heap.size + 1) p n n L hn HS.out wr ((hwr.cell (p := ⟨w.heap.size + 1, 0, none⟩) hsz3).trans G3.out) ((HH.out.below B1.out).below hwr)
    rintro e w2 ⟨pr, k, d, rfl, ho, hk, b2⟩
    have HO := Lib.hid (ownsRow_base ho HB1.out.size)
    have HB2 := Lib.hid (HB1.out.trans (b2.mono HB1.out.size))
    clear ho b2 g1 g2 g3
    go_wp2_with fail
    go_ret2
    exact ⟨pr, k, d, by rw [HE.out]; rfl, by rw [HE.out]; exact HO.out, hk, HB2.out⟩
set_option maxRecDepth 100000 in
set_option maxHeartbeats 8000000 in
theorem spec_any (a1 a2 : Option Addr) (n1 c1 n2 c2 : Nat) (l m : Ps) (p : Option Addr) (n : Nat) (L : List Pt) (w : World) (hz1 : n1 ≤ 1048576) (_hz2 : n2 ≤ 1048576) (h1 : Holds w a1 n1 l) (h2 : Holds w a2 n2 m) (hn : n ≤ 1048576) (h : HoldsP w p n L) (hS : Sm L 1048576) :
    Calls Try.prog 18 #[.agg #[.slice a1 n1 c1, .slice a2 n2 c2], .slice p n n] w (GivesI.Res (unP l m L).isSome ((unP l m L).getD []) w) := by
  obtain ⟨i0, hi, hy0, hy1, hy2⟩ := info_parts That.infoInt
  have ha := below_alloc w (.cells #[.slice a1 n1 c1, .slice a2 n2 c2] 33)
  have hf := box_first w (.slice a1 n1 c1) (.slice a2 n2 c2) 33
  have hf2 := box_second w (.slice a1 n1 c1) (.slice a2 n2 c2) 33
  have hsz : w.heap.size < (w.alloc (.cells #[.slice a1 n1 c1, .slice a2 n2 c2] 33)).heap.size := by simp
  have hse : (w.alloc (.cells #[.slice a1 n1 c1, .slice a2 n2 c2] 33)).heap.size = w.heap.size + 1 := by simp
  have hb1 := below_alloc (w.alloc (.cells #[.slice a1 n1 c1, .slice a2 n2 c2] 33)) (.cells #[] 3)
  have ho0 := That.empty_own (T := 3) (w.alloc (.cells #[.slice a1 n1 c1, .slice a2 n2 c2] 33))
  have hb := ha.trans (hb1.mono ha.size)
  have r1 := (hb1.cell (p := ⟨w.heap.size, 0, none⟩) hsz).trans hf
  have r2 := (hb1.cell (p := ⟨w.heap.size, 1, none⟩) hsz).trans hf2
  rw [hse] at ho0
  have hsz2 : w.heap.size + 1 < ((w.alloc (.cells #[.slice a1 n1 c1, .slice a2 n2 c2] 33)).alloc (.cells #[] 3)).heap.size := by simp
  have H1 := Lib.hid (h1.below hb)
  have H2 := Lib.hid (h2.below hb)
  have HH := Lib.hid (h.below hb)
  have HW1 := Lib.hid h1
  have HWH := Lib.hid h
  have HL1 := Lib.hid h1.1
  have HS := Lib.hid hS
  have HB := Lib.hid hb
  have HO0 := Lib.hid ho0
  clear h h1 h2 hS hb ha hb1 hf hf2 hsz ho0
  go_enter Try.func18, Try.ntmps18
  go_wp2_with fail
  generalize (w.alloc (.cells #[.slice a1 n1 c1, .slice a2 n2 c2] 33)).alloc (.cells #[] 3) = W at *
  have hszW : w.heap.size < W.heap.size := by omega
  refine (l7Good_any a1 a2 n1 c1 n2 c2 l m p n n L W hz1 hn HS.out H1.out H2.out HH.out).mono ?_
  rintro e w1 ⟨rfl, b1⟩
  have R12 := Lib.hid (And.intro ((b1.cell (p := ⟨w.heap.size, 0, none⟩) hszW).trans r1) ((b1.cell (p := ⟨w.heap.size, 1, none⟩) hszW).trans r2))
  have hsz3 := Nat.lt_of_lt_of_le hszW b1.size
  have HB1 := Lib.hid (HB.out.trans (b1.mono HB.out.size))
  have HO1 := Lib.hid (ownsRow_below HO0.out b1)
  have K1 := Lib.hid (H1.out.below b1)
  have KH := Lib.hid (HH.out.below b1)
  clear b1 r1 r2 H1 H2 HH HO0
  cases hg : grp l m L with
  | false =>
    have HE := Lib.hid (un_no hg)
    clear hg
    go_wp2_with fail
    go_ret2
    exact ⟨_, 0, 0, by rw [HE.out]; rfl, by rw [HE.out]; exact ownsRow_base HO1.out (by omega), by omega, HB1.out⟩
  | true =>
    have HE := Lib.hid (un_yes hg)
    have hn1 : n1 ≤ 10 := by rw [← HL1.out]; exact (Table.good_few (grp_good hg)).1
    clear hg
    go_wp2_with fail
    have HG0 : Hid (That.G1 (w.heap.size + 1) w1 w1 (.slice (some ⟨w.heap.size + 1, 0, none⟩) 0 0) (sel (fun z => decide (phs L z < 0)) (l.take 0))) := ⟨HO1.out, Below.refl _ _⟩
    clear hszW
    go_loopw [6, 7] (fun s6 s7 wr => ∃ k : Nat, k ≤ n1 ∧ s7 = .int .i64 k ∧ Hid (That.G1 (w.heap.size + 1) w1 wr s6 (sel (fun z => decide (phs L z < 0)) (l.take k)))) (fun _ s7 _ => n1 - (intOf s7).toNat)
    case atStart => exact ⟨0, Nat.zero_le _, rfl, HG0⟩
    case round =>
      obtain ⟨k, hk, rfl, HR⟩ := hrel
      clear HG0
      have hBel := HB1.out.trans (HR.out.2.mono (by omega : w.heap.size ≤ w.heap.size + 1))
      have g1 := (HR.out.2.cell (p := ⟨w.heap.size, 0, none⟩) (by show w.heap.size < _; omega)).trans R12.out.1
      have g2 := (HR.out.2.cell (p := ⟨w.heap.size, 1, none⟩) (by show w.heap.size < _; omega)).trans R12.out.2
      by_cases hlt : k < n1
      · obtain ⟨b, off, x, y, rfl, hx, e1, e2⟩ := (HW1.out.below hBel).at k hlt
        have HX := Lib.hid (sel_next (fun z => decide (phs L z < 0)) hx)
        have hkn : (k : Int) < (n1 : Int) := by omega
        have hk0 : (0 : Int) ≤ (k : Int) := by omega
        have HHr := Lib.hid (HWH.out.below hBel)
        have hBs : w.heap.size + 1 ≤ wr.heap.size := Nat.le_trans hsz3 HR.out.2.size
        have hfl := sel_len (fun z => decide (phs L z < 0)) (l.take k)
        rw [List.length_take] at hfl
        have hown := HR.out.1
        clear hx hBel e2
        by_cases hph : phs L x < 0
        · have HX2 : Hid (sel (fun z => decide (phs L z < 0)) (l.take (k + 1)) = sel (fun z => decide (phs L z < 0)) (l.take k) ++ [x]) := by unfold Hid; rw [HX.out, if_pos (decide_eq_true hph)]
          have cP := l7Phase_any p n n L x hn HS.out wr HHr.out
          generalize phs L x = gx at *
          have CP := Lib.hid cP
          clear HX cP
          go_wp2_with fail
          refine CP.out.mono ?_
          rintro e w' ⟨rfl, hw⟩
          have hw2 := hw.symm
          subst hw2
          clear hw CP
          go_wp2_with (at_builtin; refine wpList_append_own _ rfl _ _ 43 rfl (w.heap.size + 1) 3 i0 (.int .i64 0) 1 8 Try.underlying43 hi hy0 hy1 hy2 rfl (by decide) _ _ _ rfl (hown.alloc _) ⟨wr.heap.size, 0, none⟩ 1 1 [.int .i64 x] rfl rfl (cell_one_new _ _ _) (by simp [Value.oneCell']) (by unfold maxLen; omega) (by omega) (by simp; omega) ?_; intro v' w9 hown' hgrow hnil)
          have hG : That.G1 (w.heap.size + 1) w1 w9 v' (sel (fun z => decide (phs L z < 0)) (l.take (k + 1))) := by
            unfold That.G1
            rw [HX2.out, List.length_append, That.ints_append]
            exact ⟨hown', (HR.out.2.alloc hBs _).grown hgrow (by simp; omega) (fun j hj => (hown.lt j hj).1)⟩
          have HG := Lib.hid hG
          clear hG hown' hgrow hown hnil
          exact ⟨⟨k + 1, by omega, by go_num, HG⟩, by simp [intOf]; omega⟩
        · have HX2 : Hid (sel (fun z => decide (phs L z < 0)) (l.take (k + 1)) = sel (fun z => decide (phs L z < 0)) (l.take k)) := by unfold Hid; rw [HX.out, if_neg (by rw [decide_eq_false hph]; simp), List.append_nil]
          have hG : That.G1 (w.heap.size + 1) w1 wr u6 (sel (fun z => decide (phs L z < 0)) (l.take (k + 1))) := by
            rw [HX2.out]
            exact HR.out
          have HG := Lib.hid hG
          have cP := l7Phase_any p n n L x hn HS.out wr HHr.out
          generalize phs L x = gx at *
          have CP := Lib.hid cP
          clear HX cP hG hown
          go_wp2_with fail
          refine CP.out.mono ?_
          rintro e w' ⟨rfl, hw⟩
          have hw2 := hw.symm
          subst hw2
          clear hw CP
          go_wp2_with fail
          exact ⟨⟨k + 1, by omega, by go_num, HG⟩, by simp [intOf]; omega⟩
      · obtain rfl : k = n1 := by omega
        have hkn : ¬ (k : Int) < (k : Int) := by omega
        have hown := HR.out.1
        rw [List.take_of_length_le (by rw [HL1.out]; exact Nat.le_refl _)] at hown
        have hfl := sel_len (fun z => decide (phs L z < 0)) l
        rw [HL1.out] at hfl
        have HBD := Lib.hid hBel
        have HO := Lib.hid hown
        obtain ⟨pr, d, rfl⟩ := From.own_form hown
        clear hown hBel
        go_wp2_with fail
        go_ret2
        exact ⟨pr, _, d, by rw [HE.out]; rfl, by rw [HE.out]; exact ownsRow_base HO.out (by omega), by omega, HBD.out⟩
end Go.Proofs.Ytbdplgcdnpcnfaa.GpU
