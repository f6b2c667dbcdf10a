/- The program's OrderPhases. -/
import Derived.Test.YtbdplgcdnpcnfaaExactOrderPhasesSaidPartbb
import Derived.Test.YtbdplgcdnpcnfaaExactOrderPhasesSaidPartbe
import Derived.Test.YtbdplgcdnpcnfaaExactOrderPhasesSaidPartaw
import Derived.Lib.QuietBelow
namespace Go.Proofs.Ytbdplgcdnpcnfaa.OpI
open Go.RowKit Pairs Rec RecEq Chain Find2 GoodM Keep GivesI Idx OrdM Ph GpM GpI GpP GpN OpM OpR
noncomputable def opP (l m : Ps) (L : List Pt) : Option (List Int) := if grp l m L = true then (if (outP (ePh m L) L.length).length = L.length then some (outP (ePh m L) L.length) else none) else none
theorem op_no {l m : Ps} {L : List Pt} (h : grp l m L = false) : opP l m L = none := by unfold opP; rw [if_neg (by rw [h]; simp)]
theorem op_cyc {l m : Ps} {L : List Pt} (h : ¬ (outP (ePh m L) L.length).length = L.length) : opP l m L = none := by unfold opP; rw [if_neg h]; split <;> rfl
theorem op_yes {l m : Ps} {L : List Pt} (h : grp l m L = true) (h2 : (outP (ePh m L) L.length).length = L.length) : opP l m L = some (outP (ePh m L) L.length) := by unfold opP; rw [if_pos h, if_pos h2]
theorem ord_mem {rel : Int → Int → Bool} {K : List Int} : ∀ (f : Nat) (D : Int → Bool), ∀ x ∈ ordD rel K f D, x ∈ K
  | 0, _, x, hx => by simp [ordD] at hx
  | f + 1, D, x, hx => by
    cases hn : K.find? (rdy rel K D) with
    | none => rw [ordD_none hn] at hx; simp at hx
    | some n =>
      rw [ordD_next hn] at hx
      rcases List.mem_cons.1 hx with e | e
      · rw [e]; exact (find_in hn).1
      · exact ord_mem f _ x e
theorem out_rng {e : Nat → Nat → Bool} {n : Nat} {x : Int} (h : x ∈ outP e n) : 0 ≤ x ∧ x < (n : Int) := by
  have h1 := ord_mem _ _ x h
  unfold K0 at h1
  obtain ⟨i, hi, rfl⟩ := List.mem_map.1 h1
  rw [List.mem_range] at hi
  omega
def dn1 (a : Int) : Int := a - 1
theorem up_dn (A : List Int) : (A.map up1).map dn1 = A := by
  rw [List.map_map]
  have : (dn1 ∘ up1) = id := by funext x; simp [dn1, up1]
  rw [this, List.map_id]
/-- The row under way: the first k are one less. -/
def Dn (B : Nat) (w wr : World) (p : Option Addr) (n c : Nat) (A : List Int) (k : Nat) : Prop :=
  ∃ ys, wr.ownsRow B 3 1 (.slice p n c) n ys ∧ (∀ i, i < k → ys[i]? = (ints (A.map dn1))[i]?) ∧ (∀ i, k ≤ i → ys[i]? = (ints A)[i]?) ∧ Kept (fun b => (Value.slice p n c).ownBlock = some b) w wr
theorem Dn.sm {B : Nat} {w wr : World} {p : Option Addr} {n c : Nat} {L : List Int} {k : Nat} (h : Dn B w wr p n c L k) (hn : 0 < n) : ∃ g, p = some ⟨g, 0, none⟩ := by
  obtain ⟨ys, h1, _⟩ := h
  rcases h1.2 with ⟨_, h0⟩ | ⟨g, cap, cur, hv, _⟩
  · omega
  · injection hv with hv
    exact ⟨g, hv⟩
theorem Dn.step {B : Nat} {w wr : World} {g n c : Nat} {A : List Int} {k : Nat} {x : Int} (h : Dn B w wr (some ⟨g, 0, none⟩) n c A k) (hk : k < n) (hx : A[k]? = some x) :
    Dn B w (wr.setCell ⟨g, k, none⟩ (.int .i64 (x - 1))) (some ⟨g, 0, none⟩) n c A (k + 1) := by
  obtain ⟨ys, h1, h2, h3, h4⟩ := h
  have hlen : ys.length = n * 1 := h1.1
  refine ⟨_, (h1.stored k _).1, ?_, ?_, h4.setCell (g := g) rfl _⟩
  · intro i hi
    by_cases he : i = k
    · subst he
      have hm : (A.map dn1)[i]? = some (x - 1) := by rw [List.getElem?_map, hx]; rfl
      rw [List.getElem?_set_self (by omega), GivesI.ints_at hm]
    · rw [List.getElem?_set_ne (by omega)]
      exact h2 i (by omega)
  · intro i hi
    rw [List.getElem?_set_ne (by omega)]
    exact h3 i (by omega)
theorem Dn.end {B : Nat} {w wr : World} {p : Option Addr} {n c : Nat} {A : List Int} (h : Dn B w wr p n c A n) (hl : A.length = n) :
    wr.ownsRow B 3 1 (.slice p n c) n (ints (A.map dn1)) ∧ Kept (fun b => (Value.slice p n c).ownBlock = some b) w wr := by
  obtain ⟨ys, h1, h2, h3, h4⟩ := h
  have hlen : ys.length = n * 1 := h1.1
  have e : ys = ints (A.map dn1) := by
    apply List.ext_getElem?
    intro i
    by_cases hi : i < n
    · exact h2 i hi
    · rw [List.getElem?_eq_none (by omega), List.getElem?_eq_none (by rw [ints_len, List.length_map]; omega)]
  rw [← e]
  exact ⟨h1, h4⟩
theorem Dn.cell {B : Nat} {w wr : World} {g n c : Nat} {A : List Int} {k : Nat} {x : Int} (h : Dn B w wr (some ⟨g, 0, none⟩) n c A k) (hk : k < n) (hx : A[k]? = some x) : wr.cell? ⟨g, k, none⟩ = some (.int .i64 x) ∧ wr.frozen? ⟨g, k, none⟩ = false := by
  obtain ⟨ys, h1, _, h3, _⟩ := h
  have hlen : ys.length = n * 1 := h1.1
  refine ⟨?_, h1.frozenAt k⟩
  rw [h1.cellAt k (by omega), h3 k (Nat.le_refl _)]
  exact GivesI.ints_at hx
set_option maxRecDepth 100000 in
set_option maxHeartbeats 8000000 in
theorem impl_any (a1 a2 : Option Addr) (n1 c1 n2 c2 : Nat) (l m : Ps) (p : Option Addr) (n : Nat) (L : List Pt) (w : World) (hz1 : n1 ≤ 1048576) (hz2 : n2 ≤ 1048576) (h1 : Holds w a1 n1 l) (h2 : Holds w a2 n2 m) (hn : n ≤ 1048576) (h : HoldsP w p n L) (hS : Sm L 1048576) :
    Calls Try.prog 26 #[.agg #[.slice a1 n1 c1, .slice a2 n2 c2], .slice p n n] w (GivesI.Res (opP l m L).isSome ((opP l m L).getD []) w) := by
  have hb := below_alloc w (.cells #[.slice a1 n1 c1, .slice a2 n2 c2] 33)
  have hf := box_first w (.slice a1 n1 c1) (.slice a2 n2 c2) 33
  have hf2 := box_second w (.slice a1 n1 c1) (.slice a2 n2 c2) 33
  have hsz : w.heap.size < (w.alloc (.cells #[.slice a1 n1 c1, .slice a2 n2 c2] 33)).heap.size := by simp
  have H1 := Lib.hid (h1.below hb)
  have H2 := Lib.hid (h2.below hb)
  have HH := Lib.hid (h.below hb)
  have HL := Lib.hid h.1
  have HS := Lib.hid hS
  have HB := Lib.hid hb
  clear h h1 h2 hS hb
  go_enter Try.func26, Try.ntmps26
  go_wp2_with fail
  generalize w.alloc (.cells #[.slice a1 n1 c1, .slice a2 n2 c2] 33) = W at *
  refine (grp_any a1 a2 n1 c1 n2 c2 l m p n n L W hz1 hz2 (Nat.le_refl _) hn HS.out H1.out H2.out HH.out).mono ?_
  rintro e w1 ⟨rfl, b1⟩
  have g1 := (b1.cell (p := ⟨w.heap.size, 0, none⟩) hsz).trans hf
  have g2 := (b1.cell (p := ⟨w.heap.size, 1, none⟩) hsz).trans hf2
  have HB1 := Lib.hid (HB.out.trans (b1.mono HB.out.size))
  have K1 := Lib.hid (H1.out.below b1)
  have K2 := Lib.hid (H2.out.below b1)
  have KH := Lib.hid (HH.out.below b1)
  clear b1 hf hf2 H1 H2 HH
  cases hg : grp l m L with
  | false =>
    have HE := Lib.hid (op_no hg)
    have HO := Lib.hid (That.empty_own (T := 3) w1)
    have HBE := Lib.hid (HB1.out.trans ((below_alloc w1 (.cells #[] 3)).mono HB1.out.size))
    clear hg
    go_wp2_with fail
    go_ret2
    exact ⟨_, 0, 0, by rw [HE.out]; rfl, by rw [HE.out]; exact ownsRow_base HO.out HB1.out.size, by omega, HBE.out⟩
  | true =>
    have HG := Lib.hid hg
    have hn6 : n ≤ 6 := by
      have hg2 := hg
      unfold grp at hg2
      rw [Bool.and_eq_true] at hg2
      rw [← HL.out]
      exact (gp_iff.1 hg2.2).1
    clear hg
    go_wp2_with fail
    refine (rec_any a1 a2 n1 c1 n2 c2 l m p n n L w1 HG.out K1.out K2.out KH.out).mono ?_
    rintro e w2 ⟨p1, p2, d1, d2, rfl, hgot, b2⟩
    have HB2 := Lib.hid (HB1.out.trans (b2.mono HB1.out.size))
    have hbd := mR_bound (ePh m L) n n hn6 hn6
    have HGT := Lib.hid hgot.holds
    have HOR := Lib.hid (order_R (e := ePh m L) hn6 (ePh_self m L))
    clear b2 hgot g1 g2
    generalize mR (ePh m L) n n = MR at *
    go_wp2_with fail
    refine (CtxOrdK.implK_any p1 p2 n d1 MR.length d2 (lR n) MR w2 (by omega) (by omega) HGT.out.1 HGT.out.2).mono ?_
    rintro e w3 ⟨pr, k, d, rfl, hown, hk, b3⟩
    have HB3 := Lib.hid (HB2.out.trans (b3.mono HB2.out.size))
    have HLE := HL.out
    by_cases hfull : (outP (ePh m L) n).length = n
    · have HE : Hid (opP l m L = some (outP (ePh m L) n)) := by unfold Hid; rw [← HLE] at hfull ⊢; exact op_yes HG.out hfull
      have HRG : Hid (∀ x ∈ outP (ePh m L) n, 0 ≤ x ∧ x < (n : Int)) := fun x hx => out_rng hx
      have hor := HOR.out
      rw [if_pos hfull] at hor
      rw [hor] at hown ⊢
      have hown2 : w3.ownsRow w2.heap.size 3 1 (.slice pr k d) k (ints ((outP (ePh m L) n).map up1)) := hown
      have HLK : Hid (((outP (ePh m L) n).map up1).length = k) := by have := hown2.1; rw [ints_len] at this; unfold Hid; omega
      have hk6 : k ≤ 6 := by have := HLK.out; rw [List.length_map] at this; omega
      have HD0 : Hid (Dn w2.heap.size w3 w3 pr k d ((outP (ePh m L) n).map up1) 0) := ⟨_, hown2, fun i hi => by omega, fun i _ => rfl, Kept.refl _ _⟩
      clear hor hown hown2 hfull b3 HLE
      generalize outP (ePh m L) n = OO at *
      go_wp2_with fail
      go_loopw [23] (fun s23 wr => ∃ i : Nat, i ≤ k ∧ s23 = .int .i64 i ∧ Hid (Dn w2.heap.size w3 wr pr k d (OO.map up1) i)) (fun s23 _ => k - (intOf s23).toNat)
      case atStart => exact ⟨0, Nat.zero_le _, rfl, HD0⟩
      case round =>
        clear HD0
        obtain ⟨i, hi, rfl, HD⟩ := hrel
        by_cases hit : i < k
        · have hii : (i : Int) < (k : Int) := by omega
          have hi0 : (0 : Int) ≤ (i : Int) := by omega
          obtain ⟨g, rfl⟩ := HD.out.sm (by omega)
          obtain ⟨x, hx⟩ : ∃ x, (OO.map up1)[i]? = some x := ⟨(OO.map up1)[i]'(by rw [HLK.out]; exact hit), List.getElem?_eq_getElem (by rw [HLK.out]; exact hit)⟩
          obtain ⟨c0, f0⟩ := HD.out.cell hit hx
          have hxr : 1 ≤ x ∧ x ≤ 7 := by
            rw [List.getElem?_map] at hx
            cases ho : OO[i]? with
            | none => rw [ho] at hx; cases hx
            | some y =>
              rw [ho] at hx
              have hy := HRG.out y (List.mem_of_getElem? ho)
              have e1 : up1 y = x := by simpa using hx
              unfold up1 at e1
              omega
          have HD2 := Lib.hid (HD.out.step hit hx)
          clear hx HD
          go_wp2_with fail
          exact ⟨⟨i + 1, by omega, by go_num, HD2⟩, by simp [intOf]; omega⟩
        · obtain rfl : i = k := by omega
          have hii : ¬ (i : Int) < (i : Int) := by omega
          obtain ⟨hE1, hE2⟩ := HD.out.end HLK.out
          rw [up_dn] at hE1
          have HE1 := Lib.hid hE1
          have HBE := Lib.hid (HB3.out.trans ((hE2.below (B := w.heap.size) (fun b hb => by have := (hE1.lt b hb).1; have := HB2.out.size; omega) HB3.out.size)))
          clear hE1 hE2 HD
          go_wp2_with fail
          go_ret2
          exact ⟨pr, i, d, by rw [HE.out]; rfl, by rw [HE.out]; exact ownsRow_base HE1.out HB2.out.size, hk, HBE.out⟩
    · have HE : Hid (opP l m L = none) := by unfold Hid; rw [← HLE] at hfull; exact op_cyc hfull
      have hor := HOR.out
      rw [if_neg hfull] at hor
      rw [hor] at hown ⊢
      have hk0 : k = 0 := by have := hown.1; rw [ints_len] at this; simp at this; omega
      subst hk0
      have HO := Lib.hid hown
      clear hor hown hfull b3 HLE
      go_wp2_with fail
      go_loopw [23] (fun s23 wr => s23 = .int .i64 0 ∧ wr = w3) (fun _ _ => 0)
      case atStart => exact ⟨rfl, rfl⟩
      case round =>
        obtain ⟨rfl, rfl⟩ := hrel
        go_wp2_with fail
        go_ret2
        exact ⟨pr, 0, d, by rw [HE.out]; rfl, by rw [HE.out]; exact ownsRow_base HO.out HB2.out.size, by omega, HB3.out⟩
end Go.Proofs.Ytbdplgcdnpcnfaa.OpI
/- The model's SpreadOf. -/
namespace Go.Proofs.Ytbdplgcdnpcnfaa.GpX
open Go.RowKit Pairs Rec RecEq Keep GivesI Chain Find2 GoodM Lows Order Bit Table Idx IsLater Ph GpM GpB GpC GpI GpS GpP GpN GpW
theorem key_at {l : Ps} {k : Nat} {x y : Int} (hx : l[k]? = some (x, y)) : (keys l)[k]? = some x := by
  unfold keys
  rw [List.getElem?_map, hx]
  rfl
def q2 (q : Int → Int → Bool) (M : List Int) : Int → Int → Bool := fun a b => q a b && (inM M a && inM M b)
theorem q2_no {q : Int → Int → Bool} {M : List Int} {a b : Int} (h : q a b = false) : q2 q M a b = false := by unfold q2; rw [h]; rfl
theorem q2_x {q : Int → Int → Bool} {M : List Int} {a b : Int} (h : inM M a = false) : q2 q M a b = false := by unfold q2; rw [h]; simp
theorem q2_y {q : Int → Int → Bool} {M : List Int} {a b : Int} (h : inM M b = false) : q2 q M a b = false := by unfold q2; rw [h]; simp
theorem q2_yes {q : Int → Int → Bool} {M : List Int} {a b : Int} (h : q a b = true) (h1 : inM M a = true) (h2 : inM M b = true) : q2 q M a b = true := by unfold q2; rw [h, h1, h2]; rfl
set_option maxRecDepth 100000 in
set_option maxHeartbeats 16000000 in
theorem spec_any (z : Int) (a1 a2 : Option Addr) (n1 c1 n2 c2 : Nat) (l m : Ps) (p : Option Addr) (n : Nat) (L : List Pt) (w : World) (hz1 : n1 ≤ 1048576) (_hz2 : n2 ≤ 1048576) (h1 : Holds w a1 n1 l) (h2 : Holds w a2 n2 m) (hn : n ≤ 1048576) (h : HoldsP w p n L) (hS : Sm L 1048576) :
    Calls Try.prog 27 #[.agg #[.slice a1 n1 c1, .slice a2 n2 c2], .slice p n n, .int .i64 z] w fun e w' => e = .returned (.tuple #[.int .i64 (spP z l m L).1, .bool (spP z l m L).2]) ∧ Below w.heap.size w w' := by
  have hb := below_alloc w (.cells #[.slice a1 n1 c1, .slice a2 n2 c2] 33)
  have hf := box_first w (.slice a1 n1 c1) (.slice a2 n2 c2) 33
  have hf2 := box_second w (.slice a1 n1 c1) (.slice a2 n2 c2) 33
  have hsz : w.heap.size < (w.alloc (.cells #[.slice a1 n1 c1, .slice a2 n2 c2] 33)).heap.size := by simp
  have H1 := Lib.hid (h1.below hb)
  have H2 := Lib.hid (h2.below hb)
  have HH := Lib.hid (h.below hb)
  have HL := Lib.hid h.1
  have HL1 := Lib.hid h1.1
  have HS := Lib.hid hS
  have HB := Lib.hid hb
  clear h h1 h2 hS hb
  go_enter Try.func27, Try.ntmps27
  go_wp2_with fail
  generalize w.alloc (.cells #[.slice a1 n1 c1, .slice a2 n2 c2] 33) = W at *
  refine (l7Good_any a1 a2 n1 c1 n2 c2 l m p n n L W hz1 hn HS.out H1.out H2.out HH.out).mono ?_
  rintro e w1 ⟨rfl, b1⟩
  have g1 := (b1.cell (p := ⟨w.heap.size, 0, none⟩) hsz).trans hf
  have g2 := (b1.cell (p := ⟨w.heap.size, 1, none⟩) hsz).trans hf2
  have hsz1 := Nat.lt_of_lt_of_le hsz b1.size
  have HB1 := Lib.hid (HB.out.trans (b1.mono HB.out.size))
  have K1 := Lib.hid (H1.out.below b1)
  have K2 := Lib.hid (H2.out.below b1)
  have KH := Lib.hid (HH.out.below b1)
  clear b1 hf hf2 H1 H2 HH
  cases hg : grp l m L with
  | false =>
    have HE := Lib.hid (sp_no1 (z := z) hg)
    clear hg
    go_wp2_with fail
    go_ret2
    exact ⟨by rw [HE.out]; rfl, HB1.out⟩
  | true =>
    have HG := Lib.hid hg
    clear hg
    by_cases hzr : 0 ≤ z ∧ z < (n : Int)
    · obtain ⟨k0, rfl⟩ : ∃ k : Nat, z = (k : Int) := ⟨z.toNat, by have := hzr.1; omega⟩
      have hkn : k0 < n := by have := hzr.2; omega
      have hki0 : (k0 : Int) < (n : Int) := hzr.2
      have hk00 : (0 : Int) ≤ (k0 : Int) := hzr.1
      have HZR : Hid ((0 : Int) ≤ (k0 : Int) ∧ (k0 : Int) ≤ (n : Int) - 1) := ⟨hzr.1, by have := hzr.2; omega⟩
      clear hzr
      obtain ⟨b, off, s, M, pp, jm, d, rfl, hx, e1, e2, hM⟩ := KH.out.at k0 hkn
      have hmb := grp_mb HG.out hx
      have hgd := grp_good HG.out
      have hjm : jm ≤ 1048576 := by
        have h1 := mb_len (Idx.good_asc hgd).1 hmb
        have h2 := (Idx.good_asc hgd).2
        have h3 := hM.1
        omega
      have hn1 : n1 ≤ 10 := by rw [← HL1.out]; exact (Table.good_few hgd).1
      have HE := Lib.hid (sp_yes HG.out hx)
      have HSP : Hid (cnt (q2 (later m) M) (keys l) (keys l) = cnt (later m) M M) := spread_is (Idx.good_asc hgd).1 hmb
      have HKL : Hid ((keys l).length = n1) := by unfold Hid keys; rw [List.length_map]; exact HL1.out
      have HGD := Lib.hid hgd
      have HM := Lib.hid hM
      have E2 := Lib.hid e2
      have hblt := World.block_lt_of_cell? w1 _ e2
      clear hx hM hmb hgd e1 e2
      go_wp2_with (go_at_call 54; refine (Good2.l1In_true _ _ _ HZR.out.1 HZR.out.2 _).mono ?_; rintro e w1 ⟨rfl, rfl⟩)
      refine (later_any a1 a2 n1 c1 n2 c2 l m w1 HGD.out K1.out K2.out).mono ?_
      rintro e w3 ⟨gt, T, rfl, hge, hT, TT, b3⟩
      have HTT := Lib.hid TT
      have HLT : Hid (T.length = n1) := TT.len
      have R12 := Lib.hid (And.intro ((b3.cell (p := ⟨w.heap.size, 0, none⟩) hsz1).trans g1) ((b3.cell (p := ⟨w.heap.size, 1, none⟩) hsz1).trans g2))
      have E3 := Lib.hid ((b3.cell (p := ⟨b, off + k0 * 2 + 1, none⟩) hblt).trans E2.out)
      have HM3 := Lib.hid (HM.out.below b3)
      have J1 := Lib.hid (K1.out.below b3)
      have HT3 := Lib.hid hT
      have HB3 := Lib.hid (HB1.out.trans (b3.mono HB1.out.size))
      have hsz3 := Nat.lt_of_lt_of_le hsz1 b3.size
      have hblt3 := Nat.lt_of_lt_of_le hblt b3.size
      clear hT TT b3 g1 g2
      go_wp2_with fail
      go_loopw [9, 10] (fun s9 s10 wr => ∃ i c : Nat, i ≤ n1 ∧ s10 = .int .i64 i ∧ s9 = .int .i64 (c : Int) ∧ Hid (c = cnt (q2 (later m) M) ((keys l).take i) (keys l)) ∧ Hid (Below w3.heap.size w3 wr)) (fun _ s10 _ => n1 - (intOf s10).toNat)
      case atStart => exact ⟨0, 0, Nat.zero_le _, rfl, rfl, rfl, Below.refl _ _⟩
      case round =>
        rename World => wi
        obtain ⟨i, c, hi, rfl, rfl, HC, HR⟩ := hrel
        have hc100 : c ≤ 100 := by
          rw [HC.out]
          refine Nat.le_trans (cnt_le _ _ _) ?_
          rw [List.length_take, HKL.out]
          exact Nat.mul_le_mul (by omega : min i n1 ≤ 10) hn1
        by_cases hit : i < n1
        · have hii : (i : Int) < (n1 : Int) := by omega
          have hi0 : (0 : Int) ≤ (i : Int) := by omega
          obtain ⟨bl, ol, x, yx, hbl, hxl, -, -⟩ := J1.out.at i hit
          have HXL := Lib.hid hxl
          have HXI := Lib.hid (Consist.num_at HGD.out hxl)
          have HXK := Lib.hid (key_at hxl)
          clear hbl hxl
          go_wp2_with fail
          go_loopw [9, 11] (fun s9 s11 wr => ∃ j e : Nat, j ≤ n1 ∧ s11 = .int .i64 j ∧ s9 = .int .i64 (e : Int) ∧ Hid (e = c + ((keys l).take j).countP (q2 (later m) M x)) ∧ Hid (Below wi.heap.size wi wr)) (fun _ s11 _ => n1 - (intOf s11).toNat)
          case atStart => exact ⟨0, c, Nat.zero_le _, rfl, rfl, rfl, Below.refl _ _⟩
          case round =>
            rename World => wj
            obtain ⟨j, e, hj, rfl, rfl, HD, HRj⟩ := hrel
            have he : e ≤ 110 := by
              have h1 : ((keys l).take j).countP (q2 (later m) M x) ≤ ((keys l).take j).length := List.countP_le_length
              rw [List.length_take] at h1
              have := HD.out
              omega
            have HBj := Lib.hid (HR.out.trans (HRj.out.mono HR.out.size))
            by_cases hjt : j < n1
            · have hji : (j : Int) < (n1 : Int) := by omega
              have hj0 : (0 : Int) ≤ (j : Int) := by omega
              obtain ⟨b4, o4, y, yy, hb4, hyl, f3, -⟩ := (J1.out.below HBj.out).at j hjt
              obtain ⟨b5, o5, x5, yx5, hb5, hxl5, f4, -⟩ := (J1.out.below HBj.out).at i hit
              obtain rfl : x5 = x := by
                have h1 := HXL.out
                rw [hxl5] at h1
                injection h1 with h1
                injection h1
              rw [hb4] at hb5
              injection hb5 with hb5
              injection hb5 with hb51 hb52
              subst hb51 hb52 hb4
              have f1 := (HBj.out.cell (p := ⟨w.heap.size, 0, none⟩) hsz3).trans R12.out.1
              have f2 := (HBj.out.cell (p := ⟨w.heap.size, 1, none⟩) hsz3).trans R12.out.2
              have f5 := (HBj.out.cell (p := ⟨b, off + k0 * 2 + 1, none⟩) hblt3).trans E3.out
              obtain ⟨bb, oo, zz, hp, hzz, f6⟩ := (HT3.out.below HBj.out).at i hit
              obtain ⟨t, ht, rfl⟩ := row_at hzz
              injection hp with hp
              injection hp with hp1 hp2
              subst hp1 hp2
              rw [Nat.zero_add] at f6
              have ht10 := bd hn1 (HTT.out.bd i t ht)
              have hbit : t.testBit j = later m x5 y := tbit HGD.out HL1.out HTT.out HXI.out (Consist.num_at HGD.out hyl) ht
              have hl4 := l4Bit_any t j ht10 (by omega)
              rw [hbit] at hl4
              have HN := Lib.hid (cp_next (q2 (later m) M x5) (key_at hyl))
              have HMj := Lib.hid (HM3.out.below HBj.out)
              have k1 := cell_regrown f1
              have k2 := cell_regrown f2
              have k3 := cell_regrown f3
              have k4 := cell_regrown f4
              have k5 := cell_regrown f5
              have k6 := cell_regrown f6
              have cX : ∀ d0 os, Calls Try.prog 57 #[.slice pp jm d, .int .i64 x5] (Sort.grow (redrawn wj d0) os) fun e w'' => e = .returned (.bool (inM M x5)) ∧ ∃ p : Regrown, w'' = Sort.grow (redrawn wj p.d) p.os := fun d0 os => Calls.regrown_of ((l1Has_any pp jm d M x5 hjm _ (HMj.out.below (below_regrown wj d0 os))).mono fun e w'' ⟨h1, h2⟩ => ⟨h1, by rw [h2]; exact Below.refl _ _⟩)
              have cY : ∀ d0 os, Calls Try.prog 57 #[.slice pp jm d, .int .i64 y] (Sort.grow (redrawn wj d0) os) fun e w'' => e = .returned (.bool (inM M y)) ∧ ∃ p : Regrown, w'' = Sort.grow (redrawn wj p.d) p.os := fun d0 os => Calls.regrown_of ((l1Has_any pp jm d M y hjm _ (HMj.out.below (below_regrown wj d0 os))).mono fun e w'' ⟨h1, h2⟩ => ⟨h1, by rw [h2]; exact Below.refl _ _⟩)
              have cB : ∀ d0 os, Calls Try.prog 56 #[.int .i64 (t : Int), .int .i64 (j : Int)] (Sort.grow (redrawn wj d0) os) fun e w'' => e = .returned (.bool (later m x5 y)) ∧ ∃ p : Regrown, w'' = Sort.grow (redrawn wj p.d) p.os := fun d0 os => Calls.regrown_of ((hl4 _).mono fun e w'' ⟨h1, h2⟩ => ⟨h1, by rw [← h2]; exact Below.refl _ _⟩)
              clear hyl hxl5 hzz ht hbit hl4
              cases hl : later m x5 y with
              | false =>
                rw [hl] at cB
                have HD2 : Hid (e = c + ((keys l).take (j + 1)).countP (q2 (later m) M x5)) := by
                  unfold Hid
                  rw [HN.out, HD.out, q2_no hl, if_neg (by simp)]
                  omega
                clear hl HN
                go_wp2_with fail
                refine wp_region_quiet_below (by kernel_rfl) (by kernel_rfl) ?_
                repeat (go_big_quiet_step (first | (go_at_call 56; exact cB _ _)))
                refine wpQuiet_nil ?_
                intro _ hw'
                obtain ⟨⟨dq, osq⟩, hw''⟩ := hw'
                subst hw''
                have HRE : Hid (Below wi.heap.size wi (Sort.grow (redrawn wj dq) osq)) := HRj.out.trans ((below_regrown wj dq osq).mono HRj.out.size)
                clear k1 k2 k3 k4 k5 k6 cX cY cB f1 f2 f3 f4 f5 f6
                go_wp2_with fail
                exact ⟨⟨j + 1, e, by omega, by go_num, rfl, HD2, HRE⟩, by simp [intOf]; omega⟩
              | true =>
                rw [hl] at cB
                cases hmx : inM M x5 with
                | false =>
                  rw [hmx] at cX
                  have HD2 : Hid (e = c + ((keys l).take (j + 1)).countP (q2 (later m) M x5)) := by
                    unfold Hid
                    rw [HN.out, HD.out, q2_x hmx, if_neg (by simp)]
                    omega
                  clear hl hmx HN
                  go_wp2_with fail
                  refine wp_region_quiet_below (by kernel_rfl) (by kernel_rfl) ?_
                  repeat (go_big_quiet_step (first | (go_at_call 56; exact cB _ _) | (go_at_call 57; exact cX _ _)))
                  refine wpQuiet_nil ?_
                  intro _ hw'
                  obtain ⟨⟨dq, osq⟩, hw''⟩ := hw'
                  subst hw''
                  have HRE : Hid (Below wi.heap.size wi (Sort.grow (redrawn wj dq) osq)) := HRj.out.trans ((below_regrown wj dq osq).mono HRj.out.size)
                  clear k1 k2 k3 k4 k5 k6 cX cY cB f1 f2 f3 f4 f5 f6
                  go_wp2_with fail
                  exact ⟨⟨j + 1, e, by omega, by go_num, rfl, HD2, HRE⟩, by simp [intOf]; omega⟩
                | true =>
                  rw [hmx] at cX
                  cases hmy : inM M y with
                  | false =>
                    rw [hmy] at cY
                    have HD2 : Hid (e = c + ((keys l).take (j + 1)).countP (q2 (later m) M x5)) := by
                      unfold Hid
                      rw [HN.out, HD.out, q2_y hmy, if_neg (by simp)]
                      omega
                    clear hl hmx hmy HN
                    go_wp2_with fail
                    refine wp_region_quiet_below (by kernel_rfl) (by kernel_rfl) ?_
                    repeat (go_big_quiet_step (first | (go_at_call 56; exact cB _ _) | (go_at_call_of 57 x5; exact cX _ _) | (go_at_call_of 57 y; exact cY _ _)))
                    refine wpQuiet_nil ?_
                    intro _ hw'
                    obtain ⟨⟨dq, osq⟩, hw''⟩ := hw'
                    subst hw''
                    have HRE : Hid (Below wi.heap.size wi (Sort.grow (redrawn wj dq) osq)) := HRj.out.trans ((below_regrown wj dq osq).mono HRj.out.size)
                    clear k1 k2 k3 k4 k5 k6 cX cY cB f1 f2 f3 f4 f5 f6
                    go_wp2_with fail
                    exact ⟨⟨j + 1, e, by omega, by go_num, rfl, HD2, HRE⟩, by simp [intOf]; omega⟩
                  | true =>
                    rw [hmy] at cY
                    have HD2 : Hid (e + 1 = c + ((keys l).take (j + 1)).countP (q2 (later m) M x5)) := by
                      unfold Hid
                      rw [HN.out, HD.out, q2_yes hl hmx hmy, if_pos rfl]
                      omega
                    clear hl hmx hmy HN
                    go_wp2_with fail
                    refine wp_region_quiet_below (by kernel_rfl) (by kernel_rfl) ?_
                    repeat (go_big_quiet_step (first | (go_at_call 56; exact cB _ _) | (go_at_call_of 57 x5; exact cX _ _) | (go_at_call_of 57 y; exact cY _ _)))
                    refine wpQuiet_nil ?_
                    intro _ hw'
                    obtain ⟨⟨dq, osq⟩, hw''⟩ := hw'
                    subst hw''
                    have HRE : Hid (Below wi.heap.size wi (Sort.grow (redrawn wj dq) osq)) := HRj.out.trans ((below_regrown wj dq osq).mono HRj.out.size)
                    clear k1 k2 k3 k4 k5 k6 cX cY cB f1 f2 f3 f4 f5 f6
                    go_wp2_with fail
                    exact ⟨⟨j + 1, e + 1, by omega, by go_num, by go_num, HD2, HRE⟩, by simp [intOf]; omega⟩
            · obtain rfl : j = n1 := by omega
              have hji : ¬ (j : Int) < (j : Int) := by omega
              have HC2 : Hid (e = cnt (q2 (later m) M) ((keys l).take (i + 1)) (keys l)) := by
                unfold Hid
                rw [cnt_next _ HXK.out, ← HC.out, HD.out, List.take_of_length_le (by rw [HKL.out]; exact Nat.le_refl _)]
              go_wp2_with fail
              exact ⟨⟨i + 1, e, by omega, by go_num, rfl, HC2, HBj⟩, by simp [intOf]; omega⟩
        · obtain rfl : i = n1 := by omega
          have hii : ¬ (i : Int) < (i : Int) := by omega
          have HCE : Hid (c = cnt (later m) M M) := by
            unfold Hid
            rw [HC.out, List.take_of_length_le (by rw [HKL.out]; exact Nat.le_refl _), HSP.out]
          have HBE := Lib.hid (HB3.out.trans (HR.out.mono HB3.out.size))
          go_wp2_with fail
          go_ret2
          exact ⟨by rw [HE.out, ← HCE.out]; rfl, HBE.out⟩
    · have HE := Lib.hid (sp_no2 (z := z) (l := l) (m := m) (L := L) (by rw [HL.out]; exact hzr))
      have HZR : Hid (¬ ((0 : Int) ≤ z ∧ z ≤ (n : Int) - 1)) := fun h => hzr ⟨h.1, by have := h.2; omega⟩
      clear hzr
      go_wp2_with (go_at_call 54; refine (Good2.l1In_false _ _ _ HZR.out _).mono ?_; rintro e w' ⟨rfl, rfl⟩)
      go_ret2
      exact ⟨by rw [HE.out]; rfl, HB1.out⟩
end Go.Proofs.Ytbdplgcdnpcnfaa.GpX
