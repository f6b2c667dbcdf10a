/- The program's sums and the model's agree: on sets that hold with a context all those that are later. -/
import Derived.Test.YtjllbbkpmmnkgaaDoorIsqM
import Derived.Test.YtjllbbkpmmnkgaaDoorEnI
import Derived.Test.YtjllbbkpmmnkgaaDoorCntS
namespace Go.Proofs.YtjllbbkpmmnkgaaDoor.CntM
open Go.RowKit Pairs Rec Chain Find2 GoodM Keep GivesI Lows Order Bit Table RedS BlM Nxt Tz SqM Org IsqM IsLater IsqS EnM EnI CntS
set_option linter.unusedVariables false
theorem rd_iff {l m : Ps} (hg : good l m = true) {p : Nat} (hp : p < 2 ^ l.length) {x : Int} {i : Nat} (hx : isAt l x = some i) :
    rd (ups l m) (2 ^ l.length - 1) p i = true ↔ p.testBit i = false ∧ ∀ y k, (y, x) ∈ m → isAt l y = some k → p.testBit k = true := by
  have hn := (Table.good_few hg).1
  have hp2 := p_lt hn hp
  unfold rd nxt
  rw [nxl_bit, mem_bl (an_lt (all_lt hn)), an_bit hp2 (all_lt hn), an_zero (ups_lt l m hn i) hp2, Nat.testBit_two_pow_sub_one, decide_eq_true (isAt_lt hx), Bool.true_and]
  constructor
  · rintro ⟨h1, h2⟩
    refine ⟨by simpa using h1, fun y k hm hk => h2 k ((ups_bit l i k m).2 ⟨(y, x), hm, hx, by rw [hk]; rfl⟩)⟩
  · rintro ⟨h1, h2⟩
    refine ⟨by rw [h1]; rfl, fun k hk => ?_⟩
    obtain ⟨q, hq, h4, h5⟩ := (ups_bit l i k m).1 hk
    obtain ⟨⟨u, hu⟩, _⟩ := Table.good_ends hg q.1 q.2 hq
    rw [hu] at h5
    have e5 : u = k := h5
    subst e5
    have e2 : q.2 = x := isAt_inj h4 hx
    exact h2 q.1 u (by rw [← e2]; exact hq) hu
def Cl (l m : Ps) (p : Nat) : Prop := ∀ x y i k, isAt l x = some i → isAt l y = some k → Chain.Reach m y x → p.testBit i = true → p.testBit k = true
theorem cl_up {l m : Ps} (hg : good l m = true) {p : Nat} (hc : Cl l m p) {x : Int} (h : ∀ y k, (y, x) ∈ m → isAt l y = some k → p.testBit k = true) : ∀ y k, Chain.Reach m y x → isAt l y = some k → p.testBit k = true := by
  intro y k r hk
  cases r with
  | one e => exact h y k e hk
  | more r e =>
    rename_i c
    obtain ⟨⟨j, hj⟩, _⟩ := Table.good_ends hg c x e
    exact hc c y j k hj hk r (h c j e hj)
theorem rm_iff {l m : Ps} (hg : good l m = true) {n : Nat} (hl : l.length = n) {T : List Nat} (TT : Tbl n T (W (Ed l m) n)) {p : Nat} {x : Int} {i : Nat} (hx : isAt l x = some i) :
    rm T n p i = true ↔ p.testBit i = false ∧ ∀ y k, Chain.Reach m y x → isAt l y = some k → p.testBit k = true := by
  have hA := (Idx.good_asc hg).1
  have hin : i < n := by rw [← hl]; exact isAt_lt hx
  unfold rm
  rw [decide_eq_true hin, Bool.true_and]
  constructor
  · intro h
    obtain ⟨h1, h2⟩ := rdy_get h
    refine ⟨h1, fun y k r hk => ?_⟩
    have hkn : k < T.length := by rw [TT.len, ← hl]; exact isAt_lt hk
    have ht : T[k]? = some T[k] := List.getElem?_eq_getElem hkn
    have hb := tbit hg hl TT hk hx ht
    rw [later_iff.2 r] at hb
    exact h2 k _ ht hb
  · rintro ⟨h1, h2⟩
    refine rdy_yes h1 (fun k t ht hb => ?_)
    have hkl : k < l.length := by rw [hl, ← TT.len]; exact (List.getElem?_eq_some_iff.1 ht).1
    have hz : l[k]? = some (l[k].1, l[k].2) := List.getElem?_eq_getElem hkl
    have hb2 := tbit hg hl TT (at_num hA hz) hx ht
    rw [hb] at hb2
    exact h2 _ k (later_iff.1 hb2.symm) (at_num hA hz)
theorem agree {l m : Ps} (hg : good l m = true) {n : Nat} (hl : l.length = n) {T : List Nat} (TT : Tbl n T (W (Ed l m) n)) {p : Nat} (hp : p < 2 ^ n) (hc : Cl l m p) : v (rm T n) n p = v (rd (ups l m) (2 ^ n - 1)) n p := by
  subst hl
  have hA := (Idx.good_asc hg).1
  have hn := (Table.good_few hg).1
  have key : ∀ q, q < 2 ^ l.length → Cl l m q → ∀ i, i < l.length → rm T l.length q i = rd (ups l m) (2 ^ l.length - 1) q i := by
    intro q hq hcq i hi
    have hz : l[i]? = some ((l[i]'hi).1, (l[i]'hi).2) := List.getElem?_eq_getElem hi
    have hx := at_num hA hz
    have h1 := rm_iff hg rfl TT (p := q) hx
    have h2 := rd_iff hg (p := q) hq hx
    have h3 : rm T l.length q i = true ↔ rd (ups l m) (2 ^ l.length - 1) q i = true := by
      rw [h1, h2]
      constructor
      · rintro ⟨e1, e2⟩
        exact ⟨e1, fun y k e hk => e2 y k (.one e) hk⟩
      · rintro ⟨e1, e2⟩
        exact ⟨e1, cl_up hg hcq e2⟩
    cases e1 : rm T l.length q i <;> cases e2 : rd (ups l m) (2 ^ l.length - 1) q i <;> simp_all
  refine v_agree (rm_fine T l.length) (rd_fine (n := l.length) rfl (all_lt hn)) (Cl l m) key (fun q i hq hcq hr => ?_) (2 ^ l.length) p hp (by omega) hc
  have hi := (rm_fine T l.length q i hq hr).1
  have hz : l[i]? = some ((l[i]'hi).1, (l[i]'hi).2) := List.getElem?_eq_getElem hi
  have hxi := at_num hA hz
  have h1 := ((rm_iff hg rfl TT (p := q) hxi).1 hr).2
  intro x y j k hx hy r hb
  rw [Nat.testBit_or, Bool.or_eq_true] at hb ⊢
  left
  rcases hb with hb | hb
  · exact hcq x y j k hx hy r hb
  · rw [Nat.testBit_two_pow, decide_eq_true_iff] at hb
    subst hb
    have e := isAt_inj hx hxi
    subst e
    exact h1 y k r hy
theorem cl_zero (l m : Ps) : Cl l m 0 := fun x y i k _ _ _ h => by simp at h
noncomputable def cntP (l m : Ps) : Int × Bool := if good l m = true ∧ cyc l m = false then (v (rd (ups l m) (2 ^ l.length - 1)) l.length 0, true) else (0, false)
theorem cnt_no {l m : Ps} (h : ¬ (good l m = true ∧ cyc l m = false)) : cntP l m = (0, false) := by unfold cntP; rw [if_neg h]
theorem cnt_yes {l m : Ps} (h : good l m = true ∧ cyc l m = false) : cntP l m = (v (rd (ups l m) (2 ^ l.length - 1)) l.length 0, true) := by unfold cntP; rw [if_pos h]
def Ans (l m : Ps) (w : World) (e : Ending) (w' : World) : Prop := e = .returned (.tuple #[.int .i64 (cntP l m).1, .bool (cntP l m).2]) ∧ Below w.heap.size w w'
set_option maxRecDepth 100000 in
set_option maxHeartbeats 2000000 in
theorem spec_any (a1 a2 : Option Addr) (n1 c1 n2 c2 : Nat) (l m : List (Int × Int)) (w : World) (hz1 : n1 ≤ 1048576) (h1 : Holds w a1 n1 l) (h2 : Holds w a2 n2 m) :
    Calls Tryd.prog 20 #[.agg #[.slice a1 n1 c1, .slice a2 n2 c2]] w (Ans l m w) := by
  have hb := below_alloc w (.cells #[.slice a1 n1 c1, .slice a2 n2 c2] 33)
  have hf := box_first w (.slice a1 n1 c1) (.slice a2 n2 c2) 33
  have hf2 := box_second w (.slice a1 n1 c1) (.slice a2 n2 c2) 33
  have hsz : w.heap.size < (w.alloc (.cells #[.slice a1 n1 c1, .slice a2 n2 c2] 33)).heap.size := by simp
  have H1 := Lib.hid (h1.below hb)
  have H2 := Lib.hid (h2.below hb)
  have HL1 := Lib.hid h1.1
  have HB := Lib.hid hb
  clear h1 h2 hb
  go_enter Tryd.func20, Tryd.ntmps20
  go_wp2_with fail
  generalize w.alloc (.cells #[.slice a1 n1 c1, .slice a2 n2 c2] 33) = W0 at *
  refine (l5Good_any a1 a2 n1 c1 n2 c2 l m W0 H1.out H2.out).mono ?_
  rintro e w2 ⟨rfl, b2⟩
  have q1 := (b2.cell (p := ⟨w.heap.size, 0, none⟩) hsz).trans hf
  have q2 := (b2.cell (p := ⟨w.heap.size, 1, none⟩) hsz).trans hf2
  have HB2 := Lib.hid (HB.out.trans (b2.mono HB.out.size))
  have M1 := Lib.hid (H1.out.below b2)
  have M2 := Lib.hid (H2.out.below b2)
  clear hf hf2 b2
  by_cases hg : good l m = true ∧ cyc l m = false
  · have hgc : (good l m && !cyc l m) = true := by rw [hg.1, hg.2]; rfl
    rw [hgc]
    have HG := Lib.hid hg
    have HE := Lib.hid (cnt_yes hg)
    have hn10 : n1 ≤ 10 := by rw [← HL1.out]; exact (Table.good_few hg.1).1
    clear hg hgc
    go_wp2_with fail
    refine (later_any a1 a2 n1 c1 n2 c2 l m w2 HG.out.1 M1.out M2.out).mono ?_
    rintro e w3 ⟨gt, T, rfl, hge, hT, TT, b3⟩
    have HB3 := Lib.hid (HB2.out.trans (b3.mono HB2.out.size))
    have HTT := Lib.hid TT
    have HT := Lib.hid hT
    clear hT TT b3 hge
    go_wp2_with fail
    refine (counts_any (some ⟨gt, 0, none⟩) n1 n1 T w3 hn10 HT.out (fun k t ht => bd hn10 (HTT.out.bd k t ht))).mono ?_
    rintro e w4 ⟨g, C, rfl, hge, hC, hCI, b4⟩
    have hr0 := hCI.2 0 (Nat.two_pow_pos n1)
    have hval : cf (rm T n1) n1 0 0 = v (rd (ups l m) (2 ^ l.length - 1)) l.length 0 := by
      unfold cf
      rw [if_pos ⟨Nat.le_refl _, Nat.zero_le _⟩, agree HG.out.1 HL1.out HTT.out (Nat.two_pow_pos n1) (cl_zero l m), HL1.out]
    rw [hval] at hr0
    have c0 : w4.cell? ⟨g, 0, none⟩ = some (.int .i64 (v (rd (ups l m) (2 ^ l.length - 1)) l.length 0)) := by simp only [World.cell?, hC]; exact hr0
    have HB4 := Lib.hid (HB3.out.trans (b4.mono HB3.out.size))
    have hpos : (0 : Int) < ((2 ^ n1 : Nat) : Int) := by have := Nat.two_pow_pos n1; omega
    generalize v (rd (ups l m) (2 ^ l.length - 1)) l.length 0 = vv at *
    obtain ⟨N, hN⟩ : ∃ N, 2 ^ n1 = N := ⟨_, rfl⟩
    rw [hN] at hpos ⊢
    clear hr0 hval hC hCI hN b4
    go_wp2_with fail
    go_ret2
    unfold Ans
    rw [HE.out]
    exact ⟨rfl, HB4.out⟩
  · have hgc : (good l m && !cyc l m) = false := by
      cases h1 : good l m with
      | false => rfl
      | true =>
        cases h2 : cyc l m with
        | true => rfl
        | false => exact absurd ⟨h1, h2⟩ hg
    have HE := Lib.hid (cnt_no hg)
    rw [hgc]
    clear hg hgc
    go_wp2_with fail
    go_ret2
    unfold Ans
    rw [HE.out]
    exact ⟨rfl, HB2.out⟩
end Go.Proofs.YtjllbbkpmmnkgaaDoor.CntM
