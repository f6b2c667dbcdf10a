/- The model's l7Above: the table of phases below phases. -/
import Derived.Test.YtbdplgcdnpcnfaaExactOrderPhasesSaidPartbf
import Derived.Test.YtbdplgcdnpcnfaaExactOrderPhasesSaidPartas
namespace Go.Proofs.Ytbdplgcdnpcnfaa.OpA
open Go.RowKit Pairs Rec RecEq Keep GivesI Chain Find2 GoodM Lows Order Bit Table Idx IsLater Ph GpM GpB GpC GpI GpS GpP GpN GpW GpX OpM OpR OpI
def Hit (m : Ps) (L : List Pt) (x y : Int) (p q : Nat) : Prop := later m x y = true ∧ phs L x = (p : Int) ∧ phs L y = (q : Int) ∧ p ≠ q
/-- What is told by the pairs ahead of (i, j). -/
def Rel (m : Ps) (L : List Pt) (K : List Int) (i j p q : Nat) : Prop := ∃ (i' j' : Nat) (x y : Int), (i' < i ∨ (i' = i ∧ j' < j)) ∧ K[i']? = some x ∧ K[j']? = some y ∧ Hit m L x y p q
theorem rel_zero (m : Ps) (L : List Pt) (K : List Int) (p q : Nat) : ¬ Rel m L K 0 0 p q := fun ⟨_, _, _, _, h, _⟩ => by omega
theorem rel_next {m : Ps} {L : List Pt} {K : List Int} {i j : Nat} {x y : Int} (hx : K[i]? = some x) (hy : K[j]? = some y) (p q : Nat) : Rel m L K i (j + 1) p q ↔ Rel m L K i j p q ∨ Hit m L x y p q := by
  constructor
  · rintro ⟨i', j', x', y', h, h1, h2, h3⟩
    by_cases e : i' = i ∧ j' = j
    · obtain ⟨rfl, rfl⟩ := e
      rw [hx] at h1
      rw [hy] at h2
      injection h1 with h1
      injection h2 with h2
      subst h1 h2
      exact .inr h3
    · exact .inl ⟨i', j', x', y', by omega, h1, h2, h3⟩
  · rintro (⟨i', j', x', y', h, h1, h2, h3⟩ | h)
    · exact ⟨i', j', x', y', by omega, h1, h2, h3⟩
    · exact ⟨i, j, x, y, by omega, hx, hy, h⟩
theorem rel_row {m : Ps} {L : List Pt} {K : List Int} {i : Nat} (p q : Nat) : Rel m L K i K.length p q ↔ Rel m L K (i + 1) 0 p q := by
  constructor
  · rintro ⟨i', j', x', y', h, h1, h2, h3⟩
    exact ⟨i', j', x', y', by omega, h1, h2, h3⟩
  · rintro ⟨i', j', x', y', h, h1, h2, h3⟩
    have := (List.getElem?_eq_some_iff.1 h2).1
    exact ⟨i', j', x', y', by omega, h1, h2, h3⟩
theorem cnt_pos {q : Int → Int → Bool} {B : List Int} : ∀ {A : List Int}, 0 < cnt q A B ↔ ∃ a ∈ A, ∃ b ∈ B, q a b = true
  | [] => by simp [cnt]
  | a :: A => by
    have ih := cnt_pos (q := q) (B := B) (A := A)
    have e : cnt q (a :: A) B = B.countP (q a) + cnt q A B := by unfold cnt; rw [List.map_cons, List.sum_cons]
    rw [e]
    constructor
    · intro h
      by_cases h1 : 0 < B.countP (q a)
      · obtain ⟨b, hb, hq⟩ := List.countP_pos_iff.1 h1
        exact ⟨a, by simp, b, hb, hq⟩
      · obtain ⟨a', ha, r⟩ := ih.1 (by omega)
        exact ⟨a', List.mem_cons_of_mem _ ha, r⟩
    · rintro ⟨a', ha, b, hb, hq⟩
      rcases List.mem_cons.1 ha with e2 | e2
      · subst e2
        have := List.countP_pos_iff.2 ⟨b, hb, hq⟩
        omega
      · have := ih.2 ⟨a', e2, b, hb, hq⟩
        omega
theorem in_mem {l m : Ps} {L : List Pt} (hg : grp l m L = true) {x : Int} {p : Nat} (hp : p < L.length) : phs L x = (p : Int) ↔ x ∈ memP L p := by
  obtain ⟨⟨s, M⟩, hx⟩ : ∃ y, L[p]? = some y := ⟨L[p], List.getElem?_eq_getElem hp⟩
  rw [memP_at hx]
  have hg2 := hg
  unfold grp at hg2
  rw [Bool.and_eq_true] at hg2
  have hok := (gp_iff.1 hg2.2).2 p _ hx
  constructor
  · intro h
    cases ha : at? L x with
    | none => rw [phs_none ha] at h; omega
    | some k =>
      rw [phs_some ha] at h
      obtain rfl : k = p := by omega
      obtain ⟨y, hy, hm⟩ := at_lt ha
      rw [hx] at hy
      injection hy with hy
      rw [← hy] at hm
      exact hm
  · intro h
    exact (phs_is hx h).2 fun j y hj hy => (colT.1 hok.2.2 j y hj hy).2 x h
theorem rel_end {l m : Ps} {L : List Pt} (hg : grp l m L = true) {p q : Nat} (hp : p < L.length) (hq : q < L.length) : Rel m L (keys l) (keys l).length 0 p q ↔ ePh m L p q = true := by
  have hmb : ∀ k, k < L.length → ∀ x ∈ memP L k, x ∈ keys l := fun k hk x hx => by
    obtain ⟨⟨s, M⟩, hxk⟩ : ∃ y, L[k]? = some y := ⟨L[k], List.getElem?_eq_getElem hk⟩
    rw [memP_at hxk] at hx
    exact (grp_mb hg hxk).2.2 x hx
  unfold ePh
  rw [Bool.and_eq_true, decide_eq_true_iff, cnt_pos]
  constructor
  · rintro ⟨i', j', x, y, _, _, _, h1, h2, h3, h4⟩
    exact ⟨by simpa using h4, x, (in_mem hg hp).1 h2, y, (in_mem hg hq).1 h3, h1⟩
  · rintro ⟨hne, x, hx, y, hy, hl⟩
    obtain ⟨i, hi, e1⟩ := List.getElem_of_mem (hmb p hp x hx)
    obtain ⟨j, hj, e2⟩ := List.getElem_of_mem (hmb q hq y hy)
    exact ⟨i, j, x, y, .inl hi, by rw [List.getElem?_eq_getElem hi, e1], by rw [List.getElem?_eq_getElem hj, e2], hl, (in_mem hg hp).2 hx, (in_mem hg hq).2 hy, by simpa using hne⟩
/-- What l7Above leaves: a new row with the table of phases. -/
def AbAns (e : Nat → Nat → Bool) (n : Nat) (w : World) (en : Ending) (w' : World) : Prop :=
  ∃ (g : Nat) (T : List Nat), en = .returned (.slice (some ⟨g, 0, none⟩) n n) ∧ w.heap.size ≤ g ∧ GivesI.HoldsI w' (some ⟨g, 0, none⟩) n (intsN T) ∧ Tbl n T (fun i j => e i j = true) ∧ Below w.heap.size w w'
set_option maxRecDepth 100000 in
set_option maxHeartbeats 16000000 in
theorem above_any (a1 a2 : Option Addr) (n1 c1 n2 c2 : Nat) (l m : Ps) (p : Option Addr) (n c : Nat) (L : List Pt) (w : World) (hgr : grp l m L = true) (h1 : Holds w a1 n1 l) (h2 : Holds w a2 n2 m) (h : HoldsP w p n L) (hS : Sm L 1048576) :
    Calls Try.prog 51 #[.agg #[.slice a1 n1 c1, .slice a2 n2 c2], .slice p n c] w (AbAns (ePh m L) n w) := by
  have hgd := grp_good hgr
  have hn6 : n ≤ 6 := by
    have hg2 := hgr
    unfold grp at hg2
    rw [Bool.and_eq_true] at hg2
    rw [← h.1]
    exact (gp_iff.1 hg2.2).1
  have hn1 : n1 ≤ 10 := by rw [← h1.1]; exact (Table.good_few hgd).1
  have hmk := fun W => run_make1 W n (by omega)
  have hb := below_alloc w (.cells #[.slice a1 n1 c1, .slice a2 n2 c2] 33)
  have hf := box_first w (.slice a1 n1 c1) (.slice a2 n2 c2) 33
  have hf2 := box_second w (.slice a1 n1 c1) (.slice a2 n2 c2) 33
  have hsz : w.heap.size < (w.alloc (.cells #[.slice a1 n1 c1, .slice a2 n2 c2] 33)).heap.size := by simp
  have H1 := Lib.hid (h1.below hb)
  have H2 := Lib.hid (h2.below hb)
  have HH := Lib.hid (h.below hb)
  have HL := Lib.hid h.1
  have HL1 := Lib.hid h1.1
  have HKL : Hid ((keys l).length = n1) := by unfold Hid keys; rw [List.length_map]; exact h1.1
  have HS := Lib.hid hS
  have HB := Lib.hid hb
  have HGR := Lib.hid hgr
  have HGD := Lib.hid hgd
  clear h h1 h2 hS hb hgr hgd
  go_enter Try.func51, Try.ntmps51
  go_wp2_with fail
  generalize w.alloc (.cells #[.slice a1 n1 c1, .slice a2 n2 c2] 33) = W at *
  refine (later_any a1 a2 n1 c1 n2 c2 l m W HGD.out H1.out H2.out).mono ?_
  rintro e w3 ⟨gt, T, rfl, hge, hT, TT, b3⟩
  have HTT := Lib.hid TT
  have HM3 : Hid (∀ wr, Below w3.heap.size w3 wr → ((Holds wr a1 n1 l ∧ HoldsP wr p n L) ∧ HoldsI wr (some ⟨gt, 0, none⟩) n1 (intsN T)) ∧ wr.cell? ⟨w.heap.size, 0, none⟩ = some (.slice a1 n1 c1) ∧ wr.cell? ⟨w.heap.size, 1, none⟩ = some (.slice a2 n2 c2)) := fun wr hwr =>
    ⟨⟨⟨(H1.out.below b3).below hwr, (HH.out.below b3).below hwr⟩, hT.below hwr⟩, (hwr.cell (p := ⟨w.heap.size, 0, none⟩) (Nat.lt_of_lt_of_le hsz b3.size)).trans ((b3.cell (p := ⟨w.heap.size, 0, none⟩) hsz).trans hf), (hwr.cell (p := ⟨w.heap.size, 1, none⟩) (Nat.lt_of_lt_of_le hsz b3.size)).trans ((b3.cell (p := ⟨w.heap.size, 1, none⟩) hsz).trans hf2)⟩
  have HB3 := Lib.hid (HB.out.trans (b3.mono HB.out.size))
  have hR0 := Row.start w3.heap.size w3 w3 n (Nat.le_refl _) (Below.refl _ _)
  clear hT TT b3 hf hf2 hge
  go_wp2_with fail
  clear hmk
  generalize w3.alloc (.cells (cellsN (List.replicate n 0)).toArray 3) = W4 at *
  obtain ⟨g, hg⟩ : ∃ g, w3.heap.size = g := ⟨_, rfl⟩
  have HGG := Lib.hid hg
  rw [hg] at hR0
  rw [hg]
  have HR0 : Hid (Row g w3 W4 g n (List.replicate n 0)) := hR0
  clear hg hR0
  go_loopw [7] (fun s7 wr => ∃ (i : Nat) (A : List Nat), i ≤ n1 ∧ s7 = .int .i64 i ∧ Hid (Row g w3 wr g n A) ∧ Hid (Tbl n A (Rel m L (keys l) i 0))) (fun s7 _ => n1 - (intOf s7).toNat)
  case atStart => exact ⟨0, _, Nat.zero_le _, rfl, HR0, (tbl_zero n).imp (fun i j _ _ => ⟨False.elim, fun h => rel_zero _ _ _ _ _ h⟩)⟩
  case round =>
    clear HR0
    rename World => wi
    obtain ⟨i, A0, hi, rfl, HR, HT⟩ := hrel
    by_cases hit : i < n1
    · have hii : (i : Int) < (n1 : Int) := by omega
      have hi0 : (0 : Int) ≤ (i : Int) := by omega
      go_wp2_with fail
      go_loopw [8] (fun s8 wr => ∃ (j : Nat) (A : List Nat), j ≤ n1 ∧ s8 = .int .i64 j ∧ Hid (Row g w3 wr g n A) ∧ Hid (Tbl n A (Rel m L (keys l) i j))) (fun s8 _ => n1 - (intOf s8).toNat)
      case atStart => exact ⟨0, A0, Nat.zero_le _, rfl, HR, HT⟩
      case round =>
        clear HR HT
        rename World => wj
        obtain ⟨j, A, hj, rfl, HR, HT⟩ := hrel
        by_cases hjt : j < n1
        · have hji : (j : Int) < (n1 : Int) := by omega
          have hj0 : (0 : Int) ≤ (j : Int) := by omega
          have hbel : Below w3.heap.size w3 wj := by rw [HGG.out]; exact HR.out.2.2.2
          obtain ⟨⟨⟨z1, zP⟩, z3⟩, r1, r2⟩ := HM3.out wj hbel
          obtain ⟨b5, o5, x, yx, hb5, hxl, f4, -⟩ := z1.at i hit
          obtain ⟨b4, o4, y, yy, hb4, hyl, f3, -⟩ := z1.at j hjt
          rw [hb4] at hb5
          injection hb5 with hb5
          injection hb5 with hb51 hb52
          subst hb51 hb52 hb4
          obtain ⟨bb, oo, zz, hp, hzz, f6⟩ := z3.at i hit
          obtain ⟨t, ht, rfl⟩ := row_at hzz
          injection hp with hp
          injection hp with hp1 hp2
          subst hp1 hp2
          rw [Nat.zero_add] at f6
          have ht10 := bd hn1 (HTT.out.bd i t ht)
          have hbit : t.testBit j = later m x y := tbit HGD.out HL1.out HTT.out (Consist.num_at HGD.out hxl) (Consist.num_at HGD.out hyl) ht
          have hl4 := l4Bit_any t j ht10 (by omega)
          rw [hbit] at hl4
          have HNX := Lib.hid (rel_next (m := m) (L := L) (key_at hxl) (key_at hyl))
          have hPr := phs_rng L x
          have hQr := phs_rng L y
          rw [HL.out] at hPr hQr
          have k1 := cell_regrown r1
          have k2 := cell_regrown r2
          have k3 := cell_regrown f3
          have k4 := cell_regrown f4
          have F6 := Lib.hid f6
          have L4 := Lib.hid hl4
          obtain ⟨P, hP⟩ : ∃ P, phs L x = P := ⟨_, rfl⟩
          obtain ⟨Q, hQ⟩ : ∃ Q, phs L y = Q := ⟨_, rfl⟩
          have HPQ := Lib.hid (And.intro hP hQ)
          rw [hP] at hPr
          rw [hQ] at hQr
          have cX : ∀ d0 os, Calls Try.prog 42 #[.slice p n c, .int .i64 x] (Sort.grow (redrawn wj d0) os) fun e w'' => e = .returned (.int .i64 P) ∧ ∃ p : Regrown, w'' = Sort.grow (redrawn wj p.d) p.os := fun d0 os => Calls.regrown_of (by rw [← hP]; exact (l7Phase_any p n c L x (by omega) HS.out _ (zP.below (below_regrown wj d0 os))).mono fun e w'' ⟨h1, h2⟩ => ⟨h1, by rw [h2]; exact Below.refl _ _⟩)
          have cY : ∀ d0 os, Calls Try.prog 42 #[.slice p n c, .int .i64 y] (Sort.grow (redrawn wj d0) os) fun e w'' => e = .returned (.int .i64 Q) ∧ ∃ p : Regrown, w'' = Sort.grow (redrawn wj p.d) p.os := fun d0 os => Calls.regrown_of (by rw [← hQ]; exact (l7Phase_any p n c L y (by omega) HS.out _ (zP.below (below_regrown wj d0 os))).mono fun e w'' ⟨h1, h2⟩ => ⟨h1, by rw [h2]; exact Below.refl _ _⟩)
          have HBL := Lib.hid hbel
          clear hxl hyl hzz ht hbit hl4 z1 z3 hP hQ hbel f6
          go_wp2_with fail
          refine wp_region_quiet_below (by kernel_rfl) (by kernel_rfl) ?_
          repeat (go_big_quiet_step (first | (go_at_call_of 42 x; exact cX _ _) | (go_at_call_of 42 y; exact cY _ _)))
          refine wpQuiet_nil ?_
          intro _ hw'
          obtain ⟨⟨dq, osq⟩, hw''⟩ := hw'
          subst hw''
          have hbq := below_regrown wj dq osq
          have f6 := (hbq.cell (World.block_lt_of_cell? _ _ F6.out)).trans F6.out
          have HR2 := Lib.hid (HR.out.quiet (by rw [← HGG.out]; exact HBL.out.size) hbq)
          clear k1 k2 k3 k4 cX cY r1 r2 f3 f4 zP HR hbq
          generalize Sort.grow (redrawn wj dq) osq = W5 at *
          have hsk : ∀ (hno : ∀ r s, ¬ Hit m L x y r s), Tbl n A (Rel m L (keys l) i (j + 1)) := fun hno => HT.out.imp (fun r s _ _ => ((HNX.out r s).trans ⟨fun h => h.resolve_right (hno r s), .inl⟩).symm)
          have hL4 := L4.out
          cases hl : later m x y with
          | false =>
            have HT2 := Lib.hid (hsk (fun r s h => by have := h.1; rw [hl] at this; cases this))
            simp only [hl] at hL4
            have CL := Lib.hid hL4
            clear hL4 hsk hl HT HNX F6 L4
            go_wp2_with fail
            refine (CL.out _).mono ?_
            rintro e w' ⟨rfl, hw⟩
            have hw2 := hw.symm
            subst hw2
            clear hw CL
            go_wp2_with fail
            exact ⟨⟨j + 1, A, by omega, by go_num, HR2, HT2⟩, by simp [intOf]; omega⟩
          | true =>
            simp only [hl] at hL4
            have CL := Lib.hid hL4
            by_cases hP0 : P < 0
            · have HT2 := Lib.hid (hsk (fun r s h => by have := h.2.1; rw [HPQ.out.1] at this; omega))
              have hPn : ¬ (0 : Int) ≤ P := by omega
              clear hL4 hsk hl HT HNX F6 L4
              go_wp2_with fail
              refine (CL.out _).mono ?_
              rintro e w' ⟨rfl, hw⟩
              have hw2 := hw.symm
              subst hw2
              clear hw CL
              go_wp2_with fail
              exact ⟨⟨j + 1, A, by omega, by go_num, HR2, HT2⟩, by simp [intOf]; omega⟩
            · have hPn : (0 : Int) ≤ P := by omega
              by_cases hQ0 : Q < 0
              · have HT2 := Lib.hid (hsk (fun r s h => by have := h.2.2.1; rw [HPQ.out.2] at this; omega))
                have hQn : ¬ (0 : Int) ≤ Q := by omega
                clear hL4 hsk hl HT HNX F6 L4
                go_wp2_with fail
                refine (CL.out _).mono ?_
                rintro e w' ⟨rfl, hw⟩
                have hw2 := hw.symm
                subst hw2
                clear hw CL
                go_wp2_with fail
                exact ⟨⟨j + 1, A, by omega, by go_num, HR2, HT2⟩, by simp [intOf]; omega⟩
              · have hQn : (0 : Int) ≤ Q := by omega
                by_cases hPQ : P = Q
                · have HT2 := Lib.hid (hsk (fun r s h => by have h1 := h.2.1; have h2 := h.2.2.1; have h3 := h.2.2.2; rw [HPQ.out.1] at h1; rw [HPQ.out.2] at h2; omega))
                  subst hPQ
                  clear hL4 hsk hl HT HNX F6 L4
                  go_wp2_with fail
                  refine (CL.out _).mono ?_
                  rintro e w' ⟨rfl, hw⟩
                  have hw2 := hw.symm
                  subst hw2
                  clear hw CL
                  go_wp2_with fail
                  exact ⟨⟨j + 1, A, by omega, by go_num, HR2, HT2⟩, by simp [intOf]; omega⟩
                · obtain ⟨a, rfl⟩ : ∃ a : Nat, P = (a : Int) := ⟨P.toNat, by omega⟩
                  obtain ⟨b, rfl⟩ : ∃ b : Nat, Q = (b : Int) := ⟨Q.toNat, by omega⟩
                  have han : a < n := by omega
                  have hbn : b < n := by omega
                  have hab : ((a : Int) == (b : Int)) = false := by rw [beq_eq_false_iff_ne]; exact hPQ
                  obtain ⟨z, hz⟩ := HR2.out.at han
                  have hz10 := bd (by omega : n ≤ 10) (HT.out.bd a z hz)
                  have hp10 := pow_lt hbn (by omega : n ≤ 10)
                  have f1 := HR2.out.cell hz
                  have f2 := HR2.out.frozen a
                  have hor := shl_or z b hz10 hp10
                  have HOR := Lib.hid hor
                  have HT2 : Hid (Tbl n (A.set a (z ||| 2 ^ b)) (Rel m L (keys l) i (j + 1))) := (HT.out.set hz (Nat.pow_lt_pow_right (by decide) hbn)).imp (fun r s _ _ => by
                    rw [HNX.out r s]
                    refine or_congr Iff.rfl ?_
                    unfold Hit
                    rw [hl, HPQ.out.1, HPQ.out.2, pow_bit]
                    constructor
                    · rintro ⟨h1, h2⟩
                      subst h1 h2
                      exact ⟨rfl, rfl, rfl, fun e => hPQ (by rw [e])⟩
                    · rintro ⟨_, h1, h2, _⟩
                      exact ⟨by omega, by omega⟩)
                  have HR3 := Lib.hid (HR2.out.set a (z ||| 2 ^ b))
                  have ha0 : (0 : Int) ≤ (a : Int) := by omega
                  have hb0 : (0 : Int) ≤ (b : Int) := by omega
                  have hai : (a : Int) < (n : Int) := by omega
                  clear hL4 hsk hl HT HNX F6 L4 hor hz HR2
                  go_wp2_with fail
                  refine (CL.out _).mono ?_
                  rintro e w' ⟨rfl, hw⟩
                  have hw2 := hw.symm
                  subst hw2
                  clear hw CL
                  go_wp2_with fail
                  rw [HOR.out]
                  exact ⟨⟨j + 1, _, by omega, by go_num, HR3, HT2⟩, by simp [intOf]; omega⟩
        · obtain rfl : j = n1 := by omega
          have hji : ¬ (j : Int) < (j : Int) := by omega
          have HT2 : Hid (Tbl n A (Rel m L (keys l) (i + 1) 0)) := HT.out.imp (fun r s _ _ => by rw [← HKL.out]; exact rel_row r s)
          go_wp2_with fail
          exact ⟨⟨i + 1, A, by omega, by go_num, HR, HT2⟩, by simp [intOf]; omega⟩
    · obtain rfl : i = n1 := by omega
      have hii : ¬ (i : Int) < (i : Int) := by omega
      have HT2 : Hid (Tbl n A0 (fun r s => ePh m L r s = true)) := HT.out.imp (fun r s hr hs => by rw [← HKL.out]; exact rel_end HGR.out (by rw [HL.out]; exact hr) (by rw [HL.out]; exact hs))
      have HBE := Lib.hid (HB3.out.trans ((show Below w3.heap.size w3 wi by rw [HGG.out]; exact HR.out.2.2.2).mono HB3.out.size))
      have hgw : w.heap.size ≤ g := by rw [← HGG.out]; exact HB3.out.size
      go_wp2_with fail
      go_ret
      exact ⟨g, A0, rfl, hgw, HR.out.holds, HT2.out, HBE.out⟩
end Go.Proofs.Ytbdplgcdnpcnfaa.OpA
/- The model's search for the next context, with bits: mathematics. -/
namespace Go.Proofs.Ytbdplgcdnpcnfaa.OrdN
open Pairs Rec Chain Find2 GoodM OrdM
noncomputable def dn (l : Ps) (d : Nat) (x : Int) : Bool := match isAt l x with | some i => d.testBit i | none => false
theorem dn_at {l : Ps} {d : Nat} {x : Int} {i : Nat} (h : isAt l x = some i) : dn l d x = d.testBit i := by unfold dn; rw [h]
theorem dn_zero (l : Ps) : dn l 0 = fun _ => false := by
  funext x
  unfold dn
  split <;> simp
theorem dn_set {l m : Ps} {d : Nat} {x y : Int} {i : Nat} (hg : good l m = true) (hx : l[i]? = some (x, y)) : dn l (d ||| 2 ^ i) = fun z => dn l d z || z == x := by
  have hxi := Consist.num_at hg hx
  funext z
  unfold dn
  cases hz : isAt l z with
  | none =>
    have : z ≠ x := fun e => by rw [e, hxi] at hz; cases hz
    simp [this]
  | some j =>
    simp only
    rw [Nat.testBit_or, Nat.testBit_two_pow]
    by_cases e : i = j
    · subst e
      have : z = x := isAt_inj hz hxi
      simp [this]
    · have : z ≠ x := fun e2 => by rw [e2, hxi] at hz; exact e (Option.some.inj hz)
      simp [e, this]
theorem keys_at {l : Ps} {i : Nat} {x y : Int} (hx : l[i]? = some (x, y)) : (keys l)[i]? = some x := by unfold keys; rw [List.getElem?_map, hx]; rfl
theorem keys_len (l : Ps) : (keys l).length = l.length := by unfold keys; simp
theorem find_at {q : Int → Bool} {K : List Int} {k : Nat} {x : Int} (hp : ∀ j y, j < k → K[j]? = some y → q y = false) (hx : K[k]? = some x) (hq : q x = true) : K.find? q = some x := by
  rw [List.find?_eq_some_iff_append]
  obtain ⟨hk, e⟩ := List.getElem?_eq_some_iff.1 hx
  refine ⟨hq, K.take k, K.drop (k + 1), by rw [← e, List.getElem_cons_drop, List.take_append_drop], fun a ha => ?_⟩
  obtain ⟨j, hj, rfl⟩ := List.getElem_of_mem ha
  have hj' : j < k := by have := hj; rw [List.length_take] at this; omega
  rw [List.getElem_take, hp j _ hj' (List.getElem?_eq_getElem _)]
  rfl
theorem find_no {q : Int → Bool} {K : List Int} (hp : ∀ j y, j < K.length → K[j]? = some y → q y = false) : K.find? q = none := by
  rw [List.find?_eq_none]
  intro x hx
  obtain ⟨j, hj, rfl⟩ := List.getElem_of_mem hx
  rw [hp j _ hj (List.getElem?_eq_getElem hj)]
  simp
def rdk (rel : Int → Int → Bool) (K : List Int) (D : Int → Bool) (n : Int) (k : Nat) : Bool := !D n && (K.take k).all (fun x => !rel x n || D x)
theorem rdk_next {rel : Int → Int → Bool} {K : List Int} {D : Int → Bool} {n z : Int} {k : Nat} (hz : K[k]? = some z) : rdk rel K D n (k + 1) = (rdk rel K D n k && (!rel z n || D z)) := by
  unfold rdk
  rw [List.take_add_one, hz, Option.toList_some, List.all_append]
  simp only [List.all_cons, List.all_nil, Bool.and_true, Bool.and_assoc]
theorem rdk_zero (rel : Int → Int → Bool) (K : List Int) (D : Int → Bool) (n : Int) : rdk rel K D n 0 = !D n := by unfold rdk; simp
theorem rdk_end (rel : Int → Int → Bool) (K : List Int) (D : Int → Bool) (n : Int) : rdk rel K D n K.length = rdy rel K D n := by unfold rdk rdy; rw [List.take_length]
def numsO (l : Ps) (O : List Nat) : List Int := O.map (fun i => (keys l)[i]?.getD 0)
theorem nums_snoc {l : Ps} {O : List Nat} {i : Nat} {x y : Int} (hx : l[i]? = some (x, y)) : numsO l (O ++ [i]) = numsO l O ++ [x] := by
  unfold numsO
  rw [List.map_append]
  simp [keys_at hx]
theorem nums_at {l : Ps} {O : List Nat} {k i : Nat} {x y : Int} (hi : O[k]? = some i) (hx : l[i]? = some (x, y)) : numsO l (O.take (k + 1)) = numsO l (O.take k) ++ [x] := by
  rw [List.take_add_one, hi, Option.toList_some, nums_snoc hx]
end Go.Proofs.Ytbdplgcdnpcnfaa.OrdN
