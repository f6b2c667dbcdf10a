/- The program's UnrelatedPairs. -/
import Derived.Test.YtaikphcemldikabOrder
import Derived.Test.YtaikphcemldikabIdx
import Derived.Test.YtaikphcemldikabGivesA
import Derived.Test.YtaikphcemldikabTable
import Derived.Maps.AppendAt
import Derived.Deep.AppendLies
import Derived.Laws.EntriesVeiled
namespace Go.Proofs.Ytaikphcemldikab.Unrel
open Go.RowKit Pairs Rec Chain Find2 GoodM Keep Lows Order Idx
theorem cell_two_new (w : World) (x y : Value) (t : TypeId) : ∀ j u, [x, y][j]? = some u → (w.alloc (.cells #[x, y] t)).cell? ((⟨w.heap.size, 0, none⟩ : Addr).add j) = some u := by
  intro j u hj
  match j, hj with
  | 0, hj =>
    simp at hj
    subst hj
    exact box_first w x y t
  | 1, hj =>
    simp at hj
    subst hj
    exact box_second w x y t
theorem flat_append (l1 l2 : List (Int × Int)) : flat (l1 ++ l2) = flat l1 ++ flat l2 := by unfold flat; rw [List.flatMap_append]
theorem flat_one (x y : Int) : flat [(x, y)] = [.int .i64 x, .int .i64 y] := rfl
noncomputable def unr (m : Ps) (x y : Int) : Bool := !later m x y && !later m y x
noncomputable def rowk (l m : Ps) (i k : Nat) : Ps := match l[i]? with | some p => (((l.take k).drop (i + 1)).filter (fun z => unr m p.1 z.1)).map (fun z => (p.1, z.1)) | none => []
noncomputable def prs (l m : Ps) (i : Nat) : Ps := (List.range i).flatMap (fun i => rowk l m i l.length)
noncomputable def pairsP (l m : Ps) : Option Ps := if good l m = true then some (prs l m l.length) else none
theorem pairs_no {l m : Ps} (h : good l m = false) : pairsP l m = none := by unfold pairsP; rw [if_neg (by rw [h]; simp)]
theorem pairs_yes {l m : Ps} (h : good l m = true) : pairsP l m = some (prs l m l.length) := by unfold pairsP; rw [if_pos h]
theorem row_start (l m : Ps) (i : Nat) : rowk l m i (i + 1) = [] := by
  unfold rowk
  split
  · rw [List.drop_eq_nil_of_le (by rw [List.length_take]; omega)]
    rfl
  · rfl
theorem row_next {l m : Ps} {i k : Nat} {x y u v : Int} (hi : l[i]? = some (x, y)) (hik : i + 1 ≤ k) (hk : l[k]? = some (u, v)) : rowk l m i (k + 1) = rowk l m i k ++ (if unr m x u = true then [(x, u)] else []) := by
  have hkl := (List.getElem?_eq_some_iff.1 hk).1
  unfold rowk
  rw [hi]
  simp only
  rw [List.take_add_one, hk, List.drop_append_of_le_length (by rw [List.length_take]; omega), List.filter_append, List.map_append]
  cases h : unr m x u <;> simp [h]
theorem row_len (l m : Ps) (i k : Nat) : (rowk l m i k).length ≤ l.length := by
  unfold rowk
  split
  · rw [List.length_map]
    refine Nat.le_trans (List.length_filter_le _ _) ?_
    rw [List.length_drop, List.length_take]
    omega
  · simp
theorem prs_next (l m : Ps) (i : Nat) : prs l m (i + 1) = prs l m i ++ rowk l m i l.length := by
  unfold prs
  rw [List.range_succ, List.flatMap_append]
  simp
theorem prs_len (l m : Ps) : ∀ i, (prs l m i).length ≤ i * l.length
  | 0 => by simp [prs]
  | i + 1 => by
    rw [prs_next, List.length_append]
    have h1 := prs_len l m i
    have h2 := row_len l m i l.length
    rw [Nat.add_mul]
    omega
theorem all_len {l m : Ps} (hl : l.length ≤ 10) {i : Nat} (hi : i ≤ l.length) (k : Nat) : (prs l m i ++ rowk l m i k).length ≤ 110 := by
  rw [List.length_append]
  have h1 := prs_len l m i
  have h2 := row_len l m i k
  have h3 : i * l.length ≤ 10 * 10 := Nat.mul_le_mul (by omega) hl
  omega
theorem infoA : (Try.prog.info? 75).map (fun i => (i.zero, i.size, i.bytes)) = some (some (.agg #[.int .i64 0, .int .i64 0]), 2, 16) := by kernel_rfl
theorem empty_own (w : World) : (w.alloc (.cells #[] 75)).ownsRow w.heap.size 75 2 (.slice (some ⟨w.heap.size, 0, none⟩) 0 0) 0 [] :=
  World.ownsRow_made w #[] 0 (Nat.le_refl _) (by unfold maxLen; omega) (by simp)
def Up (B : Nat) (w wr : World) (v : Value) (L : Ps) : Prop := wr.ownsRow B 75 2 v L.length (flat L) ∧ Below B w wr
theorem own_form {B n : Nat} {w : World} {v : Value} {xs : List Value} (h : w.ownsRow B 75 2 v n xs) : ∃ p d, v = .slice p n d := by
  rcases h.2 with ⟨hv, hn⟩ | ⟨g, cap, cur, hv, _⟩
  · subst hn
    exact ⟨none, 0, hv⟩
  · exact ⟨_, cap, hv⟩
theorem num_keys {l : Ps} {x y : Int} {i : Nat} (hx : l[i]? = some (x, y)) : x ∈ keys l := List.mem_map.2 ⟨(x, y), List.mem_of_getElem? hx, rfl⟩
set_option maxRecDepth 100000 in
set_option maxHeartbeats 8000000 in
theorem impl_any : GivesA.Gives 20 pairsP := by
  intro a1 a2 n1 n2 l m w hz1 hz2 h1 h2
  obtain ⟨i0, hi, hy0, hy1, hy2⟩ := Rec.info_parts infoA
  have hb := below_alloc w (.cells #[.slice a1 n1 n1, .slice a2 n2 n2] 33)
  have hf := box_first w (.slice a1 n1 n1) (.slice a2 n2 n2) 33
  have hf2 := box_second w (.slice a1 n1 n1) (.slice a2 n2 n2) 33
  have H1 := Lib.hid (h1.below hb)
  have H2 := Lib.hid (h2.below hb)
  have HL1 := Lib.hid h1.1
  have hsz : w.heap.size < (w.alloc (.cells #[.slice a1 n1 n1, .slice a2 n2 n2] 33)).heap.size := by simp
  clear h1 h2
  go_enter Try.func20, Try.ntmps20
  go_wp2_with fail
  generalize w.alloc (.cells #[.slice a1 n1 n1, .slice a2 n2 n2] 33) = W at *
  refine (Avr.impl_any a1 a2 n1 n1 n2 n2 l m W hz1 hz2 H1.out H2.out).mono ?_
  rintro e w1 ⟨rfl, b1⟩
  have r1 := (b1.cell (p := ⟨w.heap.size, 0, none⟩) hsz).trans hf
  have r2 := (b1.cell (p := ⟨w.heap.size, 1, none⟩) hsz).trans hf2
  have hsz1 := Nat.lt_of_lt_of_le hsz b1.size
  have HB1 := Lib.hid (hb.trans (b1.mono hb.size))
  have K1 := Lib.hid (H1.out.below b1)
  have K2 := Lib.hid (H2.out.below b1)
  clear hf hf2 b1 hb
  cases hg : good l m with
  | false =>
    have HE := Lib.hid (pairs_no hg)
    clear hg
    go_wp2_with fail
    go_ret2
    rw [HE.out]
    exact ⟨_, _, _, rfl, ownsRow_base (empty_own w1) HB1.out.size, by omega, HB1.out.trans ((below_alloc _ _).mono HB1.out.size)⟩
  | true =>
    have HE := Lib.hid (pairs_yes hg)
    have HG := Lib.hid hg
    have hn1 : n1 ≤ 10 := by rw [← HL1.out]; exact (Table.good_few hg).1
    clear hg
    go_wp2_with fail
    refine (orderOf_any a1 a2 n1 n1 n2 n2 l m w1 HG.out K1.out K2.out).mono ?_
    rintro e w2 ⟨bx, rfl, ho, b2⟩
    have ha := below_alloc w2 (.cells #[] 75)
    have b23 := b2.trans (ha.mono b2.size)
    have HO := Lib.hid ho
    have HW2 := Lib.hid (HB1.out.trans (b2.mono HB1.out.size))
    have K12 := Lib.hid (K1.out.below b2)
    have Q2 := Lib.hid ((b2.cell (p := ⟨w.heap.size, 0, none⟩) hsz1).trans r1)
    have s2 := Nat.lt_of_lt_of_le hsz1 b2.size
    have HB3 := Lib.hid (HB1.out.trans (b23.mono HB1.out.size))
    have q1 := (b23.cell (p := ⟨w.heap.size, 0, none⟩) hsz1).trans r1
    have s3 : w.heap.size < (w2.alloc (.cells #[] 75)).heap.size := Nat.lt_of_lt_of_le hsz1 b23.size
    have hB : w.heap.size ≤ w2.heap.size := by have := HB1.out.size; have := b2.size; omega
    have h23 : w2.heap.size ≤ (w2.alloc (.cells #[] 75)).heap.size := ha.size
    have U0 : Hid (Up w2.heap.size (w2.alloc (.cells #[] 75)) (w2.alloc (.cells #[] 75)) (.slice (some ⟨w2.heap.size, 0, none⟩) 0 0) (prs l m 0)) := ⟨empty_own w2, Below.refl _ _⟩
    have HM : Hid (∀ wr, Below w2.heap.size (w2.alloc (.cells #[] 75)) wr → Below w2.heap.size w2 wr) := fun wr h => ha.trans h
    clear ho ha b2 b23 r1 r2
    go_wp2_with fail
    clear q1
    generalize w2.alloc (.cells #[] 75) = W3 at *
    have hsw : ∀ wr, Below w2.heap.size W3 wr → w2.heap.size ≤ wr.heap.size := fun wr h => Nat.le_trans h23 h.size
    have HSW := Lib.hid hsw
    clear hsw
    go_loopw [5, 20] (fun s5 s20 wr => ∃ i : Nat, i ≤ n1 ∧ s20 = .int .i64 i ∧ Hid (Up w2.heap.size W3 wr s5 (prs l m i))) (fun _ s20 _ => n1 - (intOf s20).toNat)
    case atStart => exact ⟨0, Nat.zero_le _, rfl, U0⟩
    case round =>
      obtain ⟨i, hile, rfl, HU⟩ := hrel
      clear U0
      by_cases hlt : i < n1
      · have hin : (i : Int) < (n1 : Int) := by omega
        have hi0 : (0 : Int) ≤ (i : Int) := by omega
        have HBR := Lib.hid (HM.out _ HU.out.2)
        obtain ⟨b, off, x, y, rfl, hx, e1, e2⟩ := (K12.out.below HBR.out).at i hlt
        have HX := Lib.hid hx
        have hbz := below_alloc wr (.cells #[.int .i64 x, .int .i64 y] 73)
        have u1 := box_first wr (.int .i64 x) (.int .i64 y) 73
        have hzs : wr.heap.size < (wr.alloc (.cells #[.int .i64 x, .int .i64 y] 73)).heap.size := by simp
        have c1 := (hbz.cell (p := ⟨w.heap.size, 0, none⟩) (Nat.lt_of_lt_of_le s2 HBR.out.size)).trans ((HBR.out.cell (p := ⟨w.heap.size, 0, none⟩) s2).trans Q2.out)
        have hws := HSW.out wr HU.out.2
        have HU7 : Hid (Up w2.heap.size W3 (wr.alloc (.cells #[.int .i64 x, .int .i64 y] 73)) u5 (prs l m i)) := ⟨ownsRow_below HU.out.1 hbz, HU.out.2.trans (hbz.mono hws)⟩
        have hi1 : (i : Int) + 1 ≤ (n1 : Int) := by omega
        have hi2 : (0 : Int) ≤ (i : Int) + 1 := by omega
        clear hx hbz
        have HNB : Hid (u5.ownBlock ≠ some wr.heap.size) := fun e => by have := (HU.out.1.lt _ e).2; omega
        have HBZ := Lib.hid (HM.out _ HU7.out.2)
        have hZs := HU7.out.2.size
        clear HU
        by_cases hl : i + 1 = n1
        · subst hl
          have HP : Hid (prs l m (i + 1) = prs l m i) := by unfold Hid; rw [prs_next, HL1.out, row_start, List.append_nil]
          go_wp2_with fail
          generalize hZ : wr.alloc (.cells #[.int .i64 x, .int .i64 y] 73) = Z at *
          generalize hu5 : u5 = v5 at *
          go_loopw [5, 31] (fun s5 s31 wx => s5 = v5 ∧ s31 = .int .i64 0 ∧ wx = Z) (fun _ _ _ => 0)
          case atStart => exact ⟨by first | rfl | exact hu5, rfl, by first | rfl | exact hZ⟩
          case round =>
            obtain ⟨rfl, rfl, rfl⟩ := hrel
            go_wp2_with fail
            exact ⟨⟨i + 1, by omega, by go_num, by unfold Hid; rw [HP.out]; exact HU7.out⟩, by first | (simp [intOf]; done) | (simp [intOf]; omega)⟩
        · have hl2 : ¬ (n1 - (i + 1) = 0) := by omega
          go_wp2_with fail
          generalize wr.alloc (.cells #[.int .i64 x, .int .i64 y] 73) = Z at *
          generalize wr.heap.size = cb at *
          have HS0 : Hid (Up w2.heap.size W3 Z u5 (prs l m i ++ rowk l m i (i + 1 + 0))) := by unfold Hid; rw [Nat.add_zero, row_start, List.append_nil]; try exact HU7.out
          have U1 := Lib.hid u1
          clear e1 e2 u1 c1
          go_loopw [5, 31] (fun s5 s31 wx => ∃ j : Nat, j ≤ n1 - (i + 1) ∧ s31 = .int .i64 j ∧ Hid (Up w2.heap.size W3 wx s5 (prs l m i ++ rowk l m i (i + 1 + j))) ∧ Hid (s5.ownBlock ≠ some cb) ∧ wx.cell? ⟨cb, 0, none⟩ = some (.int .i64 x) ∧ cb < wx.heap.size) (fun _ s31 _ => n1 - (i + 1) - (intOf s31).toNat)
          case atStart => exact ⟨0, Nat.zero_le _, rfl, HS0, HNB, U1.out, hzs⟩
          case round =>
            obtain ⟨j, hj, rfl, HV, HN, cx, hcs⟩ := hrel
            clear HS0 HU7 HNB U1 hzs
            by_cases hlj : j < n1 - (i + 1)
            · have hjn : (j : Int) < ((n1 - (i + 1) : Nat) : Int) := by omega
              have hj0 : (0 : Int) ≤ (j : Int) := by omega
              have HBX := Lib.hid (HM.out _ HV.out.2)
              obtain ⟨b', off', u, v, hp, hx2, e1, e2⟩ := (K12.out.below HBX.out).at (i + 1 + j) (by omega)
              injection hp with hp
              injection hp with hp1 hp2
              subst hp1 hp2
              rw [show off + (i + 1 + j) * 2 = off + (i + 1) * 2 + j * 2 by omega] at e1 e2
              have HR := Lib.hid (row_next (m := m) HX.out (show i + 1 ≤ i + 1 + j by omega) hx2)
              have HXU := Lib.hid (And.intro (num_keys HX.out) (num_keys hx2))
              have HRG := Lib.hid (And.intro (nums HG.out HX.out) (nums HG.out hx2))
              have hlen := all_len (l := l) (m := m) (by rw [HL1.out]; exact hn1) (show i ≤ l.length by rw [HL1.out]; exact hile) (i + 1 + j)
              have hb2 := below_alloc wr (.cells #[.int .i64 u, .int .i64 v] 73)
              have v1 := box_first wr (.int .i64 u) (.int .i64 v) 73
              have hz2 : wr.heap.size < (wr.alloc (.cells #[.int .i64 u, .int .i64 v] 73)).heap.size := by simp
              have cx2 := (hb2.cell (p := ⟨cb, 0, none⟩) hcs).trans cx
              have hws := HSW.out wr HV.out.2
              have HV7 : Hid (Up w2.heap.size W3 (wr.alloc (.cells #[.int .i64 u, .int .i64 v] 73)) u5 (prs l m i ++ rowk l m i (i + 1 + j))) := ⟨ownsRow_below HV.out.1 hb2, HV.out.2.trans (hb2.mono hws)⟩
              have HO7 := Lib.hid (HO.out.below ((HM.out _ HV7.out.2).mono (Nat.le_refl _)))
              have hcs2 : cb < (wr.alloc (.cells #[.int .i64 u, .int .i64 v] 73)).heap.size := by omega
              clear hx2 hb2 cx HV HBX
              go_wp2_with fail
              generalize wr.alloc (.cells #[.int .i64 u, .int .i64 v] 73) = Z2 at *
              generalize wr.heap.size = db at *
              clear e1 e2
              refine (isLater_any bx l m x u Z2 HO7.out HXU.out.1 (by have := HRG.out; omega) (by have := HRG.out; omega)).mono ?_
              rintro e w9 ⟨rfl, hw9⟩
              have hw9' := hw9.symm
              subst hw9'
              clear hw9
              cases h1 : later m x u with
              | true =>
                have HF : Hid (rowk l m i (i + 1 + (j + 1)) = rowk l m i (i + 1 + j)) := by
                  unfold Hid
                  rw [show i + 1 + (j + 1) = i + 1 + j + 1 by omega, HR.out, if_neg (by unfold unr; rw [h1]; simp), List.append_nil]
                clear h1 HR
                go_wp2_with fail
                exact ⟨⟨j + 1, by omega, by go_num, by unfold Hid; rw [HF.out]; exact HV7.out, HN, cx2, hcs2⟩, by simp [intOf]; omega⟩
              | false =>
                have H1F := Lib.hid h1
                clear h1
                go_wp2_with fail
                refine (isLater_any bx l m u x _ HO7.out HXU.out.2 (by have := HRG.out; omega) (by have := HRG.out; omega)).mono ?_
                rintro e w9 ⟨rfl, hw9⟩
                have hw9' := hw9.symm
                subst hw9'
                clear hw9
                cases h2 : later m u x with
                | true =>
                  have HF : Hid (rowk l m i (i + 1 + (j + 1)) = rowk l m i (i + 1 + j)) := by
                    unfold Hid
                    rw [show i + 1 + (j + 1) = i + 1 + j + 1 by omega, HR.out, if_neg (by unfold unr; rw [h2]; simp), List.append_nil]
                  clear h2 HR
                  go_wp2_with fail
                  exact ⟨⟨j + 1, by omega, by go_num, by unfold Hid; rw [HF.out]; exact HV7.out, HN, cx2, hcs2⟩, by simp [intOf]; omega⟩
                | false =>
                  have HF : Hid (rowk l m i (i + 1 + (j + 1)) = rowk l m i (i + 1 + j) ++ [(x, u)]) := by
                    unfold Hid
                    rw [show i + 1 + (j + 1) = i + 1 + j + 1 by omega, HR.out, if_pos (by unfold unr; rw [h2, H1F.out]; rfl)]
                  clear h2 HR
                  have hown := HV7.out.1
                  have hF2 : prs l m i ++ rowk l m i (i + 1 + (j + 1)) = (prs l m i ++ rowk l m i (i + 1 + j)) ++ [(x, u)] := by rw [HF.out, List.append_assoc]
                  generalize prs l m i ++ rowk l m i (i + 1 + j) = LL at hown hlen hF2
                  have HF2 := Lib.hid hF2
                  clear hF2
                  have hbs := HSW.out _ HV7.out.2
                  go_wp2_with (at_builtin; refine wpList_append_lies _ rfl _ _ 42 rfl w2.heap.size 75 i0 (.agg #[.int .i64 0, .int .i64 0]) 2 16 Try.underlying42 hi hy0 hy1 hy2 rfl (by decide) _ _ _ rfl (hown.alloc _) ⟨Z2.heap.size, 0, none⟩ 1 1 [.int .i64 x, .int .i64 u] rfl rfl (cell_two_new _ _ _ _) (by simp [Value.oneCell']) (by decide) (by unfold maxLen; omega) (by omega) (by simp; omega) _ rfl ?_; intro g9 cap9 w9 hown' hgrow hat hlt9)
                  have hgs := hgrow.size
                  have hzz : (Z2.alloc (.cells #[.int .i64 x, .int .i64 u] 75)).heap.size = Z2.heap.size + 1 := by simp
                  have HUP : Hid (Up w2.heap.size W3 w9 (.slice (some ⟨g9, 0, none⟩) (LL.length + 1) cap9) (prs l m i ++ rowk l m i (i + 1 + (j + 1)))) := by
                    unfold Hid Up
                    rw [HF2.out, List.length_append, flat_append, flat_one]
                    exact ⟨hown', (HV7.out.2.alloc hbs _).grown hgrow (by omega) (fun j hj => (hown.lt j hj).1)⟩
                  have HN9 : Hid ((Value.slice (some ⟨g9, 0, none⟩) (LL.length + 1) cap9).ownBlock ≠ some cb) := by
                    intro e
                    have e' : g9 = cb := Option.some.inj e
                    rcases hat with h | h
                    · rw [e'] at h
                      exact HN.out h
                    · omega
                  have cx9 : w9.cell? ⟨cb, 0, none⟩ = some (.int .i64 x) := (World.cell?_of_block (hgrow.block cb (by omega) (fun e => HN.out e.symm))).trans (((below_alloc Z2 _).cell (p := ⟨cb, 0, none⟩) hcs2).trans cx2)
                  have hcs9 : cb < w9.heap.size := by omega
                  clear hown' hgrow hat hlt9 hown
                  exact ⟨⟨j + 1, by omega, by go_num, HUP, HN9, cx9, hcs9⟩, by simp [intOf]; omega⟩
            · obtain rfl : j = n1 - (i + 1) := by omega
              have hjn : ¬ (((n1 - (i + 1) : Nat) : Int) < ((n1 - (i + 1) : Nat) : Int)) := by omega
              have HP : Hid (Up w2.heap.size W3 wr u5 (prs l m (i + 1))) := by
                unfold Hid
                rw [prs_next, HL1.out]
                have h := HV.out
                rw [show i + 1 + (n1 - (i + 1)) = n1 by omega] at h
                exact h
              clear HV
              go_wp2_with fail
              exact ⟨⟨i + 1, by omega, by go_num, HP⟩, by simp [intOf]; omega⟩
      · obtain rfl : i = n1 := by omega
        have hin : ¬ (i : Int) < (i : Int) := by omega
        have hown := HU.out.1
        have hlen := all_len (l := l) (m := m) (by rw [HL1.out]; exact hn1) (show i ≤ l.length by rw [HL1.out]; exact hile) 0
        rw [List.length_append] at hlen
        have HE2 := HE.out
        rw [HL1.out] at HE2
        have HE3 := Lib.hid HE2
        have HBD := Lib.hid (HW2.out.trans ((HM.out _ HU.out.2).mono hB))
        have HOW := Lib.hid hown
        obtain ⟨p, d, rfl⟩ := own_form hown
        clear hown HE2 HU
        go_wp2_with fail
        go_ret2
        rw [HE3.out]
        exact ⟨_, _, _, rfl, ownsRow_base HOW.out hB, by show (prs l m i).length ≤ _; omega, HBD.out⟩
end Go.Proofs.Ytaikphcemldikab.Unrel
