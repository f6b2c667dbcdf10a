/- FnExactEndContexts: at every argument EndContexts answers as its model does, leaves its arguments as they were, and its answers are memory of their own, apart from each other. No condition. -/
import Derived.Test.YtaikphcemldikaaEndsM
import Derived.Test.YtaikphcemldikaaWEndContexts
import Derived.Test.YtaikphcemldikaaFEndContexts
import Derived.Deep.AppendLies
namespace Go.Proofs.Ytaikphcemldikaa.Ends2
open Go.RowKit Go.Maps Pairs Rec Chain Find2 GoodM Keep GivesI Lows Order Idx That Table Bit IsLater
theorem Two.own1 {B : Nat} {W wr : World} {gt n g1 k1 d1 : Nat} {T : List Nat} {v2 : Value} {L1 L2 : List Int} (h : Two B W wr gt n T (.slice (some ⟨g1, 0, none⟩) k1 d1) L1 v2 L2) : wr.ownsRow B 3 1 (.slice (some ⟨g1, 0, none⟩) k1 d1) k1 (ints L1) ∧ L1.length = k1 := by
  obtain ⟨g1', k1', d1', g2, k2, d2, h1, h2, h3, h4, h5, h6, h7, h8, h9⟩ := h
  injection h1 with e1 e2 e3
  subst e2
  exact ⟨h8, h2⟩
theorem Two.bel {B : Nat} {W wr : World} {gt n : Nat} {T : List Nat} {v1 v2 : Value} {L1 L2 : List Int} (h : Two B W wr gt n T v1 L1 v2 L2) : Below B W wr := by
  obtain ⟨g1, k1, d1, g2, k2, d2, h1, h2, h3, h4, h5, h6, h7, h8, h9, h10, h11, h12⟩ := h
  exact h12
theorem Two.row {B : Nat} {W wr : World} {gt n i t : Nat} {T : List Nat} {v1 v2 : Value} {L1 L2 : List Int} (h : Two B W wr gt n T v1 L1 v2 L2) (hi : i < n) (ht : T[i]? = some t) : wr.cell? ⟨gt, i, none⟩ = some (.int .i64 (t : Int)) := by
  obtain ⟨g1, k1, d1, g2, k2, d2, h1, h2, h3, h4, h5, h6, h7, h8, h9, h10, h11, h12⟩ := h
  obtain ⟨bb, oo, zz, hp, hzz, e3⟩ := h10.at i hi
  obtain ⟨t', ht', rfl⟩ := row_at hzz
  obtain rfl : t' = t := by rw [ht] at ht'; exact (Option.some.inj ht').symm
  injection hp with hp
  injection hp with hp1 hp2
  subst hp1 hp2
  rw [Nat.zero_add] at e3
  exact e3
theorem Two.forms {B : Nat} {W wr : World} {gt n : Nat} {T : List Nat} {v1 v2 : Value} {L1 L2 : List Int} (h : Two B W wr gt n T v1 L1 v2 L2) : ∃ g1 k1 d1 g2 k2 d2, v1 = .slice (some ⟨g1, 0, none⟩) k1 d1 ∧ v2 = .slice (some ⟨g2, 0, none⟩) k2 d2 ∧ g1 ≠ g2 := by
  obtain ⟨g1, k1, d1, g2, k2, d2, h1, h2, h3, h4, h5, _⟩ := h
  exact ⟨g1, k1, d1, g2, k2, d2, h1, h3, h5⟩
theorem two_empty' {W0 : World} {n : Nat} (hW : W0.heap.size = n) : ((W0.alloc (.cells #[] 3)).alloc (.cells #[] 3)).ownsRow W0.heap.size 3 1 (.slice (some ⟨n, 0, none⟩) 0 0) 0 [] ∧ ((W0.alloc (.cells #[] 3)).alloc (.cells #[] 3)).ownsRow W0.heap.size 3 1 (.slice (some ⟨n + 1, 0, none⟩) 0 0) 0 [] := by
  subst hW
  exact two_empty (Nat.le_refl _)
theorem cell_int {w : World} {p : Addr} {t : Nat} (h : w.cell? p = some (.int .i64 (t : Int))) (ht : t = 0) : w.cell? p = some (.int .i64 0) := by
  subst ht
  exact h
set_option maxRecDepth 100000 in
set_option maxHeartbeats 8000000 in
theorem spec_any : GivesE.Gives 32 endsP := by
  intro a1 a2 n1 c1 n2 c2 l m w hz1 hz2 h1 h2
  obtain ⟨i0, hi, hy0, hy1, hy2⟩ := Rec.info_parts That.infoInt
  have hb := below_alloc w (.cells #[.slice a1 n1 c1, .slice a2 n2 c2] 27)
  have hf := box_first w (.slice a1 n1 c1) (.slice a2 n2 c2) 27
  have hf2 := box_second w (.slice a1 n1 c1) (.slice a2 n2 c2) 27
  have H1 := Lib.hid (h1.below hb)
  have H2 := Lib.hid (h2.below hb)
  have HL1 := Lib.hid h1.1
  have hsz : w.heap.size < (w.alloc (.cells #[.slice a1 n1 c1, .slice a2 n2 c2] 27)).heap.size := by simp
  have hWe : (w.alloc (.cells #[.slice a1 n1 c1, .slice a2 n2 c2] 27)).heap.size = w.heap.size + 1 := by simp
  have HWE := Lib.hid hWe
  have HB := Lib.hid hb
  clear h1 h2 hWe hb
  go_enter Try.func32, Try.ntmps32
  go_wp2_with fail
  generalize w.alloc (.cells #[.slice a1 n1 c1, .slice a2 n2 c2] 27) = W0 at *
  have he0 := Good2.below2 W0 (.cells #[] 3) (.cells #[] 3)
  have ho0 := two_empty' HWE.out
  have hS1 : ((W0.alloc (.cells #[] 3)).alloc (.cells #[] 3)).heap.size = w.heap.size + 3 := by simp [HWE.out]
  have g1 := (he0.cell (p := ⟨w.heap.size, 0, none⟩) hsz).trans hf
  have g2 := (he0.cell (p := ⟨w.heap.size, 1, none⟩) hsz).trans hf2
  have HO0 : Hid (_ ∧ _) := Lib.hid ho0
  have HE0 := Lib.hid he0
  have HBE := Lib.hid (HB.out.trans (he0.mono HB.out.size))
  have K1 := Lib.hid (H1.out.below he0)
  have K2 := Lib.hid (H2.out.below he0)
  have HF := Lib.hid hf
  clear ho0 he0 hf hf2
  try rw [HWE.out]
  generalize (W0.alloc (.cells #[] 3)).alloc (.cells #[] 3) = E at *
  refine (Good2.l2Good_any a1 a2 n1 c1 n2 c2 l m E K1.out K2.out).mono ?_
  rintro e w2 ⟨rfl, b2⟩
  have q1 := (b2.cell (p := ⟨w.heap.size, 0, none⟩) (by show w.heap.size < _; omega)).trans g1
  have q2 := (b2.cell (p := ⟨w.heap.size, 1, none⟩) (by show w.heap.size < _; omega)).trans g2
  have hs2 := b2.size
  have B2 := Lib.hid b2
  clear g1 g2 b2
  cases hg : good l m with
  | false =>
    have HE := Lib.hid (ends_no hg)
    clear hg
    go_wp2_with fail
    go_ret3
    rw [HE.out]
    refine ⟨_, _, _, _, _, _, rfl, ownsRow_base (ownsRow_below HO0.out.1 B2.out) HB.out.size, ownsRow_base (ownsRow_below HO0.out.2 B2.out) HB.out.size, fun b h1 h2 => ?_, by omega, by omega, HBE.out.trans (B2.out.mono HBE.out.size)⟩
    simp [Value.ownBlock] at h1 h2
    omega
  | true =>
    have HE := Lib.hid (ends_yes hg)
    have HG := Lib.hid hg
    have hn10 : n1 ≤ 10 := by rw [← HL1.out]; exact (Table.good_few hg).1
    clear hg
    go_wp2_with fail
    refine (later_any a1 a2 n1 c1 n2 c2 l m w2 HG.out (K1.out.below B2.out) (K2.out.below B2.out)).mono ?_
    rintro e w3 ⟨gt, T, rfl, hge, hT, TT, b3⟩
    have HTT := Lib.hid TT
    have HgT : w2.heap.size ≤ gt := hge
    have hgt3 : gt < w3.heap.size ∨ n1 = 0 := by
      rcases hT.2 with h0 | ⟨bb, off, hp, hbb, _⟩
      · exact .inr h0
      · injection hp with hp
        injection hp with h1 h2
        rw [h1]
        exact .inl hbb
    have hlast := (Good2.below2 W0 (.cells #[] 3) (.cells #[] 3))
    have B3 := Lib.hid (HE0.out.trans ((B2.out.trans (b3.mono B2.out.size)).mono HE0.out.size))
    have HO3 := Lib.hid (And.intro (ownsRow_below (ownsRow_below HO0.out.1 B2.out) b3) (ownsRow_below (ownsRow_below HO0.out.2 B2.out) b3))
    have HT3 := Lib.hid hT
    have HU : Hid (∀ wr, Below W0.heap.size W0 wr → wr.cell? ⟨w.heap.size, 0, none⟩ = some (.slice a1 n1 c1)) := fun wr hwr => (hwr.cell (p := ⟨w.heap.size, 0, none⟩) hsz).trans HF.out
    clear TT b3 q1 q2 hge hlast hT
    by_cases hn0 : n1 = 0
    · subst hn0
      have hl0 : l = [] := List.eq_nil_of_length_eq_zero HL1.out
      have HE2 : Hid (endsP l m = (true, [], [])) := by unfold Hid; rw [HE.out, hl0]; rfl
      go_wp2_with fail
      go_loopw [8, 9] (fun s8 s9 wr => s9 = .int .i64 0 ∧ wr = w3) (fun _ _ _ => 0)
      case atStart => exact ⟨rfl, rfl⟩
      case round =>
        obtain ⟨rfl, rfl⟩ := hrel
        go_wp2_with fail
        go_loopw [5, 6, 10] (fun s5 s6 s10 wr' => s5 = .slice (some ⟨w.heap.size + 1, 0, none⟩) 0 0 ∧ s6 = .slice (some ⟨w.heap.size + 1 + 1, 0, none⟩) 0 0 ∧ s10 = .int .i64 0 ∧ wr' = wr) (fun _ _ _ _ => 0)
        case atStart => exact ⟨rfl, rfl, rfl, rfl⟩
        case round =>
          obtain ⟨rfl, rfl, rfl, rfl⟩ := hrel
          go_wp2_with fail
          go_ret3
          rw [HE2.out]
          refine ⟨_, _, _, _, _, _, rfl, ownsRow_base HO3.out.1 HB.out.size, ownsRow_base HO3.out.2 HB.out.size, fun b h1 h2 => ?_, by omega, by omega, HB.out.trans (B3.out.mono HB.out.size)⟩
          simp [Value.ownBlock] at h1 h2
          omega
    · have hgt4 : gt < w3.heap.size := hgt3.resolve_right hn0
      have HS0 : Hid (Two W0.heap.size W0 w3 gt n1 T (.slice (some ⟨w.heap.size + 1, 0, none⟩) 0 0) (sel (fun z => !loB m z) (l.take 0)) (.slice (some ⟨w.heap.size + 1 + 1, 0, none⟩) 0 0) (sel (fun z => !upB m z) (l.take 0))) :=
        ⟨_, _, _, _, _, _, rfl, rfl, rfl, rfl, by omega, by omega, by omega, HO3.out.1, HO3.out.2, HT3.out, hgt4, B3.out⟩
      have HLT : Hid (T.length = n1) := HTT.out.len
      clear hgt3 hgt4 HO3
      go_wp2_with fail
      go_loopw [8, 9] (fun s8 s9 wr => ∃ k : Nat, k ≤ n1 ∧ s9 = .int .i64 k ∧ s8 = .int .i64 (orN T k : Nat) ∧ wr = w3) (fun _ s9 _ => n1 - (intOf s9).toNat)
      case atStart => exact ⟨0, Nat.zero_le _, rfl, rfl, rfl⟩
      case round =>
        obtain ⟨k, hk, rfl, rfl, rfl⟩ := hrel
        have hok := bd hn10 (or_lt HTT.out.bd k (by rw [HLT.out]; exact hk))
        by_cases hlt : k < n1
        · have hkn : (k : Int) < (n1 : Int) := by omega
          have hk0 : (0 : Int) ≤ (k : Int) := by omega
          have ht := List.getElem?_eq_getElem (show k < T.length by rw [HLT.out]; exact hlt)
          have z3 := HS0.out.row hlt ht
          have ht10 := bd hn10 (HTT.out.bd k _ ht)
          have HX := Lib.hid (or_next ht)
          generalize T[k]'_ = t at *
          have hor := i64_or (orN T k) t hok ht10
          clear ht
          go_wp2_with fail
          exact ⟨⟨k + 1, by omega, by go_num, by rw [HX.out], by first | rfl | trivial⟩, by simp [intOf]; omega⟩
        · obtain rfl : k = n1 := by omega
          have hkn : ¬ (k : Int) < (k : Int) := by omega
          have HBIT : Hid (∀ (j : Nat) (b : Int), j < 10 → isAt l b = some j → ∀ W, Calls Try.prog 83 #[.int .i64 (orN T k : Nat), .int .i64 j] W fun e w' => e = .returned (.bool (loB m b)) ∧ w' = W) := fun j b hj hb W => by
            have h := l4Bit_any (orN T k) j hok hj W
            rw [or_all HG.out HL1.out HTT.out hb] at h
            exact h
          generalize orN T k = A at *
          go_wp2_with fail
          go_loopw [5, 6, 10] (fun s5 s6 s10 wx => ∃ i : Nat, i ≤ k ∧ s10 = .int .i64 i ∧ Hid (Two W0.heap.size W0 wx gt k T s5 (sel (fun z => !loB m z) (l.take i)) s6 (sel (fun z => !upB m z) (l.take i)))) (fun _ _ s10 _ => k - (intOf s10).toNat)
          case atStart => exact ⟨0, Nat.zero_le _, rfl, HS0⟩
          case round =>
            obtain ⟨i, hile, rfl, HS⟩ := hrel
            obtain ⟨g1, k1, d1, g2, k2, d2, rfl, rfl, hgg⟩ := HS.out.forms
            have hl1 := HS.out.own1.2
            have hl2 := HS.out.swap.own1.2
            have HBW := Lib.hid HS.out.bel
            have hf1 := sel_len (fun z => !loB m z) (l.take i)
            have hf2 := sel_len (fun z => !upB m z) (l.take i)
            rw [List.length_take] at hf1 hf2
            clear HS0
            by_cases hlt2 : i < k
            · have hin : (i : Int) < (k : Int) := by omega
              have hi00 : (0 : Int) ≤ (i : Int) := by omega
              obtain ⟨b, off, x, y, rfl, hx, e1, e2⟩ := H1.out.at i hlt2
              have hxi := num_at HG.out hx
              have HC := Lib.hid (fun (wr : World) (hwr : Below W0.heap.size W0 wr) => (hwr.cell (World.block_lt_of_cell? W0 _ e1)).trans e1)
              have HXA := Lib.hid (sel_next (fun z => !loB m z) hx)
              have HXB := Lib.hid (sel_next (fun z => !upB m z) hx)
              have ht := List.getElem?_eq_getElem (show i < T.length by rw [HLT.out]; exact hlt2)
              have hrow := row_none HG.out HL1.out HTT.out hxi ht
              have HLT2 := Lib.hid hlt2
              generalize T[i]'_ = t at *
              have HTI := Lib.hid ht
              have HROW := Lib.hid hrow
              have HB4 := Lib.hid (HBIT.out i x (by omega) hxi)
              have hbs := HBW.out.size
              have c5 := HC.out _ HBW.out
              have u5 := HU.out _ HBW.out
              have z5 := HS.out.row hlt2 ht
              have hown1 := HS.out.own1.1
              have hown2 := HS.out.swap.own1.1
              clear hx hxi e1 e2 ht hrow
              go_wp2_with fail
              refine (HB4.out _).mono ?_
              rintro e w' ⟨rfl, hw'⟩
              have hw2 := hw'.symm
              subst hw2
              clear hw' HB4
              cases hlo : loB m x with
              | true =>
                have HA2 : Hid (sel (fun z => !loB m z) (l.take (i + 1)) = sel (fun z => !loB m z) (l.take i)) := by unfold Hid; rw [HXA.out, if_neg (by simp [hlo]), List.append_nil]
                clear HXA hlo
                cases hup : upB m x with
                | true =>
                  have hq : ((t : Int) == 0) = false := by
                    have h1 : ¬ t = 0 := fun h => by rw [HROW.out.1 h] at hup; cases hup
                    simpa using h1
                  have HB2' : Hid (sel (fun z => !upB m z) (l.take (i + 1)) = sel (fun z => !upB m z) (l.take i)) := by unfold Hid; rw [HXB.out, if_neg (by simp [hup]), List.append_nil]
                  clear HXB hup hown1 hown2
                  go_wp2_with fail
                  exact ⟨⟨i + 1, by omega, by go_num, by unfold Hid; rw [HA2.out, HB2'.out]; exact HS.out⟩, by simp [intOf]; omega⟩
                | false =>
                  have z6 := cell_int z5 (HROW.out.2 hup)
                  have HB2' : Hid (sel (fun z => !upB m z) (l.take (i + 1)) = sel (fun z => !upB m z) (l.take i) ++ [x]) := by unfold Hid; rw [HXB.out, if_pos (by simp [hup])]
                  clear HXB hup z5 hown1
                  go_wp2_with (at_builtin; refine wpList_append_lies _ rfl _ _ 55 rfl W0.heap.size 3 i0 (.int .i64 0) 1 8 Try.underlying55 hi hy0 hy1 hy2 rfl (by decide) _ _ _ rfl (hown2.alloc _) ⟨wr.heap.size, 0, none⟩ 1 1 [.int .i64 x] rfl rfl (cell_one_new _ _ _) (by simp [Value.oneCell']) (by decide) (by unfold maxLen; omega) (by omega) (by simp; omega) _ rfl ?_; intro g9 cap9 w9 hown' hgrow hat hlt9; have HT9 := Lib.hid ((HS.out.swap.app hbs hown' hgrow hat).swap); clear hown' hgrow hat hlt9)
                  exact ⟨⟨i + 1, by omega, by go_num, by unfold Hid; rw [HA2.out, HB2'.out]; exact HT9.out⟩, by simp [intOf]; omega⟩
              | false =>
                have HA2 : Hid (sel (fun z => !loB m z) (l.take (i + 1)) = sel (fun z => !loB m z) (l.take i) ++ [x]) := by unfold Hid; rw [HXA.out, if_pos (by simp [hlo])]
                clear HXA hlo
                cases hup : upB m x with
                | true =>
                  have hq : ((t : Int) == 0) = false := by
                    have h1 : ¬ t = 0 := fun h => by rw [HROW.out.1 h] at hup; cases hup
                    simpa using h1
                  have HB2' : Hid (sel (fun z => !upB m z) (l.take (i + 1)) = sel (fun z => !upB m z) (l.take i)) := by unfold Hid; rw [HXB.out, if_neg (by simp [hup]), List.append_nil]
                  clear HXB hup hown2
                  go_wp2_with (at_builtin; refine wpList_append_lies _ rfl _ _ 55 rfl W0.heap.size 3 i0 (.int .i64 0) 1 8 Try.underlying55 hi hy0 hy1 hy2 rfl (by decide) _ _ _ rfl (hown1.alloc _) ⟨wr.heap.size, 0, none⟩ 1 1 [.int .i64 x] rfl rfl (cell_one_new _ _ _) (by simp [Value.oneCell']) (by decide) (by unfold maxLen; omega) (by omega) (by simp; omega) _ rfl ?_; intro g9 cap9 w9 hown' hgrow hat hlt9; have HT9 := Lib.hid (HS.out.app hbs hown' hgrow hat); have z9 := HT9.out.row HLT2.out HTI.out; clear hown' hgrow hat hlt9)
                  exact ⟨⟨i + 1, by omega, by go_num, by unfold Hid; rw [HA2.out, HB2'.out]; exact HT9.out⟩, by simp [intOf]; omega⟩
                | false =>
                  have HT0 := Lib.hid (HROW.out.2 hup)
                  have HB2' : Hid (sel (fun z => !upB m z) (l.take (i + 1)) = sel (fun z => !upB m z) (l.take i) ++ [x]) := by unfold Hid; rw [HXB.out, if_pos (by simp [hup])]
                  clear HXB hup hown2
                  go_wp2_with (first
                    | (at_builtin; refine wpList_append_lies _ rfl _ _ 55 rfl W0.heap.size 3 i0 (.int .i64 0) 1 8 Try.underlying55 hi hy0 hy1 hy2 rfl (by decide) _ _ _ rfl (hown1.alloc _) ⟨wr.heap.size, 0, none⟩ 1 1 [.int .i64 x] rfl rfl (cell_one_new _ _ _) (by simp [Value.oneCell']) (by decide) (by unfold maxLen; omega) (by omega) (by simp; omega) _ rfl ?_; intro g9 cap9 w9 hown' hgrow hat hlt9; have HT9 := Lib.hid (HS.out.app hbs hown' hgrow hat); have z9 := cell_int (HT9.out.row HLT2.out HTI.out) HT0.out; have c9 := HC.out w9 HT9.out.bel; have u9 := HU.out w9 HT9.out.bel; have hown9 := HT9.out.swap.own1.1; have hbs9 := HT9.out.bel.size; clear hown' hgrow hat hlt9 hown1)
                    | (at_builtin; refine wpList_append_lies _ rfl _ _ 55 rfl W0.heap.size 3 i0 (.int .i64 0) 1 8 Try.underlying55 hi hy0 hy1 hy2 rfl (by decide) _ _ _ rfl (hown9.alloc _) ⟨w9.heap.size, 0, none⟩ 1 1 [.int .i64 x] rfl rfl (cell_one_new _ _ _) (by simp [Value.oneCell']) (by decide) (by unfold maxLen; omega) (by omega) (by simp; omega) _ rfl ?_; intro g10 cap10 w10 hown' hgrow hat hlt10; have HT10 := Lib.hid ((HT9.out.swap.app hbs9 hown' hgrow hat).swap); clear hown' hgrow hat hlt10))
                  exact ⟨⟨i + 1, by omega, by go_num, by unfold Hid; rw [HA2.out, HB2'.out]; exact HT10.out⟩, by simp [intOf]; omega⟩
            · obtain rfl : i = k := by omega
              have hin : ¬ (i : Int) < (i : Int) := by omega
              have hs := HS.out
              rw [List.take_of_length_le (by rw [HL1.out]; exact Nat.le_refl _)] at hs
              rw [List.take_of_length_le (by rw [HL1.out]; exact Nat.le_refl _)] at hl1 hl2 hf1 hf2
              have HSS := Lib.hid hs
              clear hs HS
              go_wp2_with fail
              go_ret3
              rw [HE.out]
              refine ⟨_, _, _, _, _, _, rfl, ownsRow_base HSS.out.own1.1 HB.out.size, ownsRow_base HSS.out.swap.own1.1 HB.out.size, fun b h1 h2 => ?_, by omega, by omega, HB.out.trans (HBW.out.mono HB.out.size)⟩
              have q1 : some g1 = some b := h1
              have q2 : some g2 = some b := h2
              rw [← q2] at q1
              exact hgg (Option.some.inj q1)
theorem said : Rows.FnExactEndContextsSaid := FEndContexts.over (fun a1 a2 n1 c1 n2 c2 l1 l2 w h1 h2 h3 h4 => WEndContexts.walk endsP impl_any spec_any a1 a2 n1 c1 n2 c2 l1 l2 w h1 h2 h3 h4)
#print axioms said
end Go.Proofs.Ytaikphcemldikaa.Ends2
