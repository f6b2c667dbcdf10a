/- Contracts of functions of a record whose rows may have room to spare. -/
import Derived.Test.YtcbfnhghhbgdkaaExactResolvesRecordSaidPartax
import Derived.Test.YtcbfnhghhbgdkaaExactResolvesRecordSaidPartay
import Derived.Test.YtcbfnhghhbgdkaaExactResolvesRecordSaidPartaw
import Derived.Test.YtcbfnhghhbgdkaaExactResolvesRecordSaidPartaq
import Derived.Test.YtcbfnhghhbgdkaaExactResolvesRecordSaidPartas
import Derived.Test.YtcbfnhghhbgdkaaExactResolvesRecordSaidPartar
import Derived.Test.YtcbfnhghhbgdkaaExactResolvesRecordSaidPartan
import Derived.WalkSmall
namespace Go.Proofs.Ytcbfnhghhbgdkaa.Caps
open Go.RowKit Pairs Rec Keep
/-- At a record whose rows have room to spare, a function answers so. -/
def Cap (f : FuncId) (R : List (Int × Int) → List (Int × Int) → World → Ending → World → Prop) : Prop :=
  ∀ (a1 a2 : Option Addr) (n1 c1 n2 c2 : Nat) (l m : List (Int × Int)) (w : World), n1 ≤ c1 → n2 ≤ c2 → n1 ≤ 1048576 → n2 ≤ 1048576 → Holds w a1 n1 l → Holds w a2 n2 m →
    Calls Try.prog f #[.agg #[.slice a1 n1 c1, .slice a2 n2 c2]] w (R l m w)
theorem rl {f : FuncId} {F : List (Int × Int) → List (Int × Int) → Option (List (Int × Int))} (h : Cap f fun l m w => GivesS.Res (F l m).isSome ((F l m).getD []) w) : GivesRL.Gives f F :=
  fun a1 a2 n1 n2 l m w z1 z2 h1 h2 => h a1 a2 n1 n1 n2 n2 l m w (Nat.le_refl _) (Nat.le_refl _) z1 z2 h1 h2
theorem o {f : FuncId} {F : List (Int × Int) → List (Int × Int) → Option (List Int)} (h : Cap f fun l m w => GivesI.Res (F l m).isSome ((F l m).getD []) w) : GivesO.Gives f F :=
  fun a1 a2 n1 n2 l m w z1 z2 h1 h2 => h a1 a2 n1 n1 n2 n2 l m w (Nat.le_refl _) (Nat.le_refl _) z1 z2 h1 h2
theorem ss {f : FuncId} {F : List (Int × Int) → List (Int × Int) → Option (List (List Int))} (h : Cap f fun l m w => SS.Res (F l m).isSome ((F l m).getD []) w) : SS.Gives f F :=
  fun a1 a2 n1 n2 l m w z1 z2 h1 h2 => h a1 a2 n1 n1 n2 n2 l m w (Nat.le_refl _) (Nat.le_refl _) z1 z2 h1 h2
theorem c {f : FuncId} {F : List (Int × Int) → List (Int × Int) → Bool × Bool × List Int} (h : Cap f fun l m w => GivesC.Res (F l m) w) : GivesC.Gives f F :=
  fun a1 a2 n1 n2 l m w z1 z2 h1 h2 => h a1 a2 n1 n1 n2 n2 l m w (Nat.le_refl _) (Nat.le_refl _) z1 z2 h1 h2
end Go.Proofs.Ytcbfnhghhbgdkaa.Caps
/- The program's ShortestCycle. -/
namespace Go.Proofs.Ytcbfnhghhbgdkaa.CycI
open Go.RowKit Pairs Rec Chain Find2 GoodM Keep GivesI Lows Queue From MapStep BfsM ScM ScI Idx IsLater StpM CycM
theorem keys_sorted {l m : Ps} (hg : good l m = true) : (keys l).Pairwise (· < ·) := by
  have ha := (good_asc hg).1
  rw [List.pairwise_iff_getElem]
  intro i j hi hj hij
  unfold keys at hi hj ⊢
  rw [List.length_map] at hi hj
  rw [List.getElem_map, List.getElem_map]
  refine Asc.lt ha (j - i - 1) i _ _ (List.getElem?_eq_getElem hi) ?_
  rw [show i + (j - i - 1) + 1 = j by omega]
  exact List.getElem?_eq_getElem hj
noncomputable def cycP (l m : Ps) : Bool × Bool × List Int := if good l m = true then (decide (0 < (cycM m (keys l)).length), true, cycM m (keys l)) else (false, false, [])
theorem cp_no {l m : Ps} (h : good l m = false) : cycP l m = (false, false, []) := by unfold cycP; rw [if_neg (by rw [h]; simp)]
theorem cp_yes {l m : Ps} (h : good l m = true) : cycP l m = (decide (0 < (cycM m (keys l)).length), true, cycM m (keys l)) := by unfold cycP; rw [if_pos h]
theorem cyc_all {l m : Ps} (hg : good l m = true) : Cyc m (keys l) := by
  have h := cyc_pre hg (AscM.lows_sorted hg) (keys_sorted hg) l.length (Nat.le_refl _)
  rwa [List.take_of_length_le (by unfold keys; simp)] at h
theorem cycB_next {l m : Ps} {k : Nat} {x y : Int} (hx : l[k]? = some (x, y)) : cycB m ((keys l).take (k + 1)) = stepP m (cycB m ((keys l).take k)) x := by
  rw [List.take_add_one, show (keys l)[k]? = some x by unfold keys; rw [List.getElem?_map, hx]; rfl, Option.toList_some]
  exact cyc_next _ _
theorem chain_max {l m : Ps} (hg : good l m = true) (a b : Int) : (chainP m a b).length ≤ l.length + 1 := by
  have hs := sts_steps m b
  rcases Nat.eq_zero_or_pos (sts m b a) with h0 | h0
  · rw [gr_no hs h0]
    simp
  · rw [gr_is (AscM.lows_sorted hg) hs h0]
    obtain ⟨_, _, g3⟩ := gr_fch hs _ a (hs.some a h0)
    have := min_le hg (hs.some a h0)
    omega
theorem fold_max {l m : Ps} (hg : good l m = true) : ∀ (t B : List Int), B.length ≤ l.length + 1 → (t.foldl (stepP m) B).length ≤ l.length + 1
  | [], B, h => h
  | c :: t, B, h => by
    rw [List.foldl_cons]
    refine fold_max hg t _ ?_
    unfold stepP
    split
    · exact chain_max hg c c
    · exact h
theorem cycB_max {l m : Ps} (hg : good l m = true) (t : List Int) : (cycB m t).length ≤ l.length + 1 := fold_max hg t [] (by simp)
theorem g1_of_res {B k d : Nat} {w wr w9 : World} {p : Option Addr} {L : List Int} (hB : B ≤ wr.heap.size) (hw : Below B w wr) (hown : w9.ownsRow wr.heap.size 3 1 (.slice p k d) k (ints L)) (hb : Below wr.heap.size wr w9) (hk : L.length = k) : That.G1 B w w9 (.slice p k d) L := by
  refine ⟨?_, hw.trans (hb.mono hB)⟩
  rw [hk]
  exact ownsRow_base hown hB
theorem pop {w : World} {B : Nat} {p : Option Addr} {n d : Nat} {L : List Int} (h : w.ownsRow B 3 1 (.slice p (n + 1) d) (n + 1) (ints L)) (hl : L.length = n + 1) : w.ownsRow B 3 1 (.slice p n d) n (ints L.dropLast) := by
  obtain ⟨g, c, e⟩ : ∃ g c, (Value.slice p (n + 1) d) = .slice (some ⟨g, 0, none⟩) (n + 1) c := by
    obtain ⟨_, h2⟩ := h
    rcases h2 with ⟨h0, _⟩ | ⟨g', cap', cur, hv, _⟩
    · cases h0
    · exact ⟨g', cap', hv⟩
  injection e with e1 e2 e3
  subst e1 e3
  have hne : L ≠ [] := fun e => by rw [e] at hl; simp at hl
  have hs : ints L = ints L.dropLast ++ ints [L.getLast hne] := by rw [← That.ints_append, List.dropLast_concat_getLast]
  rw [hs] at h
  exact ownsRow_pop (by rw [Nat.mul_one, ints_len, List.length_dropLast, hl]; omega) h
theorem own_cap {w : World} {B : Nat} {p : Option Addr} {n d : Nat} {xs : List Value} (h : w.ownsRow B 3 1 (.slice p n d) n xs) : n ≤ d := by
  obtain ⟨_, h2⟩ := h
  rcases h2 with ⟨hv, h0⟩ | ⟨g', cap', cur, hv, hg, hh, hn, hcap, _⟩
  · omega
  · injection hv with _ _ e3
    omega
set_option maxRecDepth 100000 in
set_option maxHeartbeats 8000000 in
theorem impl_cap : Caps.Cap 34 fun l m w => GivesC.Res (cycP l m) w := by
  intro a1 a2 n1 c1 n2 c2 l m w _ _ hz1 hz2 h1 h2
  have hb := below_alloc w (.cells #[.slice a1 n1 c1, .slice a2 n2 c2] 33)
  have hf := box_first w (.slice a1 n1 c1) (.slice a2 n2 c2) 33
  have hf2 := box_second w (.slice a1 n1 c1) (.slice a2 n2 c2) 33
  have H1 := Lib.hid (h1.below hb)
  have H2 := Lib.hid (h2.below hb)
  have HL1 := Lib.hid h1.1
  have HL2 := Lib.hid h2.1
  have HB := Lib.hid hb
  clear h1 h2 hb
  go_enter Try.func34, Try.ntmps34
  go_wp2_with fail
  generalize w.alloc (.cells #[.slice a1 n1 c1, .slice a2 n2 c2] 33) = W at *
  refine (Avr.impl_any a1 a2 n1 c1 n2 c2 l m W hz1 hz2 H1.out H2.out).mono ?_
  rintro e w1 ⟨rfl, b1⟩
  have q1 := (b1.cell (World.block_lt_of_cell? W _ hf)).trans hf
  have q2 := (b1.cell (World.block_lt_of_cell? W _ hf2)).trans hf2
  have HB1 := Lib.hid (HB.out.trans (b1.mono HB.out.size))
  have K1 := Lib.hid (H1.out.below b1)
  have K2 := Lib.hid (H2.out.below b1)
  clear hf hf2 b1
  cases hg : good l m with
  | false =>
    have HE := Lib.hid (cp_no hg)
    clear hg
    go_wp2_with fail
    refine bodyPost_ret (v := .tuple #[.slice (some ⟨w1.heap.size, 0, none⟩) 0 0, .bool false, .bool false]) (by simp [results, Try.results34, go_sem]) rfl ?_
    rw [HE.out]
    exact ⟨_, _, _, rfl, ownsRow_base (That.empty_own w1) HB1.out.size, by omega, HB1.out.trans ((below_alloc _ _).mono HB1.out.size)⟩
  | true =>
    have HE := Lib.hid (cp_yes hg)
    have HG := Lib.hid hg
    have HC := Lib.hid (cyc_all hg)
    have hn1 : n1 ≤ 10 := by rw [← HL1.out]; exact (Table.good_few hg).1
    have hn2 : m.length ≤ 24 := (Table.good_few hg).2
    have HM : Hid (∀ x y, (x, y) ∈ m → (1 ≤ x ∧ x ≤ 999) ∧ (1 ≤ y ∧ y ≤ 999)) := fun x y hxy => by
      obtain ⟨⟨i, hi⟩, ⟨j, hj⟩⟩ := Table.good_ends hg x y hxy
      exact ⟨rng_at hg hi, rng_at hg hj⟩
    clear hg
    go_wp2_with fail
    refine (lowersOf_any a1 a2 n1 c1 n2 c2 l m w1 HG.out K2.out).mono ?_
    rintro e w2 ⟨bl, rfl, hlow, hbl, b2⟩
    have HLW := Lib.hid hlow
    have q1 := (b2.cell (World.block_lt_of_cell? w1 _ q1)).trans q1
    have HB2 := Lib.hid (HB1.out.trans (b2.mono HB1.out.size))
    have M1 := Lib.hid (K1.out.below b2)
    clear hlow b2 q2
    have hbV := below_alloc w2 (.cells #[] 3)
    have v1 := (hbV.cell (World.block_lt_of_cell? w2 _ q1)).trans q1
    have HG0 : Hid (That.G1 w2.heap.size w2 (w2.alloc (.cells #[] 3)) (.slice (some ⟨w2.heap.size, 0, none⟩) 0 0) (cycB m ((keys l).take 0))) := ⟨That.empty_own w2, hbV⟩
    clear hbV
    go_wp2_with fail
    clear v1 q1
    generalize w2.alloc (.cells #[] 3) = V at *
    go_loopw [6, 20] (fun s6 s20 wr => ∃ k : Nat, k ≤ n1 ∧ s20 = .int .i64 k ∧ Hid (That.G1 w2.heap.size w2 wr s6 (cycB m ((keys l).take k)))) (fun _ s20 _ => n1 - (intOf s20).toNat)
    case atStart => exact ⟨0, Nat.zero_le _, rfl, HG0⟩
    case round =>
      clear HG0
      obtain ⟨k, hk, rfl, HR⟩ := hrel
      have hs2 := HR.out.2.size
      by_cases hlt : k < n1
      · obtain ⟨b, off, x, y, rfl, hx, e1, e2⟩ := (M1.out.below HR.out.2).at k hlt
        have HX := Lib.hid hx
        have hkn : (k : Int) < (n1 : Int) := by omega
        have hk00 : (0 : Int) ≤ (k : Int) := by omega
        obtain ⟨p6, d6, hv6⟩ := From.own_form HR.out.1
        subst hv6
        have hxr := nums HG.out hx
        have HNX := Lib.hid (cycB_next (m := m) hx)
        generalize hBk : cycB m ((keys l).take k) = Bk at *
        have HRR := Lib.hid HR.out
        have hb7 := below_alloc wr (.cells #[.int .i64 x, .int .i64 y] 53)
        have u1 := box_first wr (.int .i64 x) (.int .i64 y) 53
        have HW7 := Lib.hid (HRR.out.2.trans (hb7.mono hs2))
        have HO7 := Lib.hid (ownsRow_below HRR.out.1 hb7)
        clear hx hb7 HR hBk
        go_wp2_with fail
        clear e1 e2 u1
        generalize wr.alloc (.cells #[.int .i64 x, .int .i64 y] 53) = W7 at *
        refine (short_any bl n2 m x x W7 (AscM.lows_sorted HG.out) hn2 HM.out hxr hxr (HLW.out.below HW7.out)).mono ?_
        rintro e w8 ⟨p9, k9, d9, rfl, hown9, hk9, b9⟩
        have hkl : (chainP m x x).length = k9 := by have h := hown9.1; rw [ints_len] at h; omega
        have hs7 := HW7.out.size
        have HNEW := Lib.hid (g1_of_res hs7 HW7.out hown9 b9 hkl)
        have HOLD : Hid (That.G1 w2.heap.size w2 w8 (.slice p6 Bk.length d6) Bk) := ⟨ownsRow_below HO7.out b9, HW7.out.trans (b9.mono hs7)⟩
        clear hown9 b9
        by_cases hk0 : k9 = 0
        · subst hk0
          have HS : Hid (cycB m ((keys l).take (k + 1)) = Bk) := by
            unfold Hid
            rw [HNX.out]
            unfold stepP
            rw [if_neg (by omega)]
          have hz : ¬ (0 : Int) < ((0 : Nat) : Int) := by omega
          rw [← HS.out] at HOLD
          clear hkl HNX
          go_wp2_with fail
          exact ⟨⟨k + 1, by omega, by go_num, by simpa [HS.out] using HOLD⟩, by simp [intOf] <;> omega⟩
        · have hkp : (0 : Int) < (k9 : Int) := by omega
          have hkn0 : 0 < k9 := by omega
          by_cases hb0 : Bk.length = 0
          · have HS : Hid (cycB m ((keys l).take (k + 1)) = chainP m x x) := by
              unfold Hid
              rw [HNX.out]
              unfold stepP
              rw [if_pos ⟨by omega, .inl hb0⟩]
            rw [← HS.out] at HNEW
            clear hkl HNX HOLD
            go_wp2_with fail
            exact ⟨⟨k + 1, by omega, by go_num, HNEW⟩, by simp [intOf] <;> omega⟩
          · have hbn : ¬ (Bk.length : Int) = 0 := by omega
            have hbb : ((Bk.length : Int) == 0) = false := by rw [beq_eq_false_iff_ne]; exact hbn
            by_cases hlt2 : k9 < Bk.length
            · have hl2 : (k9 : Int) < (Bk.length : Int) := by omega
              have HS : Hid (cycB m ((keys l).take (k + 1)) = chainP m x x) := by
                unfold Hid
                rw [HNX.out]
                unfold stepP
                rw [if_pos ⟨by omega, .inr (by omega)⟩]
              rw [← HS.out] at HNEW
              clear hkl HNX HOLD
              go_wp2_with fail
              exact ⟨⟨k + 1, by omega, by go_num, HNEW⟩, by simp [intOf] <;> omega⟩
            · have hl2 : ¬ (k9 : Int) < (Bk.length : Int) := by omega
              have HS : Hid (cycB m ((keys l).take (k + 1)) = Bk) := by
                unfold Hid
                rw [HNX.out]
                unfold stepP
                rw [if_neg (by omega)]
              clear hkl HNX
              go_wp2_with fail
              exact ⟨⟨k + 1, by omega, by go_num, by rw [HS.out]; exact HOLD⟩, by simp [intOf] <;> omega⟩
      · obtain rfl : k = n1 := by omega
        have hkn : ¬ (k : Int) < (k : Int) := by omega
        have hRR := HR.out
        rw [List.take_of_length_le (by unfold keys; rw [List.length_map, HL1.out]; exact Nat.le_refl _)] at hRR
        obtain ⟨p6, d6, hv6⟩ := From.own_form hRR.1
        subst hv6
        have hsm := HC.out.same
        have hln := HC.out.len
        have hmx : (cycB m (keys l)).length ≤ 11 := Nat.le_trans (cycB_max HG.out _) (by rw [HL1.out]; omega)
        generalize cycB m (keys l) = Bk at *
        have HRR := Lib.hid hRR
        rw [hsm, List.length_dropLast] at HE
        have hd := own_cap hRR.1
        have HB9 := Lib.hid (HB2.out.trans (HRR.out.2.mono HB2.out.size))
        have hs9 := HB2.out.size
        clear hRR HR hsm
        by_cases hb0 : Bk.length = 0
        · have hnil : Bk = [] := List.eq_nil_of_length_eq_zero hb0
          subst hnil
          go_wp2_with fail
          refine bodyPost_ret (v := .tuple #[.slice p6 0 d6, .bool false, .bool true]) (by simp [results, Try.results34, go_sem]) rfl ?_
          rw [HE.out]
          exact ⟨p6, 0, d6, rfl, ownsRow_base HRR.out.1 hs9, by omega, HB9.out⟩
        · obtain ⟨q, hq⟩ : ∃ q, Bk.length = q + 2 := ⟨Bk.length - 2, by omega⟩
          have HQ := Lib.hid hq
          have ho := HRR.out.1
          rw [hq] at ho hd
          have ho2 := Lib.hid (pop (n := q + 1) ho hq)
          rw [hq] at HE
          rw [hq]
          have hll : q + 2 ≤ 11 := by rw [← hq]; exact hmx
          have hb1 : ¬ ((q + 2 : Nat) : Int) = 0 := by omega
          have hb2 : (((q + 2 : Nat) : Int) == 0) = false := by simp; omega
          have hw : wrap64 (((q + 2 : Nat) : Int) - 1) = ((q + 1 : Nat) : Int) := by unfold wrap64; omega
          clear ho hq hb0
          go_wp2_with fail
          refine bodyPost_ret (v := .tuple #[.slice p6 (q + 1) d6, .bool true, .bool true]) (by simp [results, Try.results34, go_sem]) rfl ?_
          rw [HE.out]
          exact ⟨p6, q + 1, d6, rfl, ownsRow_base ho2.out hs9, by omega, HB9.out⟩
theorem impl_any : GivesC.Gives 34 cycP := Caps.c impl_cap
end Go.Proofs.Ytcbfnhghhbgdkaa.CycI
