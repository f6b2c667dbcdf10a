/- The model's ContextOrder. -/
import Derived.Test.YtobnoiilnckmaaaOrdN
import Derived.Test.YtobnoiilnckmaaaConsistA
import Derived.Test.YtobnoiilnckmaaaGivesO
import Derived.Deep.AppendLies
namespace Go.Proofs.Ytobnoiilnckmaaa.CtxOrdS
open Go.RowKit Pairs Rec Chain Find2 GoodM Keep GivesI Lows Order Bit Table Idx That IsLater Consist OrdM OrdN
def lenOf : Value → Nat
  | .slice _ n _ => n
  | _ => 0
structure UpI (B : Nat) (W wr : World) (gt n : Nat) (T : List Nat) (v : Value) (L : List Int) : Prop where
  own : wr.ownsRow B 3 1 v L.length (ints L)
  bel : Below B W wr
  tab : HoldsI wr (some ⟨gt, 0, none⟩) n (intsN T)
  lt : n = 0 ∨ (gt < wr.heap.size ∧ v.ownBlock ≠ some gt)
  sz : B ≤ wr.heap.size
theorem UpI.row {B : Nat} {W wr : World} {gt n i t : Nat} {T : List Nat} {v : Value} {L : List Int} (h : UpI B W wr gt n T v L) (hi : i < n) (ht : T[i]? = some t) : wr.cell? ⟨gt, i, none⟩ = some (.int .i64 (t : Int)) := by
  obtain ⟨bb, oo, zz, hp, hzz, e3⟩ := h.tab.at i hi
  obtain ⟨t', ht', rfl⟩ := row_at hzz
  obtain rfl : t' = t := by rw [ht] at ht'; exact (Option.some.inj ht').symm
  injection hp with hp
  injection hp with hp1 hp2
  subst hp1 hp2
  rw [Nat.zero_add] at e3
  exact e3
theorem UpI.app {B : Nat} {W wr X w9 : World} {gt n g9 cap9 H : Nat} {T : List Nat} {v : Value} {L : List Int} {x : Int} (h : UpI B W wr gt n T v L) (hX : Below wr.heap.size wr X)
    (hown' : w9.ownsRow B 3 1 (.slice (some ⟨g9, 0, none⟩) (L.length + 1) cap9) (L.length + 1) (ints L ++ [.int .i64 x])) (hgrow : X.grownBy w9 v.ownBlock) (hat : v.ownBlock = some g9 ∨ g9 = H) (hH : wr.heap.size ≤ H) :
    UpI B W w9 gt n T (.slice (some ⟨g9, 0, none⟩) (L.length + 1) cap9) (L ++ [x]) := by
  have hs := hX.size
  have hs9 := hgrow.size
  have hsz := h.sz
  refine ⟨?_, (h.bel.trans (hX.mono h.sz)).grown hgrow (by omega) (fun j hj => (h.own.lt j hj).1), ?_, ?_, by omega⟩
  · rw [List.length_append, ints_append]
    exact hown'
  · rcases h.lt with h0 | ⟨h6, h7⟩
    · exact ⟨h.tab.1, .inl h0⟩
    · obtain ⟨p1, p2⟩ := h.tab.below hX
      refine ⟨p1, ?_⟩
      rcases p2 with h0 | ⟨b, off, hp, hb, hc⟩
      · exact .inl h0
      · injection hp with hp
        injection hp with q1 q2
        subst q1 q2
        exact .inr ⟨gt, 0, rfl, by omega, fun i x hi => (World.cell?_of_block (w := X) (w' := w9) (a := ⟨gt, 0 + i, none⟩) (hgrow.block gt (by omega) (fun e => h7 e.symm))).trans (hc i x hi)⟩
  · rcases h.lt with h0 | ⟨h6, h7⟩
    · exact .inl h0
    · refine .inr ⟨by omega, fun e => ?_⟩
      have e' : g9 = gt := Option.some.inj e
      rcases hat with e2 | e2
      · exact h7 (by rw [e2, e'])
      · omega
theorem upi_app {B : Nat} {W wr X w9 : World} {gt n g9 cap9 H : Nat} {T O : List Nat} {v : Value} {x : Nat} (h : UpI B W wr gt n T v (intsN O)) (hX : Below wr.heap.size wr X)
    (hown' : w9.ownsRow B 3 1 (.slice (some ⟨g9, 0, none⟩) (O.length + 1) cap9) (O.length + 1) (ints (intsN O) ++ [.int .i64 x])) (hgrow : X.grownBy w9 v.ownBlock) (hat : v.ownBlock = some g9 ∨ g9 = H) (hH : wr.heap.size ≤ H) :
    UpI B W w9 gt n T (.slice (some ⟨g9, 0, none⟩) (O.length + 1) cap9) (intsN (O ++ [x])) := by
  have e : intsN (O ++ [x]) = intsN O ++ [(x : Int)] := by unfold intsN; rw [List.map_append]; rfl
  have hl : (intsN O).length = O.length := by unfold intsN; simp
  rw [e]
  have h2 := UpI.app (x := (x : Int)) h hX (by rw [hl]; exact hown') hgrow hat hH
  rw [hl] at h2
  exact h2
def Ok (l m : Ps) (n1 : Nat) (O : List Nat) (d : Nat) : Prop := numsO l O ++ ordD (later m) (keys l) (n1 - O.length) (dn l d) = orderL l m ∧ O.length ≤ n1 ∧ (∀ i ∈ O, i < n1) ∧ d < 2 ^ n1
theorem ok_start {l m : Ps} {n1 : Nat} (hn : l.length = n1) : Ok l m n1 [] 0 := by
  refine ⟨?_, Nat.zero_le _, fun i hi => absurd hi List.not_mem_nil, Nat.pow_pos (by decide)⟩
  unfold orderL numsO
  rw [dn_zero, hn]
  rfl
theorem ok_next {l m : Ps} {n1 : Nat} {O : List Nat} {d i : Nat} {x y : Int} (hg : good l m = true) (h : Ok l m n1 O d) (hlt : O.length < n1) (hi : i < n1) (hx : l[i]? = some (x, y)) (hf : (keys l).find? (rdy (later m) (keys l) (dn l d)) = some x) : Ok l m n1 (O ++ [i]) (d ||| 2 ^ i) := by
  obtain ⟨h1, h2, h3, h4⟩ := h
  refine ⟨?_, by rw [List.length_append]; simp; omega, fun j hj => ?_, Nat.or_lt_two_pow h4 (Nat.pow_lt_pow_right (by decide) hi)⟩
  · obtain ⟨f, hff⟩ : ∃ f, n1 - O.length = f + 1 := ⟨n1 - O.length - 1, by omega⟩
    rw [hff, ordD_next hf] at h1
    rw [nums_snoc hx, dn_set hg hx, List.length_append, List.length_singleton, show n1 - (O.length + 1) = f by omega, List.append_assoc]
    exact h1
  · rcases List.mem_append.1 hj with hj | hj
    · exact h3 j hj
    · obtain rfl : j = i := by simpa using hj
      exact hi
theorem ok_stop {l m : Ps} {n1 : Nat} {O : List Nat} {d : Nat} (h : Ok l m n1 O d) (hf : (keys l).find? (rdy (later m) (keys l) (dn l d)) = none) : numsO l O = orderL l m := by
  have h1 := h.1
  rw [ordD_none hf, List.append_nil] at h1
  exact h1
theorem ok_full {l m : Ps} {n1 : Nat} {O : List Nat} {d : Nat} (h : Ok l m n1 O d) (hlt : ¬ O.length < n1) : numsO l O = orderL l m := by
  have h1 := h.1
  rw [show n1 - O.length = 0 by omega] at h1
  simpa [ordD] using h1
/-- A list of indices of its own that stands for the order. -/
def Idxs (l m : Ps) (n1 : Nat) (w : World) (e : Ending) (w' : World) : Prop := ∃ (p : Option Addr) (k d : Nat) (O : List Nat), e = .returned (.slice p k d) ∧ w'.ownsRow w.heap.size 3 1 (.slice p k d) k (ints (intsN O)) ∧ k ≤ 10 ∧ numsO l O = orderL l m ∧ (∀ i ∈ O, i < n1) ∧ Below w.heap.size w w'
set_option maxRecDepth 100000 in
set_option maxHeartbeats 8000000 in
theorem l4Order_any (a1 a2 : Option Addr) (n1 c1 n2 c2 : Nat) (l m : List (Int × Int)) (w : World) (hgood : good l m = true) (h1 : Holds w a1 n1 l) (h2 : Holds w a2 n2 m) :
    Calls Try.prog 63 #[.agg #[.slice a1 n1 c1, .slice a2 n2 c2]] w (Idxs l m n1 w) := by
  obtain ⟨ti, hi, hy0, hy1, hy2⟩ := Rec.info_parts That.infoInt
  have hb := below_alloc w (.cells #[.slice a1 n1 c1, .slice a2 n2 c2] 33)
  have hf := box_first w (.slice a1 n1 c1) (.slice a2 n2 c2) 33
  have hf2 := box_second w (.slice a1 n1 c1) (.slice a2 n2 c2) 33
  have H1 := Lib.hid (h1.below hb)
  have H2 := Lib.hid (h2.below hb)
  have HL1 := Lib.hid h1.1
  have HG := Lib.hid hgood
  have hn10 : n1 ≤ 10 := by rw [← HL1.out]; exact (Table.good_few hgood).1
  have HB := Lib.hid hb
  clear h1 h2 hb hgood
  go_enter Try.func63, Try.ntmps63
  go_wp2_with fail
  generalize w.alloc (.cells #[.slice a1 n1 c1, .slice a2 n2 c2] 33) = W0 at *
  refine (later_any a1 a2 n1 c1 n2 c2 l m W0 HG.out H1.out H2.out).mono ?_
  rintro e w3 ⟨gt, T, rfl, hge, hT, TT, b3⟩
  have HTT := Lib.hid TT
  have HLT : Hid (T.length = n1) := TT.len
  have HgT : W0.heap.size ≤ gt := hge
  have hbE := below_alloc w3 (.cells #[] 3)
  have HS0 : Hid (UpI W0.heap.size W0 (w3.alloc (.cells #[] 3)) gt n1 T (.slice (some ⟨w3.heap.size, 0, none⟩) 0 0) (intsN [])) := by
    have hs3 := b3.size
    refine ⟨ownsRow_base (empty_own w3) hs3, b3.trans (hbE.mono hs3), hT.below hbE, ?_, by simp; omega⟩
    rcases hT.2 with h0 | ⟨bb, off, hp, hbb, hc⟩
    · exact .inl h0
    · injection hp with hp
      injection hp with h1 h2
      subst h1
      exact .inr ⟨by simp; omega, fun e => by have e' : w3.heap.size = gt := Option.some.inj e; omega⟩
  have HB3 := Lib.hid (HB.out.trans (b3.mono HB.out.size))
  have HK0 : Hid (Ok l m n1 [] 0) := ok_start HL1.out
  clear hT TT b3 hge hbE hf hf2
  go_wp2_with fail
  generalize w3.alloc (.cells #[] 3) = W4 at *
  go_loopw [4, 5] (fun s3 s4 wr => ∃ (O : List Nat) (d : Nat), s4 = .int .i64 d ∧ lenOf s3 = O.length ∧ Hid (Ok l m n1 O d) ∧ Hid (UpI W0.heap.size W0 wr gt n1 T s3 (intsN O))) (fun s3 _ _ => n1 - lenOf s3)
  case atStart => exact ⟨[], 0, rfl, rfl, HK0, HS0⟩
  case round =>
    clear HS0 HK0
    obtain ⟨O, d, rfl, hlen, HO, HU⟩ := hrel
    have hown := HU.out.own
    obtain ⟨p, dd, rfl⟩ := From.own_form hown
    have hil : (intsN O).length = O.length := by unfold intsN; simp
    have hU := HU.out
    rw [hil] at hown hlen hU ⊢
    have HOW := Lib.hid hown
    have HU := Lib.hid hU
    clear hown hU
    by_cases hlt : O.length < n1
    · have hin : (O.length : Int) < (n1 : Int) := by omega
      have hd10 := bd hn10 HO.out.2.2.2
      go_wp2_with fail
      obtain ⟨w5, hw5⟩ : ∃ w5, w5 = wr := ⟨_, rfl⟩
      subst hw5
      go_loopw [6, 7] (fun s6 s7 wx => ∃ i : Nat, i ≤ n1 ∧ s7 = .int .i64 i ∧ wx = w5 ∧ ((s6 = .int .i64 (-1) ∧ Hid (∀ j y, j < i → (keys l)[j]? = some y → rdy (later m) (keys l) (dn l d) y = false)) ∨ (∃ (i0 : Nat) (x y : Int), s6 = .int .i64 i0 ∧ i0 < n1 ∧ l[i0]? = some (x, y) ∧ Hid ((keys l).find? (rdy (later m) (keys l) (dn l d)) = some x)))) (fun _ s7 _ => n1 - (intOf s7).toNat)
      case atStart => exact ⟨0, Nat.zero_le _, rfl, rfl, .inl ⟨rfl, fun j y hj _ => by omega⟩⟩
      case round =>
        obtain ⟨i, hile, rfl, hww, hcase⟩ := hrel
        subst hww
        rcases hcase with ⟨rfl, HP⟩ | ⟨i0, x, y, rfl, hi0n, hx0, HF⟩
        · by_cases hlt2 : i < n1
          · have hin2 : (i : Int) < (n1 : Int) := by omega
            have hi00 : (0 : Int) ≤ (i : Int) := by omega
            obtain ⟨q, hq⟩ : ∃ q, l[i]? = some q := ⟨_, List.getElem?_eq_getElem (by rw [HL1.out]; exact hlt2)⟩
            obtain ⟨x, y⟩ := q
            have hxi := num_at HG.out hq
            have HXI := Lib.hid hxi
            have HQ := Lib.hid hq
            have hb0 := l4Bit_any d i hd10 (by omega)
            rw [← dn_at (d := d) hxi] at hb0
            have HB0 := Lib.hid hb0
            have HR0 := Lib.hid (rdk_zero (later m) (keys l) (dn l d) x)
            clear hxi hq hb0
            go_wp2_with fail
            refine (HB0.out _).mono ?_
            rintro e w9 ⟨rfl, hw9⟩
            have hw9' := hw9.symm
            subst hw9'
            clear hw9
            go_wp2_with fail
            obtain ⟨w6, hw6⟩ : ∃ w6, w6 = wr := ⟨_, rfl⟩
            subst hw6
            rw [← HR0.out]
            go_loopw [8, 9] (fun s8 s9 wx => ∃ k : Nat, k ≤ n1 ∧ s9 = .int .i64 k ∧ wx = w6 ∧ s8 = .bool (rdk (later m) (keys l) (dn l d) x k)) (fun _ s9 _ => n1 - (intOf s9).toNat)
            case atStart => exact ⟨0, Nat.zero_le _, rfl, rfl, rfl⟩
            case round =>
              obtain ⟨k, hkle, rfl, hww, rfl⟩ := hrel
              subst hww
              by_cases hlk : k < n1
              · have hkn : (k : Int) < (n1 : Int) := by omega
                have hk00 : (0 : Int) ≤ (k : Int) := by omega
                obtain ⟨q, hq⟩ : ∃ q, l[k]? = some q := ⟨_, List.getElem?_eq_getElem (by rw [HL1.out]; exact hlk)⟩
                obtain ⟨z, zy⟩ := q
                have hzk := num_at HG.out hq
                have HN := Lib.hid (rdk_next (rel := later m) (D := dn l d) (n := x) (keys_at hq))
                have ht := List.getElem?_eq_getElem (show k < T.length by rw [HLT.out]; exact hlk)
                generalize T[k]'_ = t at *
                have ht10 := bd hn10 (HTT.out.bd k t ht)
                have z1 := HU.out.row hlk ht
                have B1 := Lib.hid (fun W => (tbit HG.out HL1.out HTT.out hzk HXI.out ht) ▸ l4Bit_any t i ht10 (by omega) W)
                have hbk := l4Bit_any d k hd10 (by omega)
                rw [← dn_at (d := d) hzk] at hbk
                have B2 := Lib.hid hbk
                clear hq hzk ht hbk
                go_wp2_with fail
                refine (B1.out _).mono ?_
                rintro e w9 ⟨rfl, hw9⟩
                have hw9' := hw9.symm
                subst hw9'
                clear hw9
                cases h1 : later m z x with
                | true =>
                  have H1T := Lib.hid h1
                  clear h1
                  go_wp2_with fail
                  refine (B2.out _).mono ?_
                  rintro e w9 ⟨rfl, hw9⟩
                  have hw9' := hw9.symm
                  subst hw9'
                  clear hw9
                  cases h2 : dn l d z with
                  | true =>
                    have HNN : Hid (rdk (later m) (keys l) (dn l d) x (k + 1) = rdk (later m) (keys l) (dn l d) x k) := by unfold Hid; rw [HN.out, H1T.out, h2]; simp
                    clear h2
                    go_wp2_with fail
                    exact ⟨⟨k + 1, by omega, by go_num, by first | rfl | trivial, by rw [HNN.out]⟩, by simp [intOf]; omega⟩
                  | false =>
                    have HNN : Hid (rdk (later m) (keys l) (dn l d) x (k + 1) = false) := by unfold Hid; rw [HN.out, H1T.out, h2]; simp
                    clear h2
                    go_wp2_with fail
                    exact ⟨⟨k + 1, by omega, by go_num, by first | rfl | trivial, by rw [HNN.out]⟩, by simp [intOf]; omega⟩
                | false =>
                  have HNN : Hid (rdk (later m) (keys l) (dn l d) x (k + 1) = rdk (later m) (keys l) (dn l d) x k) := by unfold Hid; rw [HN.out, h1]; simp
                  clear h1
                  go_wp2_with fail
                  exact ⟨⟨k + 1, by omega, by go_num, by first | rfl | trivial, by rw [HNN.out]⟩, by simp [intOf]; omega⟩
              · obtain rfl : k = n1 := by omega
                have hkn : ¬ (k : Int) < (k : Int) := by omega
                have hend : rdk (later m) (keys l) (dn l d) x k = rdy (later m) (keys l) (dn l d) x := by
                  have h := rdk_end (later m) (keys l) (dn l d) x
                  rw [keys_len, HL1.out] at h
                  exact h
                rw [hend]
                clear hend
                cases hr : rdy (later m) (keys l) (dn l d) x with
                | true =>
                  have HF := Lib.hid (find_at HP.out (keys_at HQ.out) hr)
                  clear hr
                  go_wp2_with fail
                  exact ⟨⟨i + 1, by omega, by go_num, by first | rfl | trivial, .inr ⟨i, x, y, rfl, hlt2, HQ.out, HF⟩⟩, by simp [intOf]; omega⟩
                | false =>
                  have HP2 : Hid (∀ j y, j < i + 1 → (keys l)[j]? = some y → rdy (later m) (keys l) (dn l d) y = false) := fun j y2 hj hy => by
                    by_cases e : j = i
                    · subst e
                      rw [keys_at HQ.out] at hy
                      injection hy with hy
                      rw [← hy]
                      exact hr
                    · exact HP.out j y2 (by omega) hy
                  clear hr
                  go_wp2_with fail
                  exact ⟨⟨i + 1, by omega, by go_num, by first | rfl | trivial, .inl ⟨rfl, HP2⟩⟩, by simp [intOf]; omega⟩
          · obtain rfl : i = n1 := by omega
            have hin2 : ¬ (i : Int) < (i : Int) := by omega
            have HE := Lib.hid (ok_stop HO.out (find_no (by rw [keys_len, HL1.out]; exact HP.out)))
            have HBD := Lib.hid (HB.out.trans (HU.out.bel.mono HB.out.size))
            have HIN := Lib.hid HO.out.2.2.1
            have hO10 := HO.out.2.1
            clear HU HO HP
            go_wp2_with fail
            go_ret
            exact ⟨_, _, _, O, rfl, ownsRow_base HOW.out HB.out.size, by omega, HE.out, HIN.out, HBD.out⟩
        · by_cases hlt2 : i < n1
          · have hin2 : (i : Int) < (n1 : Int) := by omega
            have hi01 : ¬ ((i0 : Int) < 0) := by omega
            have hpn := pow_lt hi0n hn10
            have hor := shl_or d i0 hd10 hpn
            have HOR := Lib.hid hor
            have hi00 : ¬ ((i0 : Int) < 0) := by omega
            have HOK := Lib.hid (ok_next HG.out HO.out hlt hi0n hx0 HF.out)
            have hown := HOW.out
            have HU2 := HU
            clear hor hx0 HF
            go_wp2_with (at_builtin; refine wpList_append_lies _ rfl _ _ 27 rfl W0.heap.size 3 ti (.int .i64 0) 1 8 Try.underlying27 hi hy0 hy1 hy2 rfl (by decide) _ _ _ rfl (hown.alloc _) ⟨wr.heap.size, 0, none⟩ 1 1 [.int .i64 i0] rfl rfl (cell_one_new _ _ _) (by simp [Value.oneCell']) (by decide) (by unfold maxLen; omega) (by omega) (by have := HU2.out.sz; simp; omega) _ rfl ?_; intro g9 cap9 w9 hown9 hgrow9 hat9 hlt9; have HU9 := Lib.hid (upi_app HU2.out (below_alloc _ _) hown9 hgrow9 hat9 (by simp)); clear hown9 hgrow9 hat9 hlt9)
            rw [HOR.out]
            exact ⟨⟨O ++ [i0], d ||| 2 ^ i0, rfl, by simp [lenOf], HOK, HU9⟩, by simp [lenOf] at *; omega⟩
          · have hin2 : ¬ (i : Int) < (n1 : Int) := by omega
            have hpn := pow_lt hi0n hn10
            have hor := shl_or d i0 hd10 hpn
            have HOR := Lib.hid hor
            have hi00 : ¬ ((i0 : Int) < 0) := by omega
            have HOK := Lib.hid (ok_next HG.out HO.out hlt hi0n hx0 HF.out)
            have hown := HOW.out
            have HU2 := HU
            clear hor hx0 HF
            go_wp2_with (at_builtin; refine wpList_append_lies _ rfl _ _ 27 rfl W0.heap.size 3 ti (.int .i64 0) 1 8 Try.underlying27 hi hy0 hy1 hy2 rfl (by decide) _ _ _ rfl (hown.alloc _) ⟨wr.heap.size, 0, none⟩ 1 1 [.int .i64 i0] rfl rfl (cell_one_new _ _ _) (by simp [Value.oneCell']) (by decide) (by unfold maxLen; omega) (by omega) (by have := HU2.out.sz; simp; omega) _ rfl ?_; intro g9 cap9 w9 hown9 hgrow9 hat9 hlt9; have HU9 := Lib.hid (upi_app HU2.out (below_alloc _ _) hown9 hgrow9 hat9 (by simp)); clear hown9 hgrow9 hat9 hlt9)
            rw [HOR.out]
            exact ⟨⟨O ++ [i0], d ||| 2 ^ i0, rfl, by simp [lenOf], HOK, HU9⟩, by simp [lenOf] at *; omega⟩
    · have hin : ¬ (O.length : Int) < (n1 : Int) := by omega
      have HE := Lib.hid (ok_full HO.out hlt)
      have HBD := Lib.hid (HB.out.trans (HU.out.bel.mono HB.out.size))
      have HIN := Lib.hid HO.out.2.2.1
      have hO10 := HO.out.2.1
      clear HU HO
      go_wp2_with fail
      go_ret
      exact ⟨_, _, _, O, rfl, ownsRow_base HOW.out HB.out.size, by omega, HE.out, HIN.out, HBD.out⟩
theorem numsO_len (l : Ps) (O : List Nat) : (numsO l O).length = O.length := by unfold numsO; simp
theorem g1_app {B : Nat} {W wr X w9 : World} {v : Value} {L : List Int} {x : Int} {g9 cap9 : Nat} (h : That.G1 B W wr v L) (hs : B ≤ wr.heap.size) (hX : Below wr.heap.size wr X)
    (hown' : w9.ownsRow B 3 1 (.slice (some ⟨g9, 0, none⟩) (L.length + 1) cap9) (L.length + 1) (ints L ++ [.int .i64 x])) (hgrow : X.grownBy w9 v.ownBlock) : That.G1 B W w9 (.slice (some ⟨g9, 0, none⟩) (L.length + 1) cap9) (L ++ [x]) := by
  have hsx := hX.size
  refine ⟨?_, (h.2.trans (hX.mono hs)).grown hgrow (by omega) (fun j hj => (h.1.lt j hj).1)⟩
  rw [List.length_append, ints_append]
  exact hown'
set_option maxRecDepth 100000 in
set_option maxHeartbeats 8000000 in
theorem l4Numbers_any (a1 a2 : Option Addr) (n1 c1 n2 c2 : Nat) (l : List (Int × Int)) (p : Option Addr) (kL dL : Nat) (O : List Nat) (w : World) (hk10 : kL ≤ 10) (h1 : Holds w a1 n1 l) (hO : ∀ i ∈ O, i < n1) (hL : HoldsI w p kL (intsN O)) :
    Calls Try.prog 62 #[.agg #[.slice a1 n1 c1, .slice a2 n2 c2], .slice p kL dL] w (ResL (numsO l O) w) := by
  obtain ⟨ti, hi, hy0, hy1, hy2⟩ := Rec.info_parts That.infoInt
  have hb := below_alloc w (.cells #[.slice a1 n1 c1, .slice a2 n2 c2] 33)
  have hf := box_first w (.slice a1 n1 c1) (.slice a2 n2 c2) 33
  have hsz : w.heap.size < (w.alloc (.cells #[.slice a1 n1 c1, .slice a2 n2 c2] 33)).heap.size := by simp
  have hWe : (w.alloc (.cells #[.slice a1 n1 c1, .slice a2 n2 c2] 33)).heap.size = w.heap.size + 1 := by simp
  have H1 := Lib.hid (h1.below hb)
  have HL1 := Lib.hid h1.1
  have HLI := Lib.hid (hL.below hb)
  have HON := Lib.hid hO
  have hOl : O.length = kL := by have := hL.1; unfold intsN at this; simpa using this
  have HOL := Lib.hid hOl
  have HB := Lib.hid hb
  have HWE := Lib.hid hWe
  clear h1 hb hL hO hOl hWe
  go_enter Try.func62, Try.ntmps62
  go_wp2_with fail
  generalize w.alloc (.cells #[.slice a1 n1 c1, .slice a2 n2 c2] 33) = W0 at *
  have he0 := below_alloc W0 (.cells #[] 3)
  have ho0 := empty_own (T := 3) W0
  have HG0 : Hid (That.G1 W0.heap.size W0 (W0.alloc (.cells #[] 3)) (.slice (some ⟨w.heap.size + 1, 0, none⟩) 0 0) (numsO l (O.take 0))) := by
    rw [← HWE.out]
    exact ⟨ho0, he0⟩
  have HF := Lib.hid hf
  clear ho0 he0 hf
  generalize W0.alloc (.cells #[] 3) = W1 at *
  go_loopw [5, 6] (fun s5 s6 wr => ∃ k : Nat, k ≤ kL ∧ s6 = .int .i64 k ∧ Hid (That.G1 W0.heap.size W0 wr s5 (numsO l (O.take k)))) (fun _ s6 _ => kL - (intOf s6).toNat)
  case atStart => exact ⟨0, Nat.zero_le _, rfl, HG0⟩
  case round =>
    clear HG0
    obtain ⟨k, hk, rfl, HR⟩ := hrel
    by_cases hlt : k < kL
    · have hkn : (k : Int) < (kL : Int) := by omega
      have hk00 : (0 : Int) ≤ (k : Int) := by omega
      obtain ⟨bb, oo, zz, rfl, hzz, e3⟩ := (HLI.out.below HR.out.2).at k hlt
      obtain ⟨i, hOi, rfl⟩ := row_at hzz
      have hin := HON.out i (List.mem_of_getElem? hOi)
      have hini : (i : Int) < (n1 : Int) := by omega
      have hi00 : (0 : Int) ≤ (i : Int) := by omega
      obtain ⟨b, off, x, y, rfl, hx, e1, e2⟩ := (H1.out.below HR.out.2).at i hin
      have u1 := (HR.out.2.cell (p := ⟨w.heap.size, 0, none⟩) hsz).trans HF.out
      have HX := Lib.hid (nums_at hOi hx)
      have hnl : (numsO l (O.take k)).length ≤ 10 := by rw [numsO_len, List.length_take]; omega
      have hown := HR.out.1
      have HRB := Lib.hid HR.out.2
      have hsr := HR.out.2.size
      have HSS : Hid (∀ X, Below W0.heap.size W0 X → X.cell? ⟨w.heap.size, 0, none⟩ = some (.slice (some ⟨b, off, none⟩) n1 c1) ∧ X.cell? ⟨bb, oo + k, none⟩ = some (.int .i64 (i : Int)) ∧ X.cell? ⟨b, off + i * 2, none⟩ = some (.int .i64 x)) := fun X hX => by
        obtain ⟨b1, off1, x1, y1, hp1, hx1, f1, _⟩ := H1.out.at i hin
        injection hp1 with hp1
        injection hp1 with hp1 hp2
        subst hp1 hp2
        rw [hx] at hx1
        injection hx1 with hx1
        injection hx1 with hx1 _
        subst hx1
        obtain ⟨b2, o2, z2, hq1, hz2, f2⟩ := HLI.out.at k hlt
        injection hq1 with hq1
        injection hq1 with hq1 hq2
        subst hq1 hq2
        rw [hzz] at hz2
        injection hz2 with hz2
        subst hz2
        exact ⟨(hX.cell (p := ⟨w.heap.size, 0, none⟩) hsz).trans HF.out, (hX.cell (World.block_lt_of_cell? W0 _ f2)).trans f2, (hX.cell (World.block_lt_of_cell? W0 _ f1)).trans f1⟩
      have HR1 := Lib.hid HR.out
      have hBs : W0.heap.size ≤ wr.heap.size := by omega
      clear hzz hOi hx HR
      go_wp2_with fail
      go_region_held3 (fun X => X.cell? ⟨w.heap.size, 0, none⟩ = some (.slice (some ⟨b, off, none⟩) n1 c1) ∧ X.cell? ⟨bb, oo + k, none⟩ = some (.int .i64 (i : Int)) ∧ X.cell? ⟨b, off + i * 2, none⟩ = some (.int .i64 x))
        (first | exact s9 | (refine HSS.out _ (HRB.out.trans (Below.mono ?_ hBs)); (repeat (first | exact Below.refl _ _ | refine Lows.belA ?_ _ | refine Below.drew ?_)); done))
        (first
          | (refine step_append_lies _ (by rfl) _ _ _ (by rfl) (W0.heap.size) 3 ti _ 1 8 Try.underlying27 hi hy0 hy1 hy2 rfl (by omega) u5 _ _ (by rfl) (by first | exact hown.alloc _ | exact (hown.drew).alloc _) ⟨wr.heap.size, 0, none⟩ 1 1 [.int .i64 x] (by rfl) (by rfl) (by first | exact Lows.one_drew _ _ _ | exact Lows.one_new _ _ _) (by simp [Value.oneCell']) (by omega) (by unfold maxLen; omega) (by omega) (by simp; omega) (wr.heap.size + 1) (by simp) ?_; intro g9 cap9 w9 hown9 hgrow9 hat9 hlt9; have T9 := Lib.hid (g1_app HR1.out hBs (by (repeat (first | exact Below.refl _ _ | refine Lows.belA ?_ _ | refine Below.drew ?_)); done) hown9 hgrow9); have s9 := HSS.out w9 T9.out.2)
          | fail)
      all_goals go_wp2_with fail
      all_goals exact ⟨⟨k + 1, by omega, by go_num, by unfold Hid; rw [HX.out]; exact T9.out⟩, by simp [intOf]; omega⟩
    · obtain rfl : k = kL := by omega
      have hkn : ¬ (k : Int) < (k : Int) := by omega
      have hown := HR.out.1
      rw [List.take_of_length_le (by rw [HOL.out]; exact Nat.le_refl _)] at hown
      have hfl := numsO_len l O
      rw [HOL.out] at hfl
      have HBD := Lib.hid (HB.out.trans (HR.out.2.mono HB.out.size))
      have HO := Lib.hid hown
      obtain ⟨p2, d2, rfl⟩ := From.own_form hown
      rw [hfl] at hown ⊢
      have HO2 := Lib.hid hown
      clear hown HO
      go_wp2_with fail
      go_ret
      exact ⟨_, _, _, rfl, ownsRow_base HO2.out HB.out.size, by omega, HBD.out⟩
set_option maxRecDepth 100000 in
set_option maxHeartbeats 8000000 in
theorem spec_any : GivesO.Gives 16 orderP := by
  intro a1 a2 n1 n2 l m w hz1 hz2 h1 h2
  have hb := below_alloc w (.cells #[.slice a1 n1 n1, .slice a2 n2 n2] 33)
  have hf := box_first w (.slice a1 n1 n1) (.slice a2 n2 n2) 33
  have hf2 := box_second w (.slice a1 n1 n1) (.slice a2 n2 n2) 33
  have hsz : w.heap.size < (w.alloc (.cells #[.slice a1 n1 n1, .slice a2 n2 n2] 33)).heap.size := by simp
  have H1 := Lib.hid (h1.below hb)
  have H2 := Lib.hid (h2.below hb)
  clear h1 h2
  go_enter Try.func16, Try.ntmps16
  go_wp2_with fail
  generalize w.alloc (.cells #[.slice a1 n1 n1, .slice a2 n2 n2] 33) = W at *
  refine (Good2.l2Good_any a1 a2 n1 n1 n2 n2 l m W H1.out H2.out).mono ?_
  rintro e w1 ⟨rfl, b1⟩
  have r1 := (b1.cell (p := ⟨w.heap.size, 0, none⟩) hsz).trans hf
  have r2 := (b1.cell (p := ⟨w.heap.size, 1, none⟩) hsz).trans hf2
  have hsz1 := Nat.lt_of_lt_of_le hsz b1.size
  have HB1 := Lib.hid (hb.trans (b1.mono hb.size))
  have K1 := Lib.hid (H1.out.below b1)
  have K2 := Lib.hid (H2.out.below b1)
  clear hf hf2 b1 hb
  cases hg : good l m with
  | false =>
    have HE := Lib.hid (ord_bad hg)
    clear hg
    go_wp2_with fail
    go_ret2
    rw [HE.out]
    exact ⟨_, _, _, rfl, ownsRow_base (empty_own w1) HB1.out.size, by omega, HB1.out.trans ((below_alloc _ _).mono HB1.out.size)⟩
  | true =>
    have HG := Lib.hid hg
    clear hg
    go_wp2_with fail
    refine (l4Consistent_any a1 a2 n1 n1 n2 n2 l m w1 HG.out K1.out K2.out).mono ?_
    rintro e w2 ⟨rfl, b2⟩
    have q1 := (b2.cell (p := ⟨w.heap.size, 0, none⟩) hsz1).trans r1
    have q2 := (b2.cell (p := ⟨w.heap.size, 1, none⟩) hsz1).trans r2
    have hsz2 := Nat.lt_of_lt_of_le hsz1 b2.size
    have HB2 := Lib.hid (HB1.out.trans (b2.mono HB1.out.size))
    have M1 := Lib.hid (K1.out.below b2)
    have M2 := Lib.hid (K2.out.below b2)
    clear r1 r2 b2
    cases hc : (l.any fun p => later m p.1 p.1) with
    | true =>
      have HE := Lib.hid (ord_cyc HG.out hc)
      clear hc
      go_wp2_with fail
      go_ret2
      rw [HE.out]
      exact ⟨_, _, _, rfl, ownsRow_base (empty_own w2) HB2.out.size, by omega, HB2.out.trans ((below_alloc _ _).mono HB2.out.size)⟩
    | false =>
      have HE := Lib.hid (ord_yes HG.out hc)
      clear hc
      go_wp2_with fail
      have HSS : Hid (∀ X, Below w2.heap.size w2 X → X.cell? ⟨w.heap.size, 0, none⟩ = some (.slice a1 n1 n1) ∧ X.cell? ⟨w.heap.size, 1, none⟩ = some (.slice a2 n2 n2)) := fun X hX => ⟨(hX.cell (p := ⟨w.heap.size, 0, none⟩) hsz2).trans q1, (hX.cell (p := ⟨w.heap.size, 1, none⟩) hsz2).trans q2⟩
      have hbdr := (Below.refl w2.heap.size w2).drew
      go_region_held3 (fun X => X.cell? ⟨w.heap.size, 0, none⟩ = some (.slice a1 n1 n1) ∧ X.cell? ⟨w.heap.size, 1, none⟩ = some (.slice a2 n2 n2))
        (first | exact s4 | exact s3 | (refine HSS.out _ ?_; (repeat (first | exact Below.refl _ _ | refine Lows.belA ?_ _ | refine Below.drew ?_)); done))
        (first
          | (go_at_call 63; refine (l4Order_any a1 a2 n1 n1 n2 n2 l m _ HG.out (M1.out.below hbdr) (M2.out.below hbdr)).mono ?_; rintro e w3 ⟨p, k, d, O, rfl, hown, hk, hnum, hin, b3⟩; have HB3 := Lib.hid (hbdr.trans b3); have s3 := HSS.out w3 HB3.out)
          | (go_at_call 62; refine (l4Numbers_any a1 a2 n1 n1 n2 n2 l p k d O w3 hk (M1.out.below HB3.out) hin (GivesI.holds_own hown)).mono ?_; rintro e w4 ⟨p4, k4, d4, rfl, hown4, hk4, b4⟩; have HB4 := Lib.hid (HB2.out.trans ((HB3.out.trans (b4.mono HB3.out.size)).mono HB2.out.size)); have s4 := HSS.out w4 (HB3.out.trans (b4.mono HB3.out.size)))
          | fail)
      have HOW4 := Lib.hid hown4
      have HNM := Lib.hid hnum
      have hsb := Nat.le_trans HB2.out.size HB3.out.size
      clear hown4 b4 hown hnum hin b3 s3 s4
      go_wp2_with fail
      go_ret2
      rw [HE.out]
      refine ⟨_, _, _, rfl, ?_, hk4, HB4.out⟩
      have h := ownsRow_base HOW4.out hsb
      rw [HNM.out] at h
      exact h
end Go.Proofs.Ytobnoiilnckmaaa.CtxOrdS
