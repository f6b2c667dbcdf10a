/- FnExactUnrelatedPairs: at every argument UnrelatedPairs answers as its model does, leaves its arguments as they were, and its answer is memory of its own. No condition. -/
import Derived.Test.YtaikphcemldikabUnrel
import Derived.Test.YtaikphcemldikabWUnrelatedPairs
import Derived.Test.YtaikphcemldikabFUnrelatedPairs
import Derived.Deep.RegionHeld3
namespace Go.Proofs.Ytaikphcemldikab.Unrel
open Go.RowKit Pairs Rec Chain Find2 GoodM Keep Lows Idx Table Bit GivesI
theorem tbit {l m : List (Int × Int)} {n1 : Nat} {L : List Nat} (hg : good l m = true) (hl : l.length = n1) (T : Tbl n1 L (W (Ed l m) n1)) {a b : Int} {i j x : Nat} (hi : isAt l a = some i) (hj : isAt l b = some j) (hx : L[i]? = some x) : x.testBit j = later m a b := by
  have h1 := T.bit i x j hx (by rw [← hl]; exact isAt_lt hj)
  rw [← hl, w_iff (good_ends hg) hi hj, ← later_iff] at h1
  cases e1 : x.testBit j <;> cases e2 : later m a b <;> simp_all
theorem row_at {L : List Nat} {i : Nat} {z : Int} (h : (intsN L)[i]? = some z) : ∃ x : Nat, L[i]? = some x ∧ z = (x : Int) := by
  unfold intsN at h
  rw [List.getElem?_map, Option.map_eq_some_iff] at h
  obtain ⟨x, hx, rfl⟩ := h
  exact ⟨x, hx, rfl⟩
theorem num_at {l m : List (Int × Int)} (hg : good l m = true) {x y : Int} {i : Nat} (hx : l[i]? = some (x, y)) : isAt l x = some i := by
  have hA := (good_asc hg).1
  have hil := (List.getElem?_eq_some_iff.1 hx).1
  have e : (isAt l x).isSome = true := isAt_keys.2 (List.mem_map.2 ⟨(x, y), List.mem_of_getElem? hx, rfl⟩)
  obtain ⟨j, hj⟩ := Option.isSome_iff_exists.1 e
  obtain ⟨y2, hy2⟩ := isAt_num hj
  rcases Nat.lt_trichotomy j i with h | h | h
  · have := hA.lt (i - j - 1) j (x, y2) (x, y) hy2 (by rw [show j + (i - j - 1) + 1 = i by omega]; exact hx)
    simp at this
  · rw [hj, h]
  · have := hA.lt (j - i - 1) i (x, y) (x, y2) hx (by rw [show i + (j - i - 1) + 1 = j by omega]; exact hy2)
    simp at this
theorem holdsI_grown {w w' : World} {g r n : Nat} {L : List Int} (h : HoldsI w (some ⟨g, 0, none⟩) n L) (hlt : g < w.heap.size) (hg : w.grownBy w' (some r)) (hne : g ≠ r) : HoldsI w' (some ⟨g, 0, none⟩) n L := by
  refine ⟨h.1, ?_⟩
  rcases h.2 with h0 | ⟨b, off, hp, hb, hc⟩
  · exact .inl h0
  · injection hp with hp
    injection hp with h1 h2
    subst h1 h2
    exact .inr ⟨g, 0, rfl, Nat.lt_of_lt_of_le hlt hg.size, fun i x hi => (World.cell?_of_block (w := w) (w' := w') (a := ⟨g, 0 + i, none⟩) (hg.block g hlt (fun e => hne (Option.some.inj e)))).trans (hc i x hi)⟩
def UpT (B : Nat) (W wr : World) (gt n : Nat) (T : List Nat) (v : Value) (L : Ps) : Prop :=
  Up B W wr v L ∧ HoldsI wr (some ⟨gt, 0, none⟩) n (intsN T) ∧ (n = 0 ∨ (gt < wr.heap.size ∧ v.ownBlock ≠ some gt)) ∧ B ≤ wr.heap.size
theorem UpT.row {B : Nat} {W wr : World} {gt n i t : Nat} {T : List Nat} {v : Value} {L : Ps} (h : UpT B W wr gt n T v L) (hi : i < n) (ht : T[i]? = some t) : wr.cell? ⟨gt, i, none⟩ = some (.int .i64 (t : Int)) := by
  obtain ⟨bb, oo, zz, hp, hzz, e3⟩ := h.2.1.at i hi
  obtain ⟨t', ht', rfl⟩ := row_at hzz
  obtain rfl : t' = t := by rw [ht] at ht'; exact (Option.some.inj ht').symm
  injection hp with hp
  injection hp with hp1 hp2
  subst hp1 hp2
  rw [Nat.zero_add] at e3
  exact e3
theorem UpT.app {B : Nat} {W wr X w9 : World} {gt n g9 cap9 : Nat} {T : List Nat} {v : Value} {L : Ps} {x u : Int} (h : UpT B W wr gt n T v L) (hX : Below wr.heap.size wr X)
    (hown' : w9.ownsRow B 75 2 (.slice (some ⟨g9, 0, none⟩) (L.length + 1) cap9) (L.length + 1) (flat L ++ [.int .i64 x, .int .i64 u])) (hgrow : X.grownBy w9 v.ownBlock) (hat : v.ownBlock = some g9 ∨ g9 = wr.heap.size + 1) :
    UpT B W w9 gt n T (.slice (some ⟨g9, 0, none⟩) (L.length + 1) cap9) (L ++ [(x, u)]) := by
  obtain ⟨⟨h1, h2⟩, h3, h4, h5⟩ := h
  have hs := hX.size
  have hs9 := hgrow.size
  refine ⟨⟨?_, ?_⟩, ?_, ?_, by omega⟩
  · rw [List.length_append, flat_append, flat_one]
    exact hown'
  · exact (h2.trans (hX.mono h5)).grown hgrow (by omega) (fun j hj => (h1.lt j hj).1)
  · rcases h4 with h0 | ⟨h6, h7⟩
    · exact ⟨h3.1, .inl h0⟩
    · obtain ⟨p1, p2⟩ := h3.below hX
      refine ⟨p1, ?_⟩
      rcases p2 with h0 | ⟨b, off, hp, hb, hc⟩
      · exact .inl h0
      · injection hp with hp
        injection hp with q1 q2
        subst q1 q2
        exact .inr ⟨gt, 0, rfl, by omega, fun i x hi => (World.cell?_of_block (w := X) (w' := w9) (a := ⟨gt, 0 + i, none⟩) (hgrow.block gt (by omega) (fun e => h7 e.symm))).trans (hc i x hi)⟩
  · rcases h4 with h0 | ⟨h6, h7⟩
    · exact .inl h0
    · refine .inr ⟨by omega, fun e => ?_⟩
      have e' : g9 = gt := Option.some.inj e
      rcases hat with h | h
      · rw [e'] at h
        exact h7 h
      · omega
theorem two_new (X : World) (x y : Value) (T : TypeId) : ∀ j u, [x, y][j]? = some u → (X.alloc (.cells #[x, y] T)).drew.cell? ((⟨X.heap.size, 0, none⟩ : Addr).add j) = some u := cell_two_new X x y T
set_option maxRecDepth 100000 in
set_option maxHeartbeats 8000000 in
theorem spec_any : GivesA.Gives 19 pairsP := by
  intro a1 a2 n1 n2 l m w hz1 hz2 h1 h2
  obtain ⟨i0, hi, hy0, hy1, hy2⟩ := Rec.info_parts infoA
  have hb := below_alloc w (.cells #[.slice a1 n1 n1, .slice a2 n2 n2] 33)
  have hf := box_first w (.slice a1 n1 n1) (.slice a2 n2 n2) 33
  have hf2 := box_second w (.slice a1 n1 n1) (.slice a2 n2 n2) 33
  have H1 := Lib.hid (h1.below hb)
  have H2 := Lib.hid (h2.below hb)
  have HL1 := Lib.hid h1.1
  have hsz : w.heap.size < (w.alloc (.cells #[.slice a1 n1 n1, .slice a2 n2 n2] 33)).heap.size := by simp
  have hWe : (w.alloc (.cells #[.slice a1 n1 n1, .slice a2 n2 n2] 33)).heap.size = w.heap.size + 1 := by simp
  have HWE := Lib.hid hWe
  have HB := Lib.hid hb
  clear h1 h2 hWe hb
  go_enter Try.func19, Try.ntmps19
  go_wp2_with fail
  generalize w.alloc (.cells #[.slice a1 n1 n1, .slice a2 n2 n2] 33) = W0 at *
  have he0 := below_alloc W0 (.cells #[] 75)
  have ho0 : (W0.alloc (.cells #[] 75)).ownsRow W0.heap.size 75 2 (.slice (some ⟨w.heap.size + 1, 0, none⟩) 0 0) 0 [] := by have h := empty_own W0; rw [HWE.out] at h ⊢; exact h
  have hS1 : (W0.alloc (.cells #[] 75)).heap.size = w.heap.size + 2 := by simp [HWE.out]
  have g1 := (he0.cell (p := ⟨w.heap.size, 0, none⟩) hsz).trans hf
  have g2 := (he0.cell (p := ⟨w.heap.size, 1, none⟩) hsz).trans hf2
  have HO0 := Lib.hid ho0
  have HE0 := Lib.hid he0
  have HBE := Lib.hid (HB.out.trans (he0.mono HB.out.size))
  have K1 := Lib.hid (H1.out.below he0)
  have K2 := Lib.hid (H2.out.below he0)
  have HF := Lib.hid hf
  clear ho0 he0 hf hf2
  generalize W0.alloc (.cells #[] 75) = E at *
  refine (Good2.l2Good_any a1 a2 n1 n1 n2 n2 l m E K1.out K2.out).mono ?_
  rintro e w2 ⟨rfl, b2⟩
  have q1 := (b2.cell (p := ⟨w.heap.size, 0, none⟩) (by show w.heap.size < _; omega)).trans g1
  have q2 := (b2.cell (p := ⟨w.heap.size, 1, none⟩) (by show w.heap.size < _; omega)).trans g2
  have hs2 := b2.size
  have B2 := Lib.hid b2
  clear g1 g2 b2
  cases hg : good l m with
  | false =>
    have HE := Lib.hid (pairs_no hg)
    clear hg
    go_wp2_with fail
    go_ret2
    rw [HE.out]
    exact ⟨_, _, _, rfl, ownsRow_base (ownsRow_below HO0.out B2.out) HB.out.size, by omega, HBE.out.trans (B2.out.mono HBE.out.size)⟩
  | true =>
    have HE := Lib.hid (pairs_yes hg)
    have HG := Lib.hid hg
    have hn10 : n1 ≤ 10 := by rw [← HL1.out]; exact (Table.good_few hg).1
    clear hg
    go_wp2_with fail
    refine (later_any a1 a2 n1 n1 n2 n2 l m w2 HG.out (K1.out.below B2.out) (K2.out.below B2.out)).mono ?_
    rintro e w3 ⟨gt, T, rfl, hge, hT, TT, b3⟩
    have HTT := Lib.hid TT
    have hge2 : w2.heap.size ≤ gt := hge
    have hs3 := b3.size
    have HS0 : Hid (UpT W0.heap.size W0 w3 gt n1 T (.slice (some ⟨w.heap.size + 1, 0, none⟩) 0 0) (prs l m 0)) := by
      refine ⟨⟨ownsRow_below (ownsRow_below HO0.out B2.out) b3, HE0.out.trans ((B2.out.trans (b3.mono B2.out.size)).mono HE0.out.size)⟩, hT, ?_, by rw [HWE.out]; omega⟩
      rcases hT.2 with h0 | ⟨bb, off, hp, hbb, _⟩
      · exact .inl h0
      · injection hp with hp
        injection hp with h1 h2
        exact .inr ⟨by rw [h1]; exact hbb, fun e => by have e' : w.heap.size + 1 = gt := Option.some.inj e; omega⟩
    have HLT : Hid (T.length = n1) := TT.len
    have HU : Hid (∀ wr, Below W0.heap.size W0 wr → wr.cell? ⟨w.heap.size, 0, none⟩ = some (.slice a1 n1 n1)) := fun wr hwr => (hwr.cell (p := ⟨w.heap.size, 0, none⟩) hsz).trans HF.out
    clear TT b3 q1 q2 hge hT hge2
    go_wp2_with fail
    go_loopw [4, 6] (fun s4 s6 wr => ∃ i : Nat, i ≤ n1 ∧ s6 = .int .i64 i ∧ Hid (UpT W0.heap.size W0 wr gt n1 T s4 (prs l m i))) (fun _ s6 _ => n1 - (intOf s6).toNat)
    case atStart => exact ⟨0, Nat.zero_le _, rfl, HS0⟩
    case round =>
      obtain ⟨i, hile, rfl, HS⟩ := hrel
      clear HS0
      by_cases hlt : i < n1
      · have hin : (i : Int) < (n1 : Int) := by omega
        have hi0 : (0 : Int) ≤ (i : Int) := by omega
        obtain ⟨b, off, x, y, rfl, hx, e1, e2⟩ := H1.out.at i hlt
        have HX := Lib.hid hx
        have HXI := Lib.hid (num_at HG.out hx)
        have HC := Lib.hid (fun (wr : World) (hwr : Below W0.heap.size W0 wr) => (hwr.cell (World.block_lt_of_cell? W0 _ e1)).trans e1)
        have ht := List.getElem?_eq_getElem (show i < T.length by rw [HLT.out]; exact hlt)
        generalize T[i]'_ = t at *
        have HTI := Lib.hid ht
        have ht10 := bd hn10 (HTT.out.bd i t ht)
        have HS1 : Hid (UpT W0.heap.size W0 wr gt n1 T u4 (prs l m i ++ rowk l m i (i + 1))) := by unfold Hid; rw [row_start, List.append_nil]; exact HS.out
        clear hx e1 e2 ht HS
        go_wp2_with fail
        go_loopw [4, 7] (fun s4 s7 wx => ∃ k : Nat, i + 1 ≤ k ∧ k ≤ n1 ∧ s7 = .int .i64 k ∧ Hid (UpT W0.heap.size W0 wx gt n1 T s4 (prs l m i ++ rowk l m i k))) (fun _ s7 _ => n1 - (intOf s7).toNat)
        case atStart => exact ⟨i + 1, Nat.le_refl _, by omega, by go_num, HS1⟩
        case round =>
          obtain ⟨k, hik, hkn1, rfl, HV⟩ := hrel
          clear HS1
          by_cases hlk : k < n1
          · have hkn : (k : Int) < (n1 : Int) := by omega
            have hk0 : (0 : Int) ≤ (k : Int) := by omega
            obtain ⟨b', off', u, v, hp, hx2, e1, e2⟩ := H1.out.at k hlk
            injection hp with hp
            injection hp with hp1 hp2
            subst hp1 hp2
            have HC2 := Lib.hid (fun (wr : World) (hwr : Below W0.heap.size W0 wr) => (hwr.cell (World.block_lt_of_cell? W0 _ e1)).trans e1)
            have HR := Lib.hid (row_next (m := m) HX.out hik hx2)
            have hxk := num_at HG.out hx2
            have ht2 := List.getElem?_eq_getElem (show k < T.length by rw [HLT.out]; exact hlk)
            generalize T[k]'_ = t2 at *
            have ht210 := bd hn10 (HTT.out.bd k t2 ht2)
            have z1 := HV.out.row hlt HTI.out
            have z2 := HV.out.row hlk ht2
            have B1 := Lib.hid (fun W => (tbit HG.out HL1.out HTT.out HXI.out hxk HTI.out) ▸ l4Bit_any t k ht10 (by omega) W)
            have B3 := Lib.hid (fun W => (tbit HG.out HL1.out HTT.out hxk HXI.out ht2) ▸ l4Bit_any t2 i ht210 (by omega) W)
            have hlen := all_len (l := l) (m := m) (by rw [HL1.out]; exact hn10) (show i ≤ l.length by rw [HL1.out]; exact hile) k
            clear hx2 e1 e2 hxk ht2
            go_wp2_with fail
            refine (B1.out _).mono ?_
            rintro e w9 ⟨rfl, hw9⟩
            have hw9' := hw9.symm
            subst hw9'
            clear hw9
            cases h1 : later m x u with
            | true =>
              have HF2 : Hid (rowk l m i (k + 1) = rowk l m i k) := by unfold Hid; rw [HR.out, if_neg (by unfold unr; rw [h1]; simp), List.append_nil]
              clear h1 HR
              go_wp2_with fail
              exact ⟨⟨k + 1, by omega, by omega, by go_num, by unfold Hid; rw [HF2.out]; exact HV.out⟩, by simp [intOf]; omega⟩
            | false =>
              have H1F := Lib.hid h1
              clear h1
              go_wp2_with fail
              refine (B3.out _).mono ?_
              rintro e w9 ⟨rfl, hw9⟩
              have hw9' := hw9.symm
              subst hw9'
              clear hw9
              cases h2 : later m u x with
              | true =>
                have HF2 : Hid (rowk l m i (k + 1) = rowk l m i k) := by unfold Hid; rw [HR.out, if_neg (by unfold unr; rw [h2]; simp), List.append_nil]
                clear h2 HR
                go_wp2_with fail
                exact ⟨⟨k + 1, by omega, by omega, by go_num, by unfold Hid; rw [HF2.out]; exact HV.out⟩, by simp [intOf]; omega⟩
              | false =>
                have hF2 : prs l m i ++ rowk l m i (k + 1) = (prs l m i ++ rowk l m i k) ++ [(x, u)] := by rw [HR.out, if_pos (by unfold unr; rw [h2, H1F.out]; rfl), List.append_assoc]
                clear h2 HR
                have hV := HV.out
                generalize prs l m i ++ rowk l m i k = LL at hV hlen hF2
                have HV2 := Lib.hid hV
                have HF2 := Lib.hid hF2
                clear hF2 hV HV
                have HS3 : Hid (∀ X, Below wr.heap.size wr X → X.cell? ⟨w.heap.size, 0, none⟩ = some (.slice (some ⟨b, off, none⟩) n1 n1) ∧ X.cell? ⟨b, off + i * 2, none⟩ = some (.int .i64 x) ∧ X.cell? ⟨b, off + k * 2, none⟩ = some (.int .i64 u)) := fun X hX => by
                  have h := HV2.out.1.2.trans (hX.mono HV2.out.2.2.2)
                  exact ⟨HU.out X h, HC.out X h, HC2.out X h⟩
                have hbs := HV2.out.2.2.2
                go_wp2_with fail
                go_region_held3 (fun X => X.cell? ⟨w.heap.size, 0, none⟩ = some (.slice (some ⟨b, off, none⟩) n1 n1) ∧ X.cell? ⟨b, off + i * 2, none⟩ = some (.int .i64 x) ∧ X.cell? ⟨b, off + k * 2, none⟩ = some (.int .i64 u))
                  (first | exact s9 | (refine HS3.out _ ?_; (repeat (first | exact Below.refl _ _ | refine Lows.belA ?_ _ | refine Below.drew ?_)); done))
                  (first
                    | (refine step_append_lies _ (by rfl) _ _ _ (by rfl) (W0.heap.size) 75 i0 _ 2 16 Try.underlying42 hi hy0 hy1 hy2 rfl (by omega) u4 _ _ (by rfl) (by first | exact HV2.out.1.1.alloc _ | exact (HV2.out.1.1.drew).alloc _) ⟨wr.heap.size, 0, none⟩ 1 1 [.int .i64 x, .int .i64 u] (by rfl) (by rfl) (by first | exact two_new _ _ _ _ | exact cell_two_new _ _ _ _) (by simp [Value.oneCell']) (by omega) (by unfold maxLen; omega) (by omega) (by simp; omega) (wr.heap.size + 1) (by simp) ?_; intro g9 cap9 w9 hown9 hgrow hat9 hlt9; have T9 := Lib.hid (HV2.out.app (x := x) (u := u) (by (repeat (first | exact Below.refl _ _ | refine Lows.belA ?_ _ | refine Below.drew ?_)); done) hown9 hgrow hat9); have s9 := And.intro (HU.out w9 T9.out.1.2) (And.intro (HC.out w9 T9.out.1.2) (HC2.out w9 T9.out.1.2)))
                    | fail)
                all_goals go_wp2_with fail
                all_goals exact ⟨⟨k + 1, by omega, by omega, by go_num, by unfold Hid; rw [HF2.out]; exact T9.out⟩, by simp [intOf]; omega⟩
          · obtain rfl : k = n1 := by omega
            have hkn : ¬ (k : Int) < (k : Int) := by omega
            have HP : Hid (UpT W0.heap.size W0 wr gt k T u4 (prs l m (i + 1))) := by
              unfold Hid
              rw [prs_next, HL1.out]
              exact HV.out
            clear HV
            go_wp2_with fail
            exact ⟨⟨i + 1, by omega, by go_num, HP⟩, by simp [intOf]; omega⟩
      · obtain rfl : i = n1 := by omega
        have hin : ¬ (i : Int) < (i : Int) := by omega
        have hown := HS.out.1.1
        have hlen := all_len (l := l) (m := m) (by rw [HL1.out]; exact hn10) (show i ≤ l.length by rw [HL1.out]; exact hile) 0
        rw [List.length_append] at hlen
        have HE2 := HE.out
        rw [HL1.out] at HE2
        have HE3 := Lib.hid HE2
        have HBD := Lib.hid (HB.out.trans (HS.out.1.2.mono HB.out.size))
        have HOW := Lib.hid hown
        obtain ⟨p, d, rfl⟩ := own_form hown
        clear hown HE2 HS
        go_wp2_with fail
        go_ret2
        rw [HE3.out]
        exact ⟨_, _, _, rfl, ownsRow_base HOW.out HB.out.size, by show (prs l m i).length ≤ _; omega, HBD.out⟩
theorem said : Rows.FnExactUnrelatedPairsSaid := FUnrelatedPairs.over (fun a1 a2 n1 c1 n2 c2 l1 l2 w h1 h2 h3 h4 => WUnrelatedPairs.walk pairsP impl_any spec_any a1 a2 n1 c1 n2 c2 l1 l2 w h1 h2 h3 h4)
#print axioms said
end Go.Proofs.Ytaikphcemldikab.Unrel
