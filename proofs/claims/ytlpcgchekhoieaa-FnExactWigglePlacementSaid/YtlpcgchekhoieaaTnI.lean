/- CurveTurns: the mathematics and the program. -/
import Derived.Test.YtlpcgchekhoieaaCvI
import Derived.Test.YtlpcgchekhoieaaCuG
import Derived.Test.YtlpcgchekhoieaaAppI
import Derived.Deep.DeepCutAuto
namespace Go.Proofs.Ytlpcgchekhoieaa.TnI
open Go Go.RowKit Pairs Rec Keep GivesI Cu CvM CvI CuG
set_option linter.unusedVariables false
def tn (L : List Dt) (j : Nat) : Bool := (decide ((pt L (j + 1)).2.1 < (pt L j).2.1) && decide ((pt L (j + 1)).2.1 < (pt L (j + 2)).2.1)) || (decide ((pt L j).2.1 < (pt L (j + 1)).2.1) && decide ((pt L (j + 2)).2.1 < (pt L (j + 1)).2.1))
def tns (L : List Dt) : Nat → List Int
  | 0 => []
  | k + 1 => tns L k ++ (if tn L k = true then [(pt L (k + 1)).1] else [])
theorem tns_len (L : List Dt) : ∀ k, (tns L k).length ≤ k
  | 0 => Nat.le_refl _
  | k + 1 => by
    have := tns_len L k
    unfold tns
    rw [List.length_append]
    split <;> simp <;> omega
theorem tns_yes {L : List Dt} {k : Nat} (h : tn L k = true) : tns L (k + 1) = tns L k ++ [(pt L (k + 1)).1] := by
  show tns L k ++ (if tn L k = true then [(pt L (k + 1)).1] else []) = _
  rw [if_pos h]
theorem tns_no {L : List Dt} {k : Nat} (h : tn L k = false) : tns L (k + 1) = tns L k := by
  show tns L k ++ (if tn L k = true then [(pt L (k + 1)).1] else []) = _
  rw [h, if_neg (by simp), List.append_nil]
noncomputable def ctP (L : List Dt) : Bool × List Int := if cv L then (true, tns L (L.length - 2)) else (false, [])
theorem ctP_bad {L : List Dt} (h : cv L = false) : ctP L = (false, []) := by unfold ctP; rw [h]; rfl
theorem ctP_yes {L : List Dt} (h : cv L = true) : ctP L = (true, tns L (L.length - 2)) := by unfold ctP; rw [h]; rfl
def Says (f : FuncId) : Prop := ∀ (a : Option Addr) (n : Nat) (L : List Dt) (w : World), n ≤ 1048576 → HoldsD w a n L → Calls Try.prog f #[.slice a n n] w (ResI (ctP L).1 (ctP L).2 w)
def G1 (B : Nat) (w wr : World) (v : Value) (L : List Int) : Prop := wr.ownsRow B 3 1 v L.length (ints L) ∧ Below B w wr
theorem own_form {T : TypeId} {B n : Nat} {w : World} {v : Value} {xs : List Value} (h : w.ownsRow B T 1 v n xs) : ∃ p d, v = .slice p n d := by
  rcases h.2 with ⟨hv, hn⟩ | ⟨g, cap, cur, hv, _⟩
  · subst hn
    exact ⟨none, 0, hv⟩
  · exact ⟨_, cap, hv⟩
/-- A box of three cells. -/
structure B3 (w : World) (g : Nat) (q : Dt) : Prop where
  c0 : w.cell? ⟨g, 0, none⟩ = some (.int .i64 q.1)
  c1 : w.cell? ⟨g, 1, none⟩ = some (.int .i64 q.2.1)
  c2 : w.cell? ⟨g, 2, none⟩ = some (.int .i64 q.2.2)
  lt : g < w.heap.size
theorem B3.below {w w' : World} {g : Nat} {q : Dt} (h : B3 w g q) (b : Below w.heap.size w w') : B3 w' g q :=
  ⟨(b.cell (p := ⟨g, 0, none⟩) h.lt).trans h.c0, (b.cell (p := ⟨g, 1, none⟩) h.lt).trans h.c1, (b.cell (p := ⟨g, 2, none⟩) h.lt).trans h.c2, Nat.lt_of_lt_of_le h.lt b.size⟩
theorem b3_new (w : World) (x y z : Int) (T : TypeId) : B3 (w.alloc (.cells #[.int .i64 x, .int .i64 y, .int .i64 z] T)) w.heap.size (x, y, z) := by
  obtain ⟨a, b, c⟩ := box3 w (.int .i64 x) (.int .i64 y) (.int .i64 z) T
  exact ⟨a, b, c, by simp⟩
theorem twoA (W : World) (p q : Dt) (T : TypeId) :
    B3 ((W.alloc (.cells #[.int .i64 p.1, .int .i64 p.2.1, .int .i64 p.2.2] T)).alloc (.cells #[.int .i64 q.1, .int .i64 q.2.1, .int .i64 q.2.2] T)).drew W.heap.size p ∧
    B3 ((W.alloc (.cells #[.int .i64 p.1, .int .i64 p.2.1, .int .i64 p.2.2] T)).alloc (.cells #[.int .i64 q.1, .int .i64 q.2.1, .int .i64 q.2.2] T)).drew (W.heap.size + 1) q ∧
    Below W.heap.size W ((W.alloc (.cells #[.int .i64 p.1, .int .i64 p.2.1, .int .i64 p.2.2] T)).alloc (.cells #[.int .i64 q.1, .int .i64 q.2.1, .int .i64 q.2.2] T)).drew := by
  have h1 := b3_new W p.1 p.2.1 p.2.2 T
  have h2 := b3_new (W.alloc (.cells #[.int .i64 p.1, .int .i64 p.2.1, .int .i64 p.2.2] T)) q.1 q.2.1 q.2.2 T
  have hs : (W.alloc (.cells #[.int .i64 p.1, .int .i64 p.2.1, .int .i64 p.2.2] T)).heap.size = W.heap.size + 1 := by simp
  have hd := (Below.refl ((W.alloc (.cells #[.int .i64 p.1, .int .i64 p.2.1, .int .i64 p.2.2] T)).alloc (.cells #[.int .i64 q.1, .int .i64 q.2.1, .int .i64 q.2.2] T)).heap.size ((W.alloc (.cells #[.int .i64 p.1, .int .i64 p.2.1, .int .i64 p.2.2] T)).alloc (.cells #[.int .i64 q.1, .int .i64 q.2.1, .int .i64 q.2.2] T))).drew
  rw [hs] at h2
  exact ⟨(h1.below (below_alloc _ _)).below hd, h2.below hd, (below_alloc2 W _ _).drew⟩
theorem twoB (W : World) (p q : Dt) (T : TypeId) :
    B3 ((W.alloc (.cells #[.int .i64 q.1, .int .i64 q.2.1, .int .i64 q.2.2] T)).alloc (.cells #[.int .i64 p.1, .int .i64 p.2.1, .int .i64 p.2.2] T)).drew (W.heap.size + 1) p ∧
    B3 ((W.alloc (.cells #[.int .i64 q.1, .int .i64 q.2.1, .int .i64 q.2.2] T)).alloc (.cells #[.int .i64 p.1, .int .i64 p.2.1, .int .i64 p.2.2] T)).drew W.heap.size q ∧
    Below W.heap.size W ((W.alloc (.cells #[.int .i64 q.1, .int .i64 q.2.1, .int .i64 q.2.2] T)).alloc (.cells #[.int .i64 p.1, .int .i64 p.2.1, .int .i64 p.2.2] T)).drew :=
  have h := twoA W q p T
  ⟨h.2.1, h.1, h.2.2⟩
theorem cell_one_new (w : World) (x : Value) (t : TypeId) : ∀ j u, [x][j]? = some u → (w.alloc (.cells #[x] t)).cell? ((⟨w.heap.size, 0, none⟩ : Addr).add j) = some u := by
  intro j u hj
  match j, hj with
  | 0, hj =>
    simp at hj
    subst hj
    show (w.alloc (.cells #[x] t)).cell? ⟨w.heap.size, 0, none⟩ = some x
    rw [World.cell?_alloc_mark]
    rfl
theorem ints_append (l1 l2 : List Int) : ints (l1 ++ l2) = ints l1 ++ ints l2 := by unfold ints; rw [List.map_append]
set_option maxRecDepth 100000 in
set_option maxHeartbeats 8000000 in
theorem impl_any : Says 42 := by
  intro a n L w hn h
  obtain ⟨i0, hi, hy0, hy1, hy2⟩ := info_parts IntT.infoI
  have hb0 := below_alloc w (.cells #[] 3)
  have HL := Lib.hid h.1
  have H0 := Lib.hid h
  have H := Lib.hid (h.below hb0)
  have HG0 : Hid (G1 w.heap.size w (w.alloc (.cells #[] 3)) (.slice (some ⟨w.heap.size, 0, none⟩) 0 0) []) := ⟨AppI.empty_own w, hb0⟩
  obtain ⟨r, hr⟩ : ∃ r, r = ctP L := ⟨_, rfl⟩
  rw [← hr]
  have HR := Lib.hid hr
  clear hr h hb0
  go_enter Try.func42, Try.ntmps42
  go_wp2_with fail
  generalize w.alloc (.cells #[] 3) = W at *
  refine (valid_any a n n L W hn (Nat.le_refl _) H.out).mono ?_
  rintro e w1 ⟨rfl, b⟩
  replace H := Lib.hid (H.out.below b)
  replace HG0 : Hid (G1 w.heap.size w w1 (.slice (some ⟨w.heap.size, 0, none⟩) 0 0) []) := ⟨ownsRow_below HG0.out.1 b, HG0.out.2.trans (b.mono HG0.out.2.size)⟩
  clear b
  cases hu : cv L with
  | false =>
    have HF := Lib.hid (HR.out.trans (ctP_bad hu))
    clear hu
    go_wp2_with fail
    go_ret2
    rw [HF.out]
    exact ⟨_, _, _, rfl, HG0.out.1, by omega, HG0.out.2⟩
  | true =>
    have O := Lib.hid (cv_iff.1 hu)
    have HF := Lib.hid (HR.out.trans (ctP_yes hu))
    have hn2 : 2 ≤ n := by have := O.out.lo; rw [HL.out] at this; exact this
    have hn40 : n ≤ 40 := by have := O.out.len; rw [HL.out] at this; exact this
    rw [HL.out] at HF
    clear hu HR
    obtain ⟨b, off, x, y, z, rfl, hx, e1, e2, e3⟩ := H0.out.at 0 (by omega)
    clear hx e1 e2 e3 H
    by_cases h2 : n = 2
    · subst h2
      go_wp2_with fail
      go_loopw [4, 19] (fun s4 s19 wr => s4 = .slice (some ⟨w.heap.size, 0, none⟩) 0 0 ∧ s19 = .int .i64 0 ∧ wr = w1) (fun _ _ _ => 0)
      case atStart => exact ⟨rfl, rfl, rfl⟩
      case round =>
        obtain ⟨rfl, rfl, rfl⟩ := hrel
        go_wp2_with fail
        go_ret2
        rw [HF.out]
        exact ⟨_, _, _, rfl, HG0.out.1, by omega, HG0.out.2⟩
    · have HT := Lib.hid (drop_holds H0.out (k := 2) (by omega))
      go_wp2_with fail
      obtain ⟨m, hm⟩ : ∃ m, n - 2 = m := ⟨_, rfl⟩
      rw [hm, show off + 2 * 3 = off + 6 by omega] at HT
      rw [hm] at HF ⊢
      have HM : Hid (m + 2 = n) := by unfold Hid; omega
      clear hm
      go_loopw [4, 19] (fun s4 s19 wr => ∃ k : Nat, k ≤ m ∧ s19 = .int .i64 k ∧ Hid (G1 w.heap.size w wr s4 (tns L k))) (fun _ s19 _ => m - (intOf s19).toNat)
      case atStart => exact ⟨0, Nat.zero_le _, rfl, HG0⟩
      case round =>
        clear HG0
        obtain ⟨k, hk, rfl, HR⟩ := hrel
        by_cases hlt : k < m
        · have hkm : (k : Int) < (m : Int) := by omega
          have hk0 : (0 : Int) ≤ (k : Int) := by omega
          have hkn : (k : Int) < (n : Int) := by have := HM.out; omega
          have hk1n : (k : Int) + 1 < (n : Int) := by have := HM.out; omega
          obtain ⟨b1, off1, x2, y2, z2, hb1, hx2, e1, e2, e3⟩ := (HT.out.below HR.out.2).at k hlt
          injection hb1 with hb1
          injection hb1 with hb1 ho1
          subst hb1 ho1
          obtain ⟨b1, off1, x0, y0, z0, hb1, hx0, f1, f2, f3⟩ := (H0.out.below HR.out.2).at k (by have := HM.out; omega)
          injection hb1 with hb1
          injection hb1 with hb1 ho1
          subst hb1 ho1
          obtain ⟨b1, off1, x1, y1, z1, hb1, hx1, g1, g2, g3⟩ := (H0.out.below HR.out.2).at (k + 1) (by have := HM.out; omega)
          injection hb1 with hb1
          injection hb1 with hb1 ho1
          subst hb1 ho1
          rw [List.getElem?_drop, Nat.add_comm 2 k] at hx2
          have HTN := Lib.hid (show tn L k = ((decide (y1 < y0) && decide (y1 < y2)) || (decide (y0 < y1) && decide (y2 < y1))) by unfold tn; rw [pt_of hx2, pt_of hx1, pt_of hx0])
          have HX1 := Lib.hid (show (pt L (k + 1)).1 = x1 by rw [pt_of hx1])
          have hbz := below_alloc wr (.cells #[.int .i64 x2, .int .i64 y2, .int .i64 z2] 75)
          have BN := Lib.hid (b3_new wr x2 y2 z2 75)
          have HR2 : Hid (G1 w.heap.size w _ u4 (tns L k)) := ⟨ownsRow_below HR.out.1 hbz, HR.out.2.trans (hbz.mono HR.out.2.size)⟩
          have hok : decide ((0 : Int) ≤ (k : Int)) = true := decide_eq_true hk0
          obtain ⟨k1, hk1⟩ : ∃ k1, k + 1 = k1 := ⟨_, rfl⟩
          have q1 : IntKind.i64.wrap ((k : Int) + 1) = (k1 : Int) := by rw [IntKind.wrap_i64]; omega
          have hk1a : (0 : Int) ≤ (k1 : Int) := by omega
          have hk1b : (k1 : Int) < (n : Int) := by omega
          rw [hk1] at g1 g2 g3 HX1
          have HK1 := Lib.hid hk1
          clear hk1 hk1n
          replace f1 := (hbz.cell (World.block_lt_of_cell? wr _ f1)).trans f1
          replace f2 := (hbz.cell (World.block_lt_of_cell? wr _ f2)).trans f2
          replace f3 := (hbz.cell (World.block_lt_of_cell? wr _ f3)).trans f3
          replace g1 := (hbz.cell (World.block_lt_of_cell? wr _ g1)).trans g1
          replace g2 := (hbz.cell (World.block_lt_of_cell? wr _ g2)).trans g2
          replace g3 := (hbz.cell (World.block_lt_of_cell? wr _ g3)).trans g3
          clear hx0 hx1 hx2 hbz HR
          obtain ⟨W2, hW2⟩ : ∃ W2, wr.alloc (.cells #[.int .i64 x2, .int .i64 y2, .int .i64 z2] 75) = W2 := ⟨_, rfl⟩
          rw [hW2] at f1 f2 f3 g1 g2 g3 BN HR2
          have HE2 := Lib.hid hW2
          clear hW2
          go_upto_region 7 with fail
          rw [HE2.out]
          have hbw : b < W2.heap.size := World.block_lt_of_cell? W2 _ f1
          have bw : Below W2.heap.size W2 W2.drew := (Below.refl W2.heap.size W2).drew
          have ba := (below_alloc W2 (.cells #[.int .i64 0, .int .i64 0, .int .i64 0] 75)).drew
          go_cut [7, 8] (fun s7 s8 wc => ∃ g7 g8 : Nat, s7 = .pointer (some ⟨g7, 0, none⟩) ∧ s8 = .pointer (some ⟨g8, 0, none⟩) ∧ Hid (B3 wc g7 (x0, y0, z0) ∧ B3 wc g8 (x1, y1, z1) ∧ Below W2.heap.size W2 wc))
          case first =>
            go_region_held3 (fun w' => w'.cell? ⟨b, off + k * 3, none⟩ = some (.int .i64 x0) ∧ w'.cell? ⟨b, off + k * 3 + 1, none⟩ = some (.int .i64 y0) ∧ w'.cell? ⟨b, off + k * 3 + 2, none⟩ = some (.int .i64 z0) ∧ w'.cell? ⟨b, off + k1 * 3, none⟩ = some (.int .i64 x1) ∧ w'.cell? ⟨b, off + k1 * 3 + 1, none⟩ = some (.int .i64 y1) ∧ w'.cell? ⟨b, off + k1 * 3 + 2, none⟩ = some (.int .i64 z1))
              (first | go_keep | (exact ⟨by assumption, by assumption, by assumption, by assumption, by assumption, by assumption⟩))
              (fail)
            all_goals go_wp2_with fail
            all_goals go_meet
            all_goals first | exact ⟨_, _, rfl, rfl, twoA W2 (x0, y0, z0) (x1, y1, z1) _⟩ | exact ⟨_, _, rfl, rfl, twoB W2 (x0, y0, z0) (x1, y1, z1) _⟩
          case rest =>
            obtain ⟨g7, g8, rfl, rfl, HC⟩ := hcut
            clear f1 f2 f3 g1 g2 g3 bw ba q1
            have hbc := HC.out.2.2
            obtain ⟨r0, r1, r2, -⟩ := HC.out.1
            obtain ⟨p0, p1, p2, -⟩ := HC.out.2.1
            obtain ⟨n0, n1, n2, -⟩ := BN.out.below hbc
            simp only at r0 r1 r2 p0 p1 p2 n0 n1 n2
            have hlen := tns_len L k
            have HRC : Hid (G1 w.heap.size w _ u4 (tns L k)) := ⟨ownsRow_below HR2.out.1 hbc, HR2.out.2.trans (hbc.mono HR2.out.2.size)⟩
            clear hbc HC BN HR2 HE2
            by_cases hA : y1 < y0
            · have hA' : ¬ y0 < y1 := by omega
              by_cases hB : y1 < y2
              · have hB' : ¬ y2 < y1 := by omega
                have HT1 : Hid (tn L k = true) := HTN.out.trans (by simp [hA, hB])
                have HX2 : Hid (tns L (k + 1) = tns L k ++ [x1]) := by unfold Hid; rw [tns_yes HT1.out, HK1.out, HX1.out]
                obtain ⟨pv, dv, rfl⟩ := own_form HRC.out.1
                have hown := HRC.out.1
                have HWR := Lib.hid HRC.out.2
                have hws := HWR.out.size
                have hk40 : (tns L k).length ≤ 40 := by omega
                go_wp2_with (at_builtin; refine wpList_append_own _ rfl _ _ 32 rfl w.heap.size 3 i0 (.int .i64 0) 1 8 Try.underlying32 hi hy0 hy1 hy2 rfl (by decide) _ _ _ rfl (hown.alloc _) ⟨wc.heap.size, 0, none⟩ 1 1 [.int .i64 x1] rfl rfl (cell_one_new _ _ _) (by simp [Value.oneCell']) (by unfold maxLen; omega) (by omega) (by simp; omega) ?_; intro v' w9 hown' hgrow hnil)
                have hG : G1 w.heap.size w w9 v' (tns L (k + 1)) := by
                  unfold G1
                  rw [HX2.out, List.length_append, ints_append]
                  exact ⟨hown', (HWR.out.alloc hws _).grown hgrow (by simp; omega) (fun j hj => (hown.lt j hj).1)⟩
                have HG := Lib.hid hG
                clear hG hown' hgrow hown hnil
                exact ⟨⟨k + 1, by omega, by go_num, HG⟩, by simp [intOf]; omega⟩
              · have HT1 : Hid (tn L k = false) := HTN.out.trans (by simp [hB, hA'])
                clear HTN
                have HG : Hid (G1 w.heap.size w wc u4 (tns L (k + 1))) := by unfold Hid; rw [tns_no HT1.out]; exact HRC.out
                go_wp2_with fail
                exact ⟨⟨k + 1, by omega, by go_num, HG⟩, by simp [intOf]; omega⟩
            · by_cases hC : y0 < y1
              · by_cases hD : y2 < y1
                · have hB' : ¬ y1 < y2 := by omega
                  have HT1 : Hid (tn L k = true) := HTN.out.trans (by simp [hC, hD])
                  have HX2 : Hid (tns L (k + 1) = tns L k ++ [x1]) := by unfold Hid; rw [tns_yes HT1.out, HK1.out, HX1.out]
                  obtain ⟨pv, dv, rfl⟩ := own_form HRC.out.1
                  have hown := HRC.out.1
                  have HWR := Lib.hid HRC.out.2
                  have hws := HWR.out.size
                  have hk40 : (tns L k).length ≤ 40 := by omega
                  go_wp2_with (at_builtin; refine wpList_append_own _ rfl _ _ 32 rfl w.heap.size 3 i0 (.int .i64 0) 1 8 Try.underlying32 hi hy0 hy1 hy2 rfl (by decide) _ _ _ rfl (hown.alloc _) ⟨wc.heap.size, 0, none⟩ 1 1 [.int .i64 x1] rfl rfl (cell_one_new _ _ _) (by simp [Value.oneCell']) (by unfold maxLen; omega) (by omega) (by simp; omega) ?_; intro v' w9 hown' hgrow hnil)
                  have hG : G1 w.heap.size w w9 v' (tns L (k + 1)) := by
                    unfold G1
                    rw [HX2.out, List.length_append, ints_append]
                    exact ⟨hown', (HWR.out.alloc hws _).grown hgrow (by simp; omega) (fun j hj => (hown.lt j hj).1)⟩
                  have HG := Lib.hid hG
                  clear hG hown' hgrow hown hnil
                  exact ⟨⟨k + 1, by omega, by go_num, HG⟩, by simp [intOf]; omega⟩
                · have HT1 : Hid (tn L k = false) := HTN.out.trans (by simp [hD, hA])
                  clear HTN
                  have HG : Hid (G1 w.heap.size w wc u4 (tns L (k + 1))) := by unfold Hid; rw [tns_no HT1.out]; exact HRC.out
                  go_wp2_with fail
                  exact ⟨⟨k + 1, by omega, by go_num, HG⟩, by simp [intOf]; omega⟩
              · have HT1 : Hid (tn L k = false) := HTN.out.trans (by simp [hC, hA])
                clear HTN
                have HG : Hid (G1 w.heap.size w wc u4 (tns L (k + 1))) := by unfold Hid; rw [tns_no HT1.out]; exact HRC.out
                go_wp2_with fail
                exact ⟨⟨k + 1, by omega, by go_num, HG⟩, by simp [intOf]; omega⟩
        · obtain rfl : k = m := by omega
          have hkk : ¬ (k : Int) < (k : Int) := by omega
          obtain ⟨pv, dv, rfl⟩ := own_form HR.out.1
          have hlen := tns_len L k
          have hl40 : (tns L k).length ≤ 1048576 := by have := HM.out; omega
          go_wp2_with fail
          go_ret2
          rw [HF.out]
          exact ⟨_, _, _, rfl, HR.out.1, hl40, HR.out.2⟩
end Go.Proofs.Ytlpcgchekhoieaa.TnI
