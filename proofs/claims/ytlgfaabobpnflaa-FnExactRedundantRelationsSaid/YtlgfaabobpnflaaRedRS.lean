/- The model's RedundantRelations. -/
import Derived.Test.YtlgfaabobpnflaaRedS
import Derived.Test.YtlgfaabobpnflaaElems
namespace Go.Proofs.Ytlgfaabobpnflaa.RedRS
open Go.RowKit Pairs Rec RecEq Chain Find2 GoodM Keep GivesI Lows Order Bit Table Idx That IsLater Consist OrdM RedM RedS Elems
theorem g1_app {B : Nat} {w wr X w9 : World} {v v' : Value} {L : List (Int × Int)} {x y : Int} (h : G1 B w wr v L) (hX : Below wr.heap.size wr X) (hs : B ≤ wr.heap.size)
    (hown' : w9.ownsRow B 89 2 v' (L.length + 1) (flat L ++ [.int .i64 x, .int .i64 y])) (hgrow : X.grownBy w9 v.ownBlock) : G1 B w w9 v' (L ++ [(x, y)]) := by
  have hsx := hX.size
  refine ⟨?_, (h.2.trans (hX.mono hs)).grown hgrow (by omega) (fun j hj => (h.1.lt j hj).1)⟩
  rw [List.length_append, flat_append]
  exact hown'
theorem one_new (w : World) (x y : Value) (t : TypeId) : ∀ j u, [x, y][j]? = some u → (w.alloc (.cells #[x, y] t)).cell? ((⟨w.heap.size, 0, none⟩ : Addr).add j) = some u := cell_two_new w x y t
theorem one_drew (w : World) (x y : Value) (t : TypeId) : ∀ j u, [x, y][j]? = some u → (w.alloc (.cells #[x, y] t)).drew.cell? ((⟨w.heap.size, 0, none⟩ : Addr).add j) = some u := cell_two_new w x y t
set_option maxRecDepth 100000 in
set_option maxHeartbeats 8000000 in
theorem spec_any : GivesRL.Gives 24 redP := by
  intro a1 a2 n1 n2 l m w hz1 hz2 h1 h2
  obtain ⟨i0, hi, hy0, hy1, hy2⟩ := info_parts infoRelation
  have hb := below_alloc w (.cells #[.slice a1 n1 n1, .slice a2 n2 n2] 33)
  have hf := box_first w (.slice a1 n1 n1) (.slice a2 n2 n2) 33
  have hf2 := box_second w (.slice a1 n1 n1) (.slice a2 n2 n2) 33
  have H1 := Lib.hid (h1.below hb)
  have H2 := Lib.hid (h2.below hb)
  have HL2 := Lib.hid h2.1
  have hsz : w.heap.size < (w.alloc (.cells #[.slice a1 n1 n1, .slice a2 n2 n2] 33)).heap.size := by simp
  have hWe : (w.alloc (.cells #[.slice a1 n1 n1, .slice a2 n2 n2] 33)).heap.size = w.heap.size + 1 := by simp
  have HWE := Lib.hid hWe
  clear h1 h2 hWe
  go_enter Try.func24, Try.ntmps24
  go_wp2_with fail
  generalize w.alloc (.cells #[.slice a1 n1 n1, .slice a2 n2 n2] 33) = W at *
  have he0 := below_alloc W (.cells #[] 89)
  have ho0 := Elems.empty_own (T := 89) W
  rw [HWE.out] at ho0
  have g1 := (he0.cell (p := ⟨w.heap.size, 0, none⟩) hsz).trans hf
  have g2 := (he0.cell (p := ⟨w.heap.size, 1, none⟩) hsz).trans hf2
  have hszE := Nat.lt_of_lt_of_le hsz he0.size
  have hBE : W.heap.size < (W.alloc (.cells #[] 89)).heap.size := by simp
  have HO0 : Hid ((W.alloc (.cells #[] 89)).ownsRow W.heap.size 89 2 (.slice (some ⟨w.heap.size + 1, 0, none⟩) 0 0) 0 []) := by rw [HWE.out]; exact ho0
  have hbe := hb.trans (he0.mono hb.size)
  have HE1 := Lib.hid (H1.out.below he0)
  have HE2 := Lib.hid (H2.out.below he0)
  have HE0 := Lib.hid he0
  have HBW := Lib.hid hb
  have HF := Lib.hid (And.intro hf hf2)
  clear ho0 hf hf2 hb
  generalize W.alloc (.cells #[] 89) = E at *
  refine (l5Good_any a1 a2 n1 n1 n2 n2 l m E HE1.out HE2.out).mono ?_
  rintro e w1 ⟨rfl, b1⟩
  have r1 := (b1.cell (p := ⟨w.heap.size, 0, none⟩) hszE).trans g1
  have r2 := (b1.cell (p := ⟨w.heap.size, 1, none⟩) hszE).trans g2
  have HB1 := Lib.hid (hbe.trans (b1.mono hbe.size))
  have HO := Lib.hid (ownsRow_below HO0.out b1)
  cases hg : good l m with
  | false =>
    have HE := Lib.hid (red_bad hg)
    simp only [Bool.false_and]
    clear hg r1 r2
    go_wp2_with fail
    go_ret2
    rw [HE.out]
    exact ⟨_, _, _, rfl, ownsRow_base HO.out HBW.out.size, by omega, HB1.out⟩
  | true =>
    cases hc : cyc l m with
    | true =>
      have HE := Lib.hid (red_cyc hg hc)
      simp only [Bool.not_true, Bool.and_false]
      clear hg hc r1 r2
      go_wp2_with fail
      go_ret2
      rw [HE.out]
      exact ⟨_, _, _, rfl, ownsRow_base HO.out HBW.out.size, by omega, HB1.out⟩
    | false =>
      have HE := Lib.hid (red_yes hg hc)
      have HG := Lib.hid hg
      have HC := Lib.hid hc
      have hn2 : n2 ≤ 24 := by rw [← HL2.out]; exact (Table.good_few hg).2
      have HG0 : Hid (G1 W.heap.size W w1 (.slice (some ⟨w.heap.size + 1, 0, none⟩) 0 0) ((m.take 0).filter (red m))) := ⟨HO.out, HE0.out.trans (b1.mono HE0.out.size)⟩
      have HM3 : Hid (∀ wr, Below W.heap.size W wr → (Holds wr a1 n1 l ∧ Holds wr a2 n2 m) ∧ wr.cell? ⟨w.heap.size, 0, none⟩ = some (.slice a1 n1 n1) ∧ wr.cell? ⟨w.heap.size, 1, none⟩ = some (.slice a2 n2 n2)) := fun wr hwr =>
        ⟨⟨H1.out.below hwr, H2.out.below hwr⟩, (hwr.cell (p := ⟨w.heap.size, 0, none⟩) hsz).trans HF.out.1, (hwr.cell (p := ⟨w.heap.size, 1, none⟩) hsz).trans HF.out.2⟩
      have hs1 := b1.size
      simp only [Bool.not_false, Bool.and_true]
      clear hg hc r1 r2 b1 g1 g2
      go_wp2_with fail
      go_loopw [4, 5] (fun s4 s5 wr => ∃ k : Nat, k ≤ n2 ∧ s5 = .int .i64 k ∧ Hid (G1 W.heap.size W wr s4 ((m.take k).filter (red m)))) (fun _ s5 _ => n2 - (intOf s5).toNat)
      case atStart => exact ⟨0, Nat.zero_le _, rfl, HG0⟩
      case round =>
        clear HG0
        obtain ⟨k, hk, rfl, HR⟩ := hrel
        have p1 := (HM3.out wr HR.out.2).2.1
        have p2 := (HM3.out wr HR.out.2).2.2
        by_cases hlt : k < n2
        · have hkn : (k : Int) < (n2 : Int) := by omega
          have hk0 : (0 : Int) ≤ (k : Int) := by omega
          obtain ⟨b, off, x, y, rfl, hx, e1, e2⟩ := (HM3.out wr HR.out.2).1.2.at k hlt
          have HX := Lib.hid (filt_next (red m) hx)
          have HXM : Hid ((x, y) ∈ m) := List.mem_of_getElem? hx
          have hfl := filt_len (red m) m k
          have hown := HR.out.1
          have HR1 := Lib.hid HR.out
          have hBs : W.heap.size ≤ wr.heap.size := HR.out.2.size
          have hbdr := (Below.refl wr.heap.size wr).drew
          have HMR := Lib.hid (HM3.out wr HR.out.2)
          have HSS : Hid (∀ X, Below wr.heap.size wr X → X.cell? ⟨w.heap.size, 0, none⟩ = some (.slice a1 n1 n1) ∧ X.cell? ⟨w.heap.size, 1, none⟩ = some (.slice (some ⟨b, off, none⟩) n2 n2) ∧ X.cell? ⟨b, off + k * 2, none⟩ = some (.int .i64 x) ∧ X.cell? ⟨b, off + k * 2 + 1, none⟩ = some (.int .i64 y)) := fun X hX =>
            ⟨(hX.cell (World.block_lt_of_cell? wr _ p1)).trans p1, (hX.cell (World.block_lt_of_cell? wr _ p2)).trans p2, (hX.cell (World.block_lt_of_cell? wr _ e1)).trans e1, (hX.cell (World.block_lt_of_cell? wr _ e2)).trans e2⟩
          clear hx HR
          go_wp2_with fail
          go_region_held3 (fun X => X.cell? ⟨w.heap.size, 0, none⟩ = some (.slice a1 n1 n1) ∧ X.cell? ⟨w.heap.size, 1, none⟩ = some (.slice (some ⟨b, off, none⟩) n2 n2) ∧ X.cell? ⟨b, off + k * 2, none⟩ = some (.int .i64 x) ∧ X.cell? ⟨b, off + k * 2 + 1, none⟩ = some (.int .i64 y))
            (first | exact s3 | (refine HSS.out _ ?_; (repeat (first | exact Below.refl _ _ | refine Lows.belA ?_ _ | refine Below.drew ?_)); done))
            (first
              | (go_at_call 78; refine (l5Redundant_any x y a1 (some ⟨b, off, none⟩) n1 n1 n2 n2 l m _ HG.out HC.out HXM.out (HMR.out.1.1.below hbdr) (HMR.out.1.2.below hbdr)).mono ?_; rintro e w3 ⟨rfl, b3⟩; have HB3 := Lib.hid (hbdr.trans b3); have s3 := HSS.out w3 HB3.out)
              | fail)
          have HR3 := Lib.hid (⟨ownsRow_below HR1.out.1 HB3.out, HR1.out.2.trans (HB3.out.mono hBs)⟩ : G1 W.heap.size W w3 u4 ((m.take k).filter (red m)))
          have hs3' := HB3.out.size
          obtain ⟨p1, p2, e1, e2⟩ := s3
          clear b3 hown hbdr HSS
          cases hq : red m (x, y) with
          | true =>
            have HX2 : Hid ((m.take (k + 1)).filter (red m) = (m.take k).filter (red m) ++ [(x, y)]) := by unfold Hid; rw [HX.out, if_pos hq]
            have hown := HR3.out.1
            clear HX hq
            go_wp2_with (at_builtin; refine wpList_append_own _ rfl _ _ 31 rfl W.heap.size 89 i0 (.agg #[.int .i64 0, .int .i64 0]) 2 16 Try.underlying31 hi hy0 hy1 hy2 rfl (by decide) _ _ _ rfl (hown.alloc _) ⟨w3.heap.size, 0, none⟩ 1 1 [.int .i64 x, .int .i64 y] rfl rfl (cell_two_new _ _ _ _) (by simp [Value.oneCell']) (by unfold maxLen; omega) (by omega) (by simp; omega) ?_; intro v' w9 hown' hgrow hnil)
            have HG : Hid (G1 W.heap.size W w9 v' ((m.take (k + 1)).filter (red m))) := by
              unfold Hid
              rw [HX2.out]
              exact g1_app HR3.out (below_alloc w3 _) (by omega) hown' hgrow
            clear hown' hgrow hown hnil
            exact ⟨⟨k + 1, by omega, by go_num, HG⟩, by simp [intOf]; omega⟩
          | false =>
            have HG : Hid (G1 W.heap.size W w3 u4 ((m.take (k + 1)).filter (red m))) := by
              unfold Hid
              rw [HX.out, if_neg (by rw [hq]; simp), List.append_nil]
              exact HR3.out
            clear hq HX
            go_wp2_with fail
            exact ⟨⟨k + 1, by omega, by go_num, HG⟩, by simp [intOf]; omega⟩
        · obtain rfl : k = n2 := by omega
          have hkn : ¬ (k : Int) < (k : Int) := by omega
          have hown := HR.out.1
          rw [List.take_of_length_le (by rw [HL2.out]; omega)] at hown
          have hfl : (m.filter (red m)).length ≤ 24 := Nat.le_trans (List.length_filter_le _ _) (by rw [HL2.out]; omega)
          have HBD := Lib.hid (HBW.out.trans (HR.out.2.mono HBW.out.size))
          have HO := Lib.hid hown
          obtain ⟨p, d, rfl⟩ := Elems.own_form hown
          clear hown HR
          go_wp2_with fail
          go_ret2
          rw [HE.out]
          exact ⟨_, _, _, rfl, ownsRow_base HO.out HBW.out.size, by show (m.filter (red m)).length ≤ _; omega, HBD.out⟩
end Go.Proofs.Ytlgfaabobpnflaa.RedRS
