/- The model's l6Resolves: whether what is left of a valid record has no loop. -/
import Derived.Test.YtcbfnhghhbgdkaaExactResolvesRecordSaidPartbb
import Derived.Test.YtcbfnhghhbgdkaaExactResolvesRecordSaidPartbg
import Derived.Test.YtcbfnhghhbgdkaaExactResolvesRecordSaidPartbh
import Derived.Deep.RegionHeld3
import Derived.Test.YtcbfnhghhbgdkaaExactResolvesRecordSaidPartal
import Derived.Test.YtcbfnhghhbgdkaaExactResolvesRecordSaidPartai
import Derived.Test.YtcbfnhghhbgdkaaExactResolvesRecordSaidPartad
import Derived.BigQuiet
namespace Go.Proofs.Ytcbfnhghhbgdkaa.RvS
open Go.RowKit Pairs Rec RecEq Chain Find2 GoodM RelM GoodE Keep GivesI Lows Order Bit Table That IsLater Consist CycL WitM Row2 Copy Two TwoBs RowTake HasI RvM
/-- In the box gb lie a row that stays and a row of its own, made since E. -/
structure FixB (E wr : World) (gb : Nat) (v1 v2 : Value) (L2 : List (Int × Int)) : Prop where
  box : wr.heap[gb]? = some (.cells #[v1, v2] 33)
  rel : wr.ownsRow E.heap.size 43 2 v2 L2.length (flat L2)
  n2 : v2.ownBlock ≠ some gb
  bel : Below E.heap.size E wr
  ge : E.heap.size ≤ gb
theorem FixB.cells {E wr : World} {gb : Nat} {v1 v2 : Value} {L2 : List (Int × Int)} (h : FixB E wr gb v1 v2 L2) : wr.cell? ⟨gb, 0, none⟩ = some v1 ∧ wr.cell? ⟨gb, 1, none⟩ = some v2 ∧ wr.frozen? ⟨gb, 0, none⟩ = false ∧ wr.frozen? ⟨gb, 1, none⟩ = false ∧ gb < wr.heap.size := by
  have hb := h.box
  refine ⟨by simp [World.cell?, hb], by simp [World.cell?, hb], by simp only [World.frozen?, hb]; rfl, by simp only [World.frozen?, hb]; rfl, (Array.getElem?_eq_some_iff.1 hb).1⟩
theorem FixB.after {E wr w1 : World} {gb : Nat} {v1 v2 : Value} {L2 : List (Int × Int)} (h : FixB E wr gb v1 v2 L2) {o : Obj} {r : Option Nat} (hgrow : (wr.alloc o).drew.grownBy w1 r) (hr : r ≠ some gb) :
    w1.cell? ⟨gb, 0, none⟩ = some v1 ∧ w1.cell? ⟨gb, 1, none⟩ = some v2 ∧ w1.frozen? ⟨gb, 0, none⟩ = false ∧ w1.frozen? ⟨gb, 1, none⟩ = false := by
  have ha := below_alloc wr o
  have hlt := h.cells.2.2.2.2
  have hb : w1.heap[gb]? = some (.cells #[v1, v2] 33) := (hgrow.block gb (Nat.lt_of_lt_of_le hlt ha.size) (Ne.symm hr)).trans ((ha.block gb hlt).trans h.box)
  exact ⟨by simp [World.cell?, hb], by simp [World.cell?, hb], by simp only [World.frozen?, hb]; rfl, by simp only [World.frozen?, hb]; rfl⟩
theorem FixB.more2 {E wr w1 : World} {gb : Nat} {v1 v2 : Value} {L2 : List (Int × Int)} (h : FixB E wr gb v1 v2 L2) {o : Obj} {x y : Int} {g cap : Nat}
    (hown : w1.ownsRow E.heap.size 43 2 (.slice (some ⟨g, 0, none⟩) (L2.length + 1) cap) (L2.length + 1) (flat L2 ++ [.int .i64 x, .int .i64 y])) (hgrow : (wr.alloc o).drew.grownBy w1 v2.ownBlock) (hat : v2.ownBlock = some g ∨ g = wr.heap.size + 1) :
    FixB E (w1.setCell ⟨gb, 1, none⟩ (.slice (some ⟨g, 0, none⟩) (L2.length + 1) cap)) gb v1 (.slice (some ⟨g, 0, none⟩) (L2.length + 1) cap) (L2 ++ [(x, y)]) := by
  have ha := below_alloc wr o
  have hlt := h.cells.2.2.2.2
  have hb1 : w1.heap[gb]? = some (.cells #[v1, v2] 33) := (hgrow.block gb (Nat.lt_of_lt_of_le hlt ha.size) (Ne.symm h.n2)).trans ((ha.block gb hlt).trans h.box)
  have hgg : g ≠ gb := by
    rcases hat with hat | hat
    · intro e
      exact h.n2 (e ▸ hat)
    · omega
  have hng : (Value.slice (some ⟨g, 0, none⟩) (L2.length + 1) cap).ownBlock ≠ some gb := fun e => hgg (by simpa [Value.ownBlock] using e)
  refine ⟨(setCell_block hb1).2, ?_, hng, ?_, h.ge⟩
  · rw [List.length_append, flat_app]
    exact setCell_far hown hng
  · refine Below.setCell (p := ⟨gb, 1, none⟩) ?_ h.ge _
    exact ((h.bel.trans (ha.mono h.bel.size)).drew).grown hgrow (by have := ha.size; have := h.bel.size; show E.heap.size ≤ (wr.alloc o).heap.size; omega) (fun k hk => (h.rel.lt k hk).1)
theorem fixB_new {E : World} {v1 : Value} : FixB E (E.alloc (.cells #[v1, .slice none 0 0] 33)) E.heap.size v1 (.slice none 0 0) [] :=
  ⟨heap_alloc_new E _, World.ownsRow_nil _ _ _ _, (fun h => by cases h), below_alloc E _, Nat.le_refl _⟩
set_option maxRecDepth 100000 in
set_option maxHeartbeats 8000000 in
theorem l6Resolves_any (a1 a2 gp : Option Addr) (n1 c1 n2 c2 gn gc : Nat) (l m S : Ps) (J : List Int) (w : World) (hg : good l m = true) (hgn : gn ≤ 1048576) (h1 : Holds w a1 n1 l) (h2 : Holds w a2 n2 m) (hJ : HoldsI w gp gn J) (hI : RvM.Idx m S J S.length) :
    Calls Try.prog 15 #[.agg #[.slice a1 n1 c1, .slice a2 n2 c2], .slice gp gn gc] w fun e w' => e = .returned (.bool (!loop l (lft S m))) ∧ Below w.heap.size w w' := by
  obtain ⟨q, hq⟩ : ∃ q, (!loop l (lft S m)) = q := ⟨_, rfl⟩
  rw [hq]
  have HQ := Lib.hid hq
  clear hq
  obtain ⟨i2, hi2, hv0, hv1, hv2⟩ := info_parts infoRelation
  have hb := below_alloc w (.cells #[.slice a1 n1 c1, .slice a2 n2 c2] 33)
  have hf := box_first w (.slice a1 n1 c1) (.slice a2 n2 c2) 33
  have hf2 := box_second w (.slice a1 n1 c1) (.slice a2 n2 c2) 33
  have hsz : w.heap.size < (w.alloc (.cells #[.slice a1 n1 c1, .slice a2 n2 c2] 33)).heap.size := by simp
  have H1 := Lib.hid (h1.below hb)
  have H2 := Lib.hid (h2.below hb)
  have HJ := Lib.hid (hJ.below hb)
  have HML := Lib.hid h2.1
  have HG := Lib.hid hg
  have HI := Lib.hid hI
  have HB := Lib.hid hb
  have hn2 : n2 ≤ 24 := by rw [← HML.out]; exact (Table.good_few hg).2
  clear h1 h2 hJ hI hg hb
  go_enter Try.func15, Try.ntmps15
  go_upto_region 1 with fail
  generalize w.alloc (.cells #[.slice a1 n1 c1, .slice a2 n2 c2] 33) = W at *
  have HM3 : Hid (∀ wr, Below W.heap.size W wr → (Holds wr a1 n1 l ∧ Holds wr a2 n2 m ∧ HoldsI wr gp gn J) ∧ wr.cell? ⟨w.heap.size, 0, none⟩ = some (.slice a1 n1 c1) ∧ wr.cell? ⟨w.heap.size, 1, none⟩ = some (.slice a2 n2 c2)) := fun wr hwr =>
    ⟨⟨H1.out.below hwr, H2.out.below hwr, HJ.out.below hwr⟩, (hwr.cell (p := ⟨w.heap.size, 0, none⟩) hsz).trans hf, (hwr.cell (p := ⟨w.heap.size, 1, none⟩) hsz).trans hf2⟩
  have HT0 : Hid (FixB W (W.alloc (.cells #[.slice a1 n1 c1, .slice none 0 0] 33)) W.heap.size (.slice a1 n1 c1) (.slice none 0 0) (lft S (m.take 0))) := fixB_new
  go_wp2_with fail
  clear hf hf2
  go_loopw [6] (fun s6 wr => ∃ k : Nat, k ≤ n2 ∧ s6 = .int .i64 k ∧ ∃ v2, Hid (FixB W wr W.heap.size (.slice a1 n1 c1) v2 (lft S (m.take k)))) (fun s6 _ => n2 - (intOf s6).toNat)
  case atStart => exact ⟨0, Nat.zero_le _, rfl, _, HT0⟩
  case round =>
    clear HT0
    obtain ⟨k, hk, rfl, v2, HT⟩ := hrel
    have p1 := (HM3.out wr HT.out.bel).2.1
    have p2 := (HM3.out wr HT.out.bel).2.2
    by_cases hlt : k < n2
    · have hkn : (k : Int) < (n2 : Int) := by omega
      have hk0 : (0 : Int) ≤ (k : Int) := by omega
      obtain ⟨b, off, x, y, rfl, hx, e1, e2⟩ := (HM3.out wr HT.out.bel).1.2.1.at k hlt
      have HX := Lib.hid (lft_next S hx)
      have hcH := l1Has_any gp gn gc J (k : Int) hgn wr (HM3.out wr HT.out.bel).1.2.2
      have hjm : inM J (k : Int) = inS S (x, y) := by
        rw [Bool.eq_iff_iff, inM_iff, inS_iff]
        exact HI.out.mem (good_is HG.out).up hx
      rw [hjm] at hcH
      have hfl : (lft S (m.take k)).length ≤ k := Nat.le_trans (lft_len _ _) (List.length_take_le _ _)
      clear hx hjm
      cases hq : inS S (x, y) with
      | true =>
        rw [hq] at hcH
        have HT2 : Hid (FixB W wr W.heap.size (.slice a1 n1 c1) v2 (lft S (m.take (k + 1)))) := by
          unfold Hid
          rw [HX.out, hq, if_pos rfl, List.append_nil]
          exact HT.out
        have HC := Lib.hid hcH
        clear hcH hq HX
        go_wp2_with fail
        refine HC.out.mono ?_
        rintro e' w' ⟨rfl, hw⟩
        have hw2 := hw.symm
        subst hw2
        clear hw HC
        go_wp2_with fail
        exact ⟨⟨k + 1, by omega, by go_num, v2, HT2⟩, by simp [intOf]; omega⟩
      | false =>
        rw [hq] at hcH
        have HX2 : Hid (lft S (m.take (k + 1)) = lft S (m.take k) ++ [(x, y)]) := by unfold Hid; rw [HX.out, hq, if_neg (by simp)]
        have HC := Lib.hid hcH
        clear hcH hq HX
        go_wp2_with fail
        refine HC.out.mono ?_
        rintro e' w' ⟨rfl, hw⟩
        have hw2 := hw.symm
        subst hw2
        clear hw HC
        obtain ⟨o1, o2, o3, o4, o5⟩ := HT.out.cells
        have hsE5 := HT.out.bel.size
        have hown := HT.out.rel
        go_wp2_with fail
        go_region_law (first | (refine step_append_lies _ (by rfl) _ _ _ (by rfl) W.heap.size 43 i2 _ 2 16 Try.underlying31 hi2 hv0 hv1 hv2 rfl (by omega) v2 _ _ (by rfl) (own_drew (hown.alloc _)) ⟨wr.heap.size, 0, none⟩ 1 1 [.int .i64 x, .int .i64 y] (by rfl) (by rfl) (new_pair wr _ _ _) (by simp [Value.oneCell']) (by omega) (by unfold maxLen; omega) (by omega) (by simp; omega) (wr.heap.size + 1) (by simp) ?_; intro g9 cap9 w9 hown9 hgrow9 hat9 hltg9; have hc9 := (HT.out.after hgrow9 HT.out.n2).2.1; have hf9 := (HT.out.after hgrow9 HT.out.n2).2.2.2))
        all_goals (have HT2 := Lib.hid (HT.out.more2 hown9 hgrow9 hat9))
        all_goals (clear hown9 hgrow9 hat9 hltg9 hc9 hf9)
        all_goals go_wp2_with fail
        all_goals exact ⟨⟨k + 1, by omega, by go_num, _, by rw [HX2.out]; exact HT2⟩, by simp [intOf]; omega⟩
    · obtain rfl : k = n2 := by omega
      have hkn : ¬ (k : Int) < (k : Int) := by omega
      have hT2 := HT.out
      rw [List.take_of_length_le (by rw [HML.out]; omega)] at hT2
      obtain ⟨o1, o2, o3, o4, o5⟩ := hT2.cells
      obtain ⟨pb, db, rfl⟩ := Two.own_form hT2.rel
      have hc : Calls Try.prog 26 #[.agg #[.slice a1 n1 c1, .slice pb (lft S m).length db]] wr fun e w' => e = .returned (.bool (!loop l (lft S m))) ∧ Below wr.heap.size wr w' :=
        l4Consistent_any a1 pb n1 c1 (lft S m).length db l (lft S m) wr (lft_good HG.out) (HM3.out wr hT2.bel).1.1 (Keep.holds_own hT2.rel)
      rw [HQ.out] at hc
      have HC := Lib.hid hc
      have HBE := Lib.hid (HB.out.trans (hT2.bel.mono HB.out.size))
      clear hc hT2 HT
      go_wp2_with fail
      refine HC.out.mono ?_
      rintro e w9 ⟨rfl, b9⟩
      have HB9 := Lib.hid (HBE.out.trans (b9.mono HBE.out.size))
      clear b9
      go_wp2_with fail
      go_ret
      exact ⟨rfl, HB9.out⟩
end Go.Proofs.Ytcbfnhghhbgdkaa.RvS
/- The model's ResolvesRecord. -/
namespace Go.Proofs.Ytcbfnhghhbgdkaa.RvT
open Go.RowKit Pairs Rec RecEq Chain Find2 GoodM RelM GoodE Keep GivesI Lows Order Bit Table That CycL WitM RvM RvS Good2
/-- Where a relation was found among the first i: nowhere, or at a place. -/
def Pl (m : Ps) (z : Int × Int) (i : Nat) (t : Int) : Prop := (t = -1 ∧ ∀ j : Nat, j < i → m[j]? ≠ some z) ∨ ∃ f : Nat, t = (f : Int) ∧ m[f]? = some z
theorem Pl.miss {m : Ps} {z x : Int × Int} {i : Nat} {t : Int} (h : Pl m z i t) (hx : m[i]? = some x) (hn : x ≠ z) : Pl m z (i + 1) t := by
  rcases h with ⟨e, h⟩ | h
  · refine .inl ⟨e, fun j hj => ?_⟩
    by_cases ej : j = i
    · subst ej
      rw [hx]
      intro he
      injection he with he
      exact hn he
    · exact h j (by omega)
  · exact .inr h
theorem Pl.none {m : Ps} {z : Int × Int} {n : Nat} (h : Pl m z n (-1)) (hl : m.length = n) : z ∉ m := by
  rcases h with ⟨_, h⟩ | ⟨f, hf, _⟩
  · intro hm
    obtain ⟨j, hj, e⟩ := List.getElem_of_mem hm
    exact h j (by omega) (by rw [List.getElem?_eq_getElem hj, e])
  · omega
set_option maxRecDepth 100000 in
set_option maxHeartbeats 8000000 in
theorem spec_any (a1 a2 a3 : Option Addr) (n1 c1 n2 c2 n3 c3 : Nat) (l m S : Ps) (w : World) (_ : n1 ≤ 1048576) (hz2 : n2 ≤ 1048576) (hz3 : n3 ≤ 1048576) (h1 : Holds w a1 n1 l) (h2 : Holds w a2 n2 m) (h3 : Holds w a3 n3 S) :
    Calls Try.prog 6 #[.agg #[.slice a1 n1 c1, .slice a2 n2 c2], .slice a3 n3 c3] w fun e w' => e = .returned (.tuple #[.bool ((rvP l m S).1), .bool ((rvP l m S).2)]) ∧ Below w.heap.size w w' := by
  obtain ⟨q, hq⟩ : ∃ q, rvP l m S = q := ⟨_, rfl⟩
  rw [hq]
  have HQ := Lib.hid hq
  clear hq
  obtain ⟨i0, hi0, hy0, hy1, hy2⟩ := info_parts That.infoInt
  have hb := below_alloc w (.cells #[.slice a1 n1 c1, .slice a2 n2 c2] 33)
  have hf := box_first w (.slice a1 n1 c1) (.slice a2 n2 c2) 33
  have hf2 := box_second w (.slice a1 n1 c1) (.slice a2 n2 c2) 33
  have H1 := Lib.hid (h1.below hb)
  have H2 := Lib.hid (h2.below hb)
  have H3 := Lib.hid (h3.below hb)
  have HML := Lib.hid h2.1
  have HSL := Lib.hid h3.1
  have hsz : w.heap.size < (w.alloc (.cells #[.slice a1 n1 c1, .slice a2 n2 c2] 33)).heap.size := by simp
  have HB := Lib.hid hb
  clear h1 h2 h3 hb
  go_enter Try.func6, Try.ntmps6
  go_wp2_with fail
  generalize w.alloc (.cells #[.slice a1 n1 c1, .slice a2 n2 c2] 33) = W at *
  refine (l2Good_any a1 a2 n1 c1 n2 c2 l m W H1.out H2.out).mono ?_
  rintro e w1 ⟨rfl, b1⟩
  have r1 := (b1.cell (p := ⟨w.heap.size, 0, none⟩) hsz).trans hf
  have r2 := (b1.cell (p := ⟨w.heap.size, 1, none⟩) hsz).trans hf2
  have K1 := Lib.hid (H1.out.below b1)
  have K2 := Lib.hid (H2.out.below b1)
  have K3 := Lib.hid (H3.out.below b1)
  have HB1 := Lib.hid (HB.out.trans (b1.mono HB.out.size))
  have hs1 : w.heap.size < w1.heap.size := Nat.lt_of_lt_of_le hsz b1.size
  clear b1 hf hf2 H1 H2 H3 HB hsz
  cases hg : good l m with
  | false =>
    have hq := HQ.out
    rw [rv_bad hg] at hq
    subst hq
    clear hg HQ
    go_wp2_with fail
    go_ret2
    exact ⟨rfl, HB1.out⟩
  | true =>
    have HG := Lib.hid hg
    have hn2 : n2 ≤ 24 := by rw [← HML.out]; exact (Table.good_few hg).2
    clear hg
    have HM : Hid (∀ wr, Below w1.heap.size w1 wr → (Holds wr a1 n1 l ∧ Holds wr a2 n2 m ∧ Holds wr a3 n3 S) ∧ wr.cell? ⟨w.heap.size, 0, none⟩ = some (.slice a1 n1 c1) ∧ wr.cell? ⟨w.heap.size, 1, none⟩ = some (.slice a2 n2 c2) ∧ Below w.heap.size w wr) := fun wr hwr =>
      ⟨⟨K1.out.below hwr, K2.out.below hwr, K3.out.below hwr⟩, (hwr.cell (p := ⟨w.heap.size, 0, none⟩) hs1).trans r1, (hwr.cell (p := ⟨w.heap.size, 1, none⟩) hs1).trans r2, HB1.out.trans (hwr.mono HB1.out.size)⟩
    have HG0 : Hid (That.G1 w1.heap.size w1 (w1.alloc (.cells #[] 3)) (.slice (some ⟨w1.heap.size, 0, none⟩) 0 0) []) := ⟨That.empty_own w1, below_alloc w1 _⟩
    go_wp2_with fail
    generalize w1.alloc (.cells #[] 3) = W1 at *
    clear r1 r2 K1 K2 K3
    go_loopw [6, 7] (fun s6 s7 wr => ∃ (k : Nat) (J : List Int), k ≤ n3 ∧ s7 = .int .i64 k ∧ Hid (That.G1 w1.heap.size w1 wr s6 J) ∧ Hid (RvM.Idx m S J k) ∧ Hid (Sk m S k)) (fun _ s7 _ => n3 - (intOf s7).toNat)
    case atStart => exact ⟨0, [], Nat.zero_le _, rfl, HG0, ⟨rfl, fun i h => by omega⟩, fun i x h => by omega⟩
    case round =>
      clear HG0
      rename World => wo
      obtain ⟨k, J, hk, rfl, HJ, HIX, HSK⟩ := hrel
      obtain ⟨jp, jd, hv⟩ := From.own_form HJ.out.1
      subst hv
      have HJk : Hid (J.length = k) := HIX.out.1
      obtain ⟨hhs, p1, p2, hbw⟩ := HM.out wo HJ.out.2
      have HH := Lib.hid hhs
      have HBO := Lib.hid hbw
      clear hhs hbw
      by_cases hlt : k < n3
      · have hkn : (k : Int) < (n3 : Int) := by omega
        have hk0 : (0 : Int) ≤ (k : Int) := by omega
        obtain ⟨b, off, u, v, rfl, hx, e1, e2⟩ := HH.out.2.2.at k hlt
        have HX := Lib.hid hx
        clear hx
        have HP0 : Hid (Pl m (u, v) 0 (-1)) := .inl ⟨rfl, fun j hj => by omega⟩
        go_wp2_with fail
        go_loopw [8, 9] (fun s8 s9 wq => ∃ (i : Nat) (t : Int), i ≤ n2 ∧ s9 = .int .i64 i ∧ s8 = .int .i64 t ∧ Hid (Pl m (u, v) i t) ∧ Hid (Below wo.heap.size wo wq)) (fun _ s9 _ => n2 - (intOf s9).toNat)
        case atStart => exact ⟨0, -1, Nat.zero_le _, rfl, rfl, HP0, Below.refl _ _⟩
        case round =>
          clear HP0
          rename World => wq
          obtain ⟨i, t, hi, rfl, rfl, HP, HWQ⟩ := hrel
          have s1 := (HWQ.out.cell (World.block_lt_of_cell? wo _ p1)).trans p1
          have s2 := (HWQ.out.cell (World.block_lt_of_cell? wo _ p2)).trans p2
          have s3 := (HWQ.out.cell (World.block_lt_of_cell? wo _ e1)).trans e1
          have s4 := (HWQ.out.cell (World.block_lt_of_cell? wo _ e2)).trans e2
          by_cases hit : i < n2
          · have hin : (i : Int) < (n2 : Int) := by omega
            have hi0' : (0 : Int) ≤ (i : Int) := by omega
            obtain ⟨b2, off2, x, y, rfl, hx, m1, m2⟩ := (HH.out.2.1.below HWQ.out).at i hit
            have HY := Lib.hid hx
            clear hx
            go_upto_region 11 with fail
            have k1 := cell_regrown s1
            have k2 := cell_regrown s2
            have k3 := cell_regrown s3
            have k4 := cell_regrown s4
            have k5 := cell_regrown m1
            have k6 := cell_regrown m2
            clear s1 s2 s3 s4 m1 m2
            by_cases hxu : x = u
            · by_cases hyv : y = v
              · subst hxu hyv
                have HP2 : Hid (Pl m (x, y) (i + 1) (i : Int)) := .inr ⟨i, rfl, HY.out⟩
                refine wp_region_quiet_below (by kernel_rfl) (by kernel_rfl) ?_
                repeat (go_big_quiet_step (fail))
                refine wpQuiet_nil ?_
                intro _ hw'
                obtain ⟨⟨dq, osq⟩, hw''⟩ := hw'
                subst hw''
                have HB2 := Lib.hid (HWQ.out.trans ((below_regrown wq dq osq).mono HWQ.out.size))
                go_wp2_with fail
                exact ⟨⟨i + 1, (i : Int), by omega, by go_num, rfl, HP2, HB2⟩, by simp [intOf]; omega⟩
              · subst hxu
                have HP2 := Lib.hid (HP.out.miss HY.out (fun h => hyv (Prod.ext_iff.1 h).2))
                have hq2 : (y == v) = false := by simpa using hyv
                refine wp_region_quiet_below (by kernel_rfl) (by kernel_rfl) ?_
                repeat (go_big_quiet_step (fail))
                refine wpQuiet_nil ?_
                intro _ hw'
                obtain ⟨⟨dq, osq⟩, hw''⟩ := hw'
                subst hw''
                have HB2 := Lib.hid (HWQ.out.trans ((below_regrown wq dq osq).mono HWQ.out.size))
                go_wp2_with fail
                exact ⟨⟨i + 1, t, by omega, by go_num, rfl, HP2, HB2⟩, by simp [intOf]; omega⟩
            · have HP2 := Lib.hid (HP.out.miss HY.out (fun h => hxu (Prod.ext_iff.1 h).1))
              have hq2 : (x == u) = false := by simpa using hxu
              refine wp_region_quiet_below (by kernel_rfl) (by kernel_rfl) ?_
              repeat (go_big_quiet_step (fail))
              refine wpQuiet_nil ?_
              intro _ hw'
              obtain ⟨⟨dq, osq⟩, hw''⟩ := hw'
              subst hw''
              have HB2 := Lib.hid (HWQ.out.trans ((below_regrown wq dq osq).mono HWQ.out.size))
              go_wp2_with fail
              exact ⟨⟨i + 1, t, by omega, by go_num, rfl, HP2, HB2⟩, by simp [intOf]; omega⟩
          · obtain rfl : i = n2 := by omega
            have hin : ¬ (i : Int) < (i : Int) := by omega
            have hw3 := HWQ.out
            have hownq := ownsRow_below HJ.out.1 hw3
            have HOB := Lib.hid (HJ.out.2.trans (hw3.mono HJ.out.2.size))
            have HSQ := Lib.hid (HH.out.2.2.below hw3)
            have HBQ := Lib.hid (HBO.out.trans (hw3.mono HBO.out.size))
            have hJb : J.length ≤ 1048576 := by rw [HJk.out]; omega
            clear hw3 p1 p2 e1 e2
            rcases HP.out with ⟨rfl, hno⟩ | ⟨f, rfl, hfm⟩
            · have hst : st m S = false := st_bad HX.out (fun h => Pl.none (.inl ⟨rfl, hno⟩) HML.out h.1)
              have hq := HQ.out
              rw [rv_no hst] at hq
              subst hq
              clear hst hno HQ hownq s3 s4
              go_upto_region 13 with fail
              refine wp_region_quiet_below (by kernel_rfl) (by kernel_rfl) ?_
              repeat (go_big_quiet_step (fail))
              refine wpQuiet_nil ?_
              intro _ hw'
              obtain ⟨⟨dq, osq⟩, hw''⟩ := hw'
              subst hw''
              have HB2 := Lib.hid (HBQ.out.trans ((below_regrown wq dq osq).mono HBQ.out.size))
              go_wp2_with fail
              go_ret2
              exact ⟨rfl, HB2.out⟩
            · have HF := Lib.hid hfm
              have hf0 : (0 : Int) ≤ (f : Int) := by omega
              have hf0n : ¬ (f : Int) < 0 := by omega
              have HI2 := Lib.hid (HIX.out.next HX.out hfm)
              clear hfm
              cases k with
              | zero =>
                have HS2 := Lib.hid (HSK.out.next HX.out (List.mem_of_getElem? HF.out) (fun y h => absurd h (Nat.lt_irrefl 0)))
                clear s3 s4
                go_upto_region 13 with fail
                refine wp_region_quiet_below (by kernel_rfl) (by kernel_rfl) ?_
                repeat (go_big_quiet_step (fail))
                refine wpQuiet_nil ?_
                intro _ hw'
                obtain ⟨⟨dq, osq⟩, hw''⟩ := hw'
                subst hw''
                have hbr := below_regrown wq dq osq
                have hownG := ownsRow_below hownq hbr
                have HOG := Lib.hid (HOB.out.trans (hbr.mono HOB.out.size))
                clear hbr hownq
                generalize Sort.grow (redrawn wq dq) osq = G at *
                have hge := HOG.out.size
                go_wp2_with (at_builtin; refine wpList_append_own _ rfl _ _ 41 rfl w1.heap.size 3 i0 (.int .i64 0) 1 8 Try.underlying41 hi0 hy0 hy1 hy2 rfl (by decide) _ _ _ rfl (hownG.alloc _) ⟨G.heap.size, 0, none⟩ 1 1 [.int .i64 (f : Int)] rfl rfl (cell_one_new _ _ _) (by simp [Value.oneCell']) (by unfold maxLen; omega) (by omega) (by simp; omega) ?_; intro v' w9 hown' hgrow hnil)
                have hG : That.G1 w1.heap.size w1 w9 v' (J ++ [(f : Int)]) := by
                  unfold That.G1
                  rw [List.length_append, That.ints_append]
                  exact ⟨hown', (HOG.out.alloc hge _).grown hgrow (by simp; omega) (fun j hj => (hownG.lt j hj).1)⟩
                have HG2 := Lib.hid hG
                clear hG hown' hgrow hnil
                exact ⟨⟨1, J ++ [(f : Int)], by omega, by go_num, HG2, HI2, HS2⟩, by simp [intOf]; omega⟩
              | succ k =>
                obtain ⟨b', off', pp, pq, he, hp, m1, m2⟩ := HSQ.out.at k (by omega)
                obtain ⟨rfl, rfl⟩ : b' = b ∧ off' = off := by
                  injection he with he
                  injection he with h1 h2 h3
                  exact ⟨h1.symm, h2.symm⟩
                have HPP := Lib.hid hp
                have hw1 : IntKind.i64.wrap (((k + 1 : Nat) : Int) - 1) = (k : Int) := by rw [IntKind.wrap_i64]; omega
                have hkp : (0 : Int) < ((k + 1 : Nat) : Int) := by omega
                clear hp he
                go_upto_region 13 with fail
                have k3 := cell_regrown s3
                have k4 := cell_regrown s4
                have k5 := cell_regrown m1
                have k6 := cell_regrown m2
                clear s3 s4 m1 m2
                cases hbf : before (pp, pq) (u, v) with
                | true =>
                  have cB : ∀ d os, Calls Try.prog 14 #[.agg #[.int .i64 pp, .int .i64 pq], .agg #[.int .i64 u, .int .i64 v]] (Sort.grow (redrawn wq d) os) fun e w'' => e = .returned (.bool true) ∧ ∃ p : Regrown, w'' = Sort.grow (redrawn wq p.d) p.os := fun d os => Calls.regrown_of (by rw [← hbf]; exact l2Before_any pp pq u v _)
                  have HS2 := Lib.hid (HSK.out.next HX.out (List.mem_of_getElem? HF.out) (fun y _ hy => by rw [Nat.add_sub_cancel, HPP.out] at hy; injection hy with hy; rw [← hy]; exact hbf))
                  clear hbf
                  refine wp_region_quiet_below (by kernel_rfl) (by kernel_rfl) ?_
                  repeat (go_big_quiet_step ((go_at_call 14; exact cB _ _)))
                  refine wpQuiet_nil ?_
                  intro _ hw'
                  obtain ⟨⟨dq, osq⟩, hw''⟩ := hw'
                  subst hw''
                  clear cB
                  have hbr := below_regrown wq dq osq
                  have hownG := ownsRow_below hownq hbr
                  have HOG := Lib.hid (HOB.out.trans (hbr.mono HOB.out.size))
                  clear hbr hownq
                  generalize Sort.grow (redrawn wq dq) osq = G at *
                  have hge := HOG.out.size
                  go_wp2_with (at_builtin; refine wpList_append_own _ rfl _ _ 41 rfl w1.heap.size 3 i0 (.int .i64 0) 1 8 Try.underlying41 hi0 hy0 hy1 hy2 rfl (by decide) _ _ _ rfl (hownG.alloc _) ⟨G.heap.size, 0, none⟩ 1 1 [.int .i64 (f : Int)] rfl rfl (cell_one_new _ _ _) (by simp [Value.oneCell']) (by unfold maxLen; omega) (by omega) (by simp; omega) ?_; intro v' w9 hown' hgrow hnil)
                  have hG : That.G1 w1.heap.size w1 w9 v' (J ++ [(f : Int)]) := by
                    unfold That.G1
                    rw [List.length_append, That.ints_append]
                    exact ⟨hown', (HOG.out.alloc hge _).grown hgrow (by simp; omega) (fun j hj => (hownG.lt j hj).1)⟩
                  have HG2 := Lib.hid hG
                  clear hG hown' hgrow hnil
                  exact ⟨⟨k + 1 + 1, J ++ [(f : Int)], by omega, by go_num, HG2, HI2, HS2⟩, by simp [intOf]; omega⟩
                | false =>
                  have cB : ∀ d os, Calls Try.prog 14 #[.agg #[.int .i64 pp, .int .i64 pq], .agg #[.int .i64 u, .int .i64 v]] (Sort.grow (redrawn wq d) os) fun e w'' => e = .returned (.bool false) ∧ ∃ p : Regrown, w'' = Sort.grow (redrawn wq p.d) p.os := fun d os => Calls.regrown_of (by rw [← hbf]; exact l2Before_any pp pq u v _)
                  have hst : st m S = false := st_bad (m := m) HX.out (fun h => by have := h.2 (pp, pq) (Nat.succ_pos k) (by rw [Nat.add_sub_cancel]; exact HPP.out); rw [hbf] at this; cases this)
                  have hq := HQ.out
                  rw [rv_no hst] at hq
                  subst hq
                  clear hst HQ hbf hownq
                  refine wp_region_quiet_below (by kernel_rfl) (by kernel_rfl) ?_
                  repeat (go_big_quiet_step ((go_at_call 14; exact cB _ _)))
                  refine wpQuiet_nil ?_
                  intro _ hw'
                  obtain ⟨⟨dq, osq⟩, hw''⟩ := hw'
                  subst hw''
                  have HB2 := Lib.hid (HBQ.out.trans ((below_regrown wq dq osq).mono HBQ.out.size))
                  go_wp2_with fail
                  go_ret2
                  exact ⟨rfl, HB2.out⟩
      · obtain rfl : k = n3 := by omega
        have hkn : ¬ (k : Int) < (k : Int) := by omega
        have hst : st m S = true := st_yes (by rw [HSL.out]; exact HSK.out)
        have hc := l6Resolves_any a1 a2 jp n1 c1 n2 c2 J.length jd l m S J wo HG.out (by rw [HJk.out]; omega) HH.out.1 HH.out.2.1 (GivesI.holds_own HJ.out.1) (by rw [HSL.out]; exact HIX.out)
        have hq := HQ.out
        rw [rv_yes HG.out hst] at hq
        obtain ⟨z, hz⟩ : ∃ z, (!loop l (lft S m)) = z := ⟨_, rfl⟩
        rw [hz] at hc hq
        subst hq
        have HC := Lib.hid hc
        clear hc hst hz HQ
        go_wp2_with fail
        refine HC.out.mono ?_
        rintro e w9 ⟨rfl, b9⟩
        have HB9 := Lib.hid (HBO.out.trans (b9.mono HBO.out.size))
        clear b9
        go_wp2_with fail
        go_ret2
        exact ⟨rfl, HB9.out⟩
end Go.Proofs.Ytcbfnhghhbgdkaa.RvT
