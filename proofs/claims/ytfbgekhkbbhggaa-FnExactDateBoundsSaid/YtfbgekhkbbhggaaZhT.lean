/- The laws' copies of rows of distributions, and that copies are equal. -/
import Derived.Test.YtfbgekhkbbhggaaZh
import Derived.StillTailTactics
namespace Go.Proofs.Ytfbgekhkbbhggaa.ZhT
open Go.RowKit Pairs Rec Keep GivesI Zh
set_option linter.unusedVariables false
theorem infoP : (Try.prog.info? 50).map (fun i => (i.zero, i.size, i.bytes)) = some (some (.agg #[.int .i64 0, .slice none 0 0]), 2, 32) := by kernel_rfl
/-- A copy of distributions under way: the first k are there. -/
def OwnP (B : Nat) (w : World) (g n : Nat) (L : List Pt) (k : Nat) : Prop :=
  ∃ ys, w.ownsRow B 50 2 (.slice (some ⟨g, 0, none⟩) n n) n ys ∧ ∀ i x, i < k → L[i]? = some x → ys[i * 2]? = some (.int .i64 x.1) ∧
    ∃ gi, ys[i * 2 + 1]? = some (.slice (some ⟨gi, 0, none⟩) x.2.length x.2.length) ∧ gi ≠ g ∧ w.ownsRow B 3 1 (.slice (some ⟨gi, 0, none⟩) x.2.length x.2.length) x.2.length (ints x.2)
theorem OwnP.below {B : Nat} {w w' : World} {g n : Nat} {L : List Pt} {k : Nat} (h : OwnP B w g n L k) (hb : Below w.heap.size w w') : OwnP B w' g n L k := by
  obtain ⟨ys, h1, h2⟩ := h
  refine ⟨ys, ownsRow_below h1 hb, fun i x hi hx => ?_⟩
  obtain ⟨e1, gi, e2, e3, e4⟩ := h2 i x hi hx
  exact ⟨e1, gi, e2, e3, ownsRow_below e4 hb⟩
theorem OwnP.step {B : Nat} {w : World} {g n : Nat} {L : List Pt} {k gi : Nat} {s : Int} {M : List Int} (h : OwnP B w g n L k) (hk : k < n) (hx : L[k]? = some (s, M)) (hne : gi ≠ g)
    (ho : w.ownsRow B 3 1 (.slice (some ⟨gi, 0, none⟩) M.length M.length) M.length (ints M)) :
    OwnP B ((w.setCell ⟨g, k * 2, none⟩ (.int .i64 s)).setCell ⟨g, k * 2 + 1, none⟩ (.slice (some ⟨gi, 0, none⟩) M.length M.length)) g n L (k + 1) := by
  obtain ⟨ys, h1, h2⟩ := h
  have hlen : ys.length = n * 2 := h1.1
  have hS : ∀ {z : Nat} {T : List Int}, z ≠ g → w.ownsRow B 3 1 (.slice (some ⟨z, 0, none⟩) T.length T.length) T.length (ints T) → ((w.setCell ⟨g, k * 2, none⟩ (.int .i64 s)).setCell ⟨g, k * 2 + 1, none⟩ (.slice (some ⟨gi, 0, none⟩) M.length M.length)).ownsRow B 3 1 (.slice (some ⟨z, 0, none⟩) T.length T.length) T.length (ints T) := by
    intro z T hz ht
    have e1 : (Value.slice (some ⟨z, 0, none⟩) T.length T.length).ownBlock = some z := rfl
    exact ((Kept.refl (fun b => b = g) w).setCell (g := g) rfl _ |>.setCell (g := g) rfl _).owns ht (fun b hb e => by rw [e1] at hb; injection hb with hb; omega)
  refine ⟨_, ((h1.stored (k * 2) _).1.stored (k * 2 + 1) _).1, fun i x hi hx2 => ?_⟩
  by_cases he : i = k
  · subst he
    rw [hx] at hx2
    injection hx2 with hx2
    subst hx2
    refine ⟨?_, gi, ?_, hne, hS hne ho⟩
    · rw [List.getElem?_set_ne (by omega), List.getElem?_set_self (by omega)]
    · rw [List.getElem?_set_self (by simp; omega)]
  · obtain ⟨e1, z, e2, e3, e4⟩ := h2 i x (by omega) hx2
    refine ⟨?_, z, ?_, e3, hS e3 e4⟩
    · rw [List.getElem?_set_ne (by omega), List.getElem?_set_ne (by omega)]
      exact e1
    · rw [List.getElem?_set_ne (by omega), List.getElem?_set_ne (by omega)]
      exact e2
theorem OwnP.facts {B : Nat} {w : World} {g n : Nat} {L : List Pt} {k : Nat} (h : OwnP B w g n L k) : ∀ j, j < n * 2 → (∃ v, w.cell? ⟨g, j, none⟩ = some v) ∧ w.frozen? ⟨g, j, none⟩ = false := by
  obtain ⟨ys, h1, _⟩ := h
  intro j hj
  have hlen : ys.length = n * 2 := h1.1
  refine ⟨⟨ys[j], ?_⟩, h1.frozenAt j⟩
  rw [h1.cellAt j (by omega), List.getElem?_eq_getElem (by omega)]
theorem OwnP.lt {B : Nat} {w : World} {g n : Nat} {L : List Pt} {k : Nat} (h : OwnP B w g n L k) : B ≤ g ∧ g < w.heap.size := by
  obtain ⟨ys, h1, _⟩ := h
  exact h1.lt g rfl
theorem OwnP.holds {B : Nat} {w : World} {g n : Nat} {L : List Pt} (h : OwnP B w g n L n) (hl : L.length = n) : HoldsZ w (some ⟨g, 0, none⟩) n L := by
  obtain ⟨ys, h1, h2⟩ := h
  have hlen : ys.length = n * 2 := h1.1
  refine ⟨hl, .inr ⟨g, 0, rfl, (h1.lt g rfl).2, fun i x hi => ?_⟩⟩
  have hil := (List.getElem?_eq_some_iff.1 hi).1
  obtain ⟨e1, gi, e2, _, e4⟩ := h2 i x (by omega) hi
  refine ⟨?_, some ⟨gi, 0, none⟩, x.2.length, x.2.length, ?_, holds_own e4⟩
  · rw [Nat.zero_add, h1.cellAt _ (by omega)]
    exact e1
  · rw [Nat.zero_add, h1.cellAt _ (by omega)]
    exact e2
def ToS (n : Nat) (L : List Pt) (w : World) (e : Ending) (w' : World) : Prop :=
  ∃ g : Nat, e = .returned (.slice (some ⟨g, 0, none⟩) n n) ∧ OwnP w.heap.size w' g n L n ∧ Below w.heap.size w w'
set_option maxRecDepth 100000 in
set_option maxHeartbeats 2000000 in
theorem toS_any (a : Option Addr) (n c : Nat) (L : List Pt) (hz : n ≤ 1048576) (w : World) (h : HoldsZ w a n L) (hS : Sm L 1048576) :
    Calls Try.prog 54 #[.slice a n c] w (ToS n L w) := by
  obtain ⟨i0, hi, hz0, hz1, hz2⟩ := info_parts infoP
  obtain ⟨B, hB⟩ : ∃ B, w.heap.size = B := ⟨_, rfl⟩
  have HB := Lib.hid hB
  have HH := Lib.hid h
  have HS := Lib.hid hS
  unfold ToS
  rw [hB]
  clear hB h hS
  go_enter Try.func54, Try.ntmps54
  go_wp2_with (at_make; refine wpList_make_full _ rfl _ _ 35 rfl B 50 i0 (.agg #[.int .i64 0, .slice none 0 0]) 2 Try.underlying35 hi hz0 hz1 .i64 .i64 _ _ n rfl rfl (by omega) (by omega) (by rw [hz2]; omega) (by unfold maxLen; omega) (by rw [HB.out]; omega) ?_; intro w1 hown hgrow)
  have hU : Hid (OwnP B w1 B n L 0 ∧ Below B w w1) := by
    rw [HB.out] at hown
    exact ⟨⟨_, hown, fun i x hi => absurd hi (by omega)⟩, (Below.refl _ _).grown hgrow (by rw [HB.out]; omega) (fun k hk => by cases hk)⟩
  clear hown hgrow
  rw [HB.out]
  go_loopw [4] (fun i wr => ∃ k : Nat, k ≤ n ∧ i = .int .i64 k ∧ Hid (OwnP B wr B n L k ∧ Below B w wr)) (fun i _ => n - (intOf i).toNat)
  case atStart => exact ⟨0, Nat.zero_le _, rfl, hU⟩
  case round =>
    obtain ⟨k, hk, rfl, HR⟩ := hrel
    clear hU
    by_cases hlt : k < n
    · have hbel := HR.out.2
      have hsz := hbel.size
      rw [← HB.out] at hbel
      rw [HB.out] at hsz
      obtain ⟨b, off, s, M, p, j, c2, rfl, hx, e1, e2, hM⟩ := (HH.out.below hbel).at k hlt
      have hj : j ≤ 1048576 := by
        have h1 := HS.out _ (List.mem_of_getElem? hx)
        have h2 := hM.1
        simp only at h1
        omega
      have HX := Lib.hid hx
      have HM := Lib.hid hM
      clear hx hbel hM
      have hi : (k : Int) < (n : Int) := by omega
      go_wp2_with fail
      refine (Di.toDist_any s p j c2 M hj _ HM.out).mono ?_
      rintro e wq ⟨gi, rfl, ho, hq⟩
      obtain rfl : M.length = j := HM.out.1
      have HQ := Lib.hid (And.intro (HR.out.1.below hq) (HR.out.2.trans (hq.mono hsz)))
      have hg := HR.out.1.lt
      have hgi := ho.lt gi rfl
      obtain ⟨⟨v0, hv0⟩, hf0⟩ := HQ.out.1.facts (k * 2) (by omega)
      obtain ⟨⟨v1, hv1⟩, hf1⟩ := HQ.out.1.facts (k * 2 + 1) (by omega)
      have HN : Hid (OwnP B ((wq.setCell ⟨B, k * 2, none⟩ (.int .i64 s)).setCell ⟨B, k * 2 + 1, none⟩ (.slice (some ⟨gi, 0, none⟩) M.length M.length)) B n L (k + 1) ∧ Below B w ((wq.setCell ⟨B, k * 2, none⟩ (.int .i64 s)).setCell ⟨B, k * 2 + 1, none⟩ (.slice (some ⟨gi, 0, none⟩) M.length M.length))) :=
        ⟨HQ.out.1.step hlt HX.out (by omega) (ownsRow_base ho (by omega)), (HQ.out.2.setCell (p := ⟨B, k * 2, none⟩) (Nat.le_refl _) _).setCell (p := ⟨B, k * 2 + 1, none⟩) (Nat.le_refl _) _⟩
      clear hq ho e1 e2 hg hgi
      go_wp2_with fail
      exact ⟨⟨k + 1, by omega, by go_num, HN⟩, by simp [intOf]; omega⟩
    · obtain rfl : k = n := by omega
      have HE := Lib.hid HR.out
      go_wp2_with fail
      go_ret
      exact ⟨_, rfl, HE.out.1, HE.out.2⟩
set_option maxRecDepth 100000 in
set_option maxHeartbeats 2000000 in
theorem eqS_same (a1 a2 : Option Addr) (n c1 c2 : Nat) (L : List Pt) (hz : n ≤ 1048576) (w : World) (h1 : HoldsZ w a1 n L) (h2 : HoldsZ w a2 n L) (hS : Sm L 1048576) :
    Calls Try.prog 59 #[.slice a1 n c1, .slice a2 n c2] w fun e w' => e = .returned (.bool true) ∧ Below w.heap.size w w' := by
  have H1 := Lib.hid h1
  have H2 := Lib.hid h2
  have HS := Lib.hid hS
  clear h1 h2 hS
  go_enter Try.func59, Try.ntmps59
  go_wp2
  go_loopw [5] (fun i wr => ∃ k : Nat, k ≤ n ∧ i = .int .i64 k ∧ Below w.heap.size w wr) (fun i _ => n - (intOf i).toNat)
  case atStart => exact ⟨0, Nat.zero_le _, rfl, Below.refl _ _⟩
  case round =>
    obtain ⟨k, hk, rfl, hb⟩ := hrel
    by_cases hlt : k < n
    · obtain ⟨b, off, s, M, p, j, d, rfl, hx, e1, e2, hM⟩ := (H1.out.below hb).at k hlt
      obtain ⟨b', off', s', M', p', j', d', rfl, hx', e1', e2', hM'⟩ := (H2.out.below hb).at k hlt
      obtain ⟨rfl, rfl⟩ : s' = s ∧ M' = M := by
        rw [hx] at hx'
        injection hx' with hx'
        injection hx' with ha hb
        exact ⟨ha.symm, hb.symm⟩
      obtain rfl : j' = j := by rw [← hM.1, ← hM'.1]
      have hj : j' ≤ 1048576 := by
        have h1 := HS.out _ (List.mem_of_getElem? hx)
        have h2 := hM.1
        simp only at h1
        omega
      have HM := Lib.hid hM
      have HM' := Lib.hid hM'
      clear hx hx' hM hM'
      have hi : (k : Int) < (n : Int) := by omega
      go_wp2_with fail
      refine wp_region_still_tail 8 (by kernel_rfl) (by kernel_rfl) ?_
      simp only [List.take_succ_cons, List.take_zero, List.drop_succ_cons, List.drop_zero]
      repeat still_step
      refine wpStill_nil ?_
      go_wp2_with fail
      refine (Di.eqDist_same s' p p' j' d d' M' hj _ (HM.out.below (Below.refl wr.heap.size wr).drew) (HM'.out.below (Below.refl wr.heap.size wr).drew)).mono ?_
      rintro e wq ⟨rfl, hq⟩
      have hb' := hb.drew.trans (hq.mono hb.drew.size)
      clear hb e1 e2 e1' e2' hq
      go_wp2_with fail
      exact ⟨⟨k + 1, by omega, by go_num, hb'⟩, by simp [intOf]; omega⟩
    · go_wp2
      go_ret
      exact ⟨rfl, hb⟩
end Go.Proofs.Ytfbgekhkbbhggaa.ZhT
