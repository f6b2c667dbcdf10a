/- The laws' copies of slices of phases, and that copies are equal. -/
import Derived.Test.YtbdplgcdnpcnfaaExactOrderPhasesSaidPartae
import Derived.StillTailTactics
import Derived.Test.YtbdplgcdnpcnfaaExactOrderPhasesSaidPartbi
import Derived.WalkLawsBesides
namespace Go.Proofs.Ytbdplgcdnpcnfaa.PhT
open Go.RowKit Pairs Rec RecEq Keep GivesI Ph
theorem infoI : (Try.prog.info? 3).map (fun i => (i.zero, i.size, i.bytes)) = some (some (.int .i64 0), 1, 8) := by kernel_rfl
theorem infoP : (Try.prog.info? 57).map (fun i => (i.zero, i.size, i.bytes)) = some (some (.agg #[.string ByteArray.empty, .slice none 0 0]), 2, 40) := by kernel_rfl
/-- A list of ints under way. -/
def UpI (B : Nat) (w wr : World) (g n : Nat) (M : List Int) (k : Nat) : Prop :=
  ∃ ys, wr.ownsRow B 3 1 (.slice (some ⟨g, 0, none⟩) n n) n ys ∧ (∀ i, i < k → ys[i]? = (ints M)[i]?) ∧ Below B w wr
theorem UpI.bel {B : Nat} {w wr : World} {g n : Nat} {M : List Int} {k : Nat} (h : UpI B w wr g n M k) : Below B w wr := by
  obtain ⟨_, _, _, h3⟩ := h
  exact h3
theorem UpI.step {B : Nat} {w wr : World} {g n : Nat} {M : List Int} {k : Nat} {x : Int} (h : UpI B w wr g n M k) (hB : B ≤ g) (hk : k < n) (hx : M[k]? = some x) :
    UpI B w (wr.setCell ⟨g, k, none⟩ (.int .i64 x)) g n M (k + 1) := by
  obtain ⟨ys, h1, h2, h3⟩ := h
  have hlen : ys.length = n * 1 := h1.1
  refine ⟨_, (h1.stored k _).1, ?_, h3.setCell (p := ⟨g, k, none⟩) hB _⟩
  intro i hi
  by_cases he : i = k
  · subst he
    rw [List.getElem?_set_self (by omega), GivesI.ints_at hx]
  · rw [List.getElem?_set_ne (by omega)]
    exact h2 i (by omega)
theorem UpI.end {B : Nat} {w wr : World} {g n : Nat} {M : List Int} (h : UpI B w wr g n M n) (hl : M.length = n) :
    wr.ownsRow B 3 1 (.slice (some ⟨g, 0, none⟩) n n) n (ints M) ∧ Below B w wr := by
  obtain ⟨ys, h1, h2, h3⟩ := h
  have hlen : ys.length = n * 1 := h1.1
  have e : ys = ints M := by
    apply List.ext_getElem?
    intro i
    by_cases hi : i < n
    · exact h2 i hi
    · rw [List.getElem?_eq_none (by omega), List.getElem?_eq_none (by rw [ints_len]; omega)]
  rw [← e]
  exact ⟨h1, h3⟩
theorem UpI.facts {B : Nat} {w wr : World} {g n : Nat} {M : List Int} {k : Nat} (h : UpI B w wr g n M k) : ∀ j, j < n → (∃ v, wr.cell? ⟨g, j, none⟩ = some v) ∧ wr.frozen? ⟨g, j, none⟩ = false := by
  obtain ⟨ys, h1, _, _⟩ := h
  intro j hj
  have hlen : ys.length = n * 1 := h1.1
  refine ⟨⟨ys[j], ?_⟩, h1.frozenAt j⟩
  rw [h1.cellAt j (by omega), List.getElem?_eq_getElem (by omega)]
set_option maxRecDepth 100000 in
set_option maxHeartbeats 1000000 in
theorem toI_any (a : Option Addr) (n c : Nat) (M : List Int) (hz : n ≤ 1048576) (w : World) (h : HoldsI w a n M) :
    Calls Try.prog 67 #[.slice a n c] w fun e w' => ∃ g : Nat, e = .returned (.slice (some ⟨g, 0, none⟩) n n) ∧ w'.ownsRow w.heap.size 3 1 (.slice (some ⟨g, 0, none⟩) n n) n (ints M) ∧ Below w.heap.size w w' := by
  obtain ⟨i0, hi, hz0, hz1, hz2⟩ := info_parts infoI
  obtain ⟨B, hB⟩ : ∃ B, w.heap.size = B := ⟨_, rfl⟩
  have HB := Lib.hid hB
  have HH := Lib.hid h
  rw [hB]
  clear hB h
  go_enter Try.func67, Try.ntmps67
  go_wp2_with (at_make; refine wpList_make_full _ rfl _ _ 43 rfl B 3 i0 (.int .i64 0) 1 Try.underlying43 hi hz0 hz1 .i64 .i64 _ _ n rfl rfl (by omega) (by omega) (by rw [hz2]; omega) (by unfold maxLen; omega) (by rw [HB.out]; omega) ?_; intro w1 hown hgrow)
  have hU : UpI B w w1 B n M 0 := by
    rw [HB.out] at hown
    exact ⟨_, hown, fun i hi => absurd hi (by omega), (Below.refl _ _).grown hgrow (by rw [HB.out]; omega) (fun k hk => by cases hk)⟩
  clear hown hgrow
  rw [HB.out]
  go_loopw [4] (fun i wr => ∃ k : Nat, k ≤ n ∧ i = .int .i64 k ∧ UpI B w wr B n M k) (fun i _ => n - (intOf i).toNat)
  case atStart => exact ⟨0, Nat.zero_le _, rfl, hU⟩
  case round =>
    obtain ⟨k, hk, rfl, hR⟩ := hrel
    clear hU
    by_cases hlt : k < n
    · have hbel := hR.bel
      rw [← HB.out] at hbel
      obtain ⟨b, off, x, rfl, hx, e1⟩ := (HH.out.below hbel).at k hlt
      have hi : (k : Int) < (n : Int) := by omega
      obtain ⟨⟨v0, hv0⟩, hf0⟩ := hR.facts k hlt
      have HR2 := Lib.hid (hR.step (Nat.le_refl _) hlt hx)
      clear hx hbel hR
      go_wp2_with fail
      exact ⟨⟨k + 1, by omega, by go_num, HR2.out⟩, by simp [intOf]; omega⟩
    · obtain rfl : k = n := by omega
      have HE := Lib.hid (hR.end HH.out.1)
      clear hR
      go_wp2_with fail
      go_ret
      exact ⟨_, rfl, HE.out.1, HE.out.2⟩
def ToAns (s : ByteArray) (n : Nat) (M : List Int) (w : World) (e : Ending) (w' : World) : Prop :=
  ∃ g : Nat, e = .returned (.agg #[.string s, .slice (some ⟨g, 0, none⟩) n n]) ∧ w'.ownsRow w.heap.size 3 1 (.slice (some ⟨g, 0, none⟩) n n) n (ints M) ∧ Below w.heap.size w w'
set_option maxRecDepth 100000 in
set_option maxHeartbeats 2000000 in
theorem toPhase_any (s : ByteArray) (a : Option Addr) (n c : Nat) (M : List Int) (hz : n ≤ 1048576) (w : World) (h : HoldsI w a n M) :
    Calls Try.prog 35 #[.agg #[.string s, .slice a n c]] w (ToAns s n M w) := by
  obtain ⟨hs, x1, x2, y1, y2, z1, z2, fy1, fy2, fz1, fz2, hb0⟩ := boxes3 w (.string s) (.slice a n c) (.string ⟨#[]⟩) (.slice none 0 0) (.string s) (.slice none 0 0) 54 57 57
  have HH := Lib.hid (h.below hb0)
  have HS := Lib.hid hs
  have HB0 := Lib.hid hb0
  clear h hs hb0
  go_enter Try.func35, Try.ntmps35
  go_wp2_with fail
  generalize ((w.alloc (.cells #[.string s, .slice a n c] 54)).alloc (.cells #[.string ⟨#[]⟩, .slice none 0 0] 57)).alloc (.cells #[.string s, .slice none 0 0] 57) = W at *
  refine (toI_any a n c M hz W HH.out).mono ?_
  rintro e w2 ⟨g, rfl, o2, b2⟩
  have lw1 : w.heap.size + 1 < W.heap.size := by rw [HS.out]; omega
  have lw2 : w.heap.size + 2 < W.heap.size := by rw [HS.out]; omega
  have k2 := (b2.cell (p := ⟨w.heap.size + 1, 0, none⟩) lw1).trans y1
  have k3 := (b2.cell (p := ⟨w.heap.size + 1, 1, none⟩) lw1).trans y2
  have k4 := (b2.cell (p := ⟨w.heap.size + 2, 0, none⟩) lw2).trans z1
  have k5 := (b2.cell (p := ⟨w.heap.size + 2, 1, none⟩) lw2).trans z2
  have m2 := (b2.frozen (p := ⟨w.heap.size + 1, 0, none⟩) lw1).trans fy1
  have m3 := (b2.frozen (p := ⟨w.heap.size + 1, 1, none⟩) lw1).trans fy2
  have m5 := (b2.frozen (p := ⟨w.heap.size + 2, 1, none⟩) lw2).trans fz2
  have O2 := Lib.hid o2
  have HB2 := Lib.hid (HB0.out.trans (b2.mono HB0.out.size))
  clear x1 x2 y1 y2 z1 z2 fy1 fy2 fz1 fz2 b2 o2
  go_wp2_with fail
  have B3 := ((HB2.out.setCell (p := ⟨w.heap.size + 1 + 1, 1, none⟩) (by show w.heap.size ≤ w.heap.size + 1 + 1; omega) (.slice (some ⟨g, 0, none⟩) n n)).setCell (p := ⟨w.heap.size + 1, 0, none⟩) (by show w.heap.size ≤ w.heap.size + 1; omega) (.string s)).setCell (p := ⟨w.heap.size + 1, 1, none⟩) (by show w.heap.size ≤ w.heap.size + 1; omega) (.slice (some ⟨g, 0, none⟩) n n)
  have O3 := ownsRow_setCell_below (ownsRow_setCell_below (ownsRow_setCell_below O2.out (a := ⟨w.heap.size + 1 + 1, 1, none⟩) lw2 (.slice (some ⟨g, 0, none⟩) n n)) (a := ⟨w.heap.size + 1, 0, none⟩) lw1 (.string s)) (a := ⟨w.heap.size + 1, 1, none⟩) lw1 (.slice (some ⟨g, 0, none⟩) n n)
  try simp only [Exit.inBlock, Exit.then]
  refine bodyPost_ret (v := .agg #[.string s, .slice (some ⟨g, 0, none⟩) n n]) (by simp [results, Try.results35, go_sem, k2, k3]) rfl ⟨g, rfl, Joins.ownsRow_le O3 (by rw [HS.out]; omega), B3⟩
/-- A copy of phases under way: the first k are there. -/
def OwnP (B : Nat) (w : World) (g n : Nat) (L : List Pt) (k : Nat) : Prop :=
  ∃ ys, w.ownsRow B 57 2 (.slice (some ⟨g, 0, none⟩) n n) n ys ∧ ∀ i x, i < k → L[i]? = some x → ys[i * 2]? = some (.string x.1) ∧
    ∃ gi, ys[i * 2 + 1]? = some (.slice (some ⟨gi, 0, none⟩) x.2.length x.2.length) ∧ gi ≠ g ∧ w.ownsRow B 3 1 (.slice (some ⟨gi, 0, none⟩) x.2.length x.2.length) x.2.length (ints x.2)
theorem OwnP.below {B : Nat} {w w' : World} {g n : Nat} {L : List Pt} {k : Nat} (h : OwnP B w g n L k) (hb : Below w.heap.size w w') : OwnP B w' g n L k := by
  obtain ⟨ys, h1, h2⟩ := h
  refine ⟨ys, ownsRow_below h1 hb, fun i x hi hx => ?_⟩
  obtain ⟨e1, gi, e2, e3, e4⟩ := h2 i x hi hx
  exact ⟨e1, gi, e2, e3, ownsRow_below e4 hb⟩
theorem OwnP.step {B : Nat} {w : World} {g n : Nat} {L : List Pt} {k gi : Nat} {s : ByteArray} {M : List Int} (h : OwnP B w g n L k) (hk : k < n) (hx : L[k]? = some (s, M)) (hne : gi ≠ g)
    (ho : w.ownsRow B 3 1 (.slice (some ⟨gi, 0, none⟩) M.length M.length) M.length (ints M)) :
    OwnP B ((w.setCell ⟨g, k * 2, none⟩ (.string s)).setCell ⟨g, k * 2 + 1, none⟩ (.slice (some ⟨gi, 0, none⟩) M.length M.length)) g n L (k + 1) := by
  obtain ⟨ys, h1, h2⟩ := h
  have hlen : ys.length = n * 2 := h1.1
  have hS : ∀ {z : Nat} {T : List Int}, z ≠ g → w.ownsRow B 3 1 (.slice (some ⟨z, 0, none⟩) T.length T.length) T.length (ints T) → ((w.setCell ⟨g, k * 2, none⟩ (.string s)).setCell ⟨g, k * 2 + 1, none⟩ (.slice (some ⟨gi, 0, none⟩) M.length M.length)).ownsRow B 3 1 (.slice (some ⟨z, 0, none⟩) T.length T.length) T.length (ints T) := by
    intro z T hz ht
    have e1 : (Value.slice (some ⟨z, 0, none⟩) T.length T.length).ownBlock = some z := rfl
    exact ((Kept.refl (fun b => b = g) w).setCell (g := g) rfl _ |>.setCell (g := g) rfl _).owns ht (fun b hb e => by rw [e1] at hb; injection hb with hb; omega)
  refine ⟨_, ((h1.stored (k * 2) _).1.stored (k * 2 + 1) _).1, fun i x hi hx2 => ?_⟩
  by_cases he : i = k
  · subst he
    rw [hx] at hx2
    injection hx2 with hx2
    subst hx2
    refine ⟨?_, gi, ?_, hne, hS hne ho⟩
    · rw [List.getElem?_set_ne (by omega), List.getElem?_set_self (by omega)]
    · rw [List.getElem?_set_self (by simp; omega)]
  · obtain ⟨e1, z, e2, e3, e4⟩ := h2 i x (by omega) hx2
    refine ⟨?_, z, ?_, e3, hS e3 e4⟩
    · rw [List.getElem?_set_ne (by omega), List.getElem?_set_ne (by omega)]
      exact e1
    · rw [List.getElem?_set_ne (by omega), List.getElem?_set_ne (by omega)]
      exact e2
theorem OwnP.facts {B : Nat} {w : World} {g n : Nat} {L : List Pt} {k : Nat} (h : OwnP B w g n L k) : ∀ j, j < n * 2 → (∃ v, w.cell? ⟨g, j, none⟩ = some v) ∧ w.frozen? ⟨g, j, none⟩ = false := by
  obtain ⟨ys, h1, _⟩ := h
  intro j hj
  have hlen : ys.length = n * 2 := h1.1
  refine ⟨⟨ys[j], ?_⟩, h1.frozenAt j⟩
  rw [h1.cellAt j (by omega), List.getElem?_eq_getElem (by omega)]
theorem OwnP.lt {B : Nat} {w : World} {g n : Nat} {L : List Pt} {k : Nat} (h : OwnP B w g n L k) : B ≤ g ∧ g < w.heap.size := by
  obtain ⟨ys, h1, _⟩ := h
  exact h1.lt g rfl
theorem OwnP.holds {B : Nat} {w : World} {g n : Nat} {L : List Pt} (h : OwnP B w g n L n) (hl : L.length = n) : HoldsP w (some ⟨g, 0, none⟩) n L := by
  obtain ⟨ys, h1, h2⟩ := h
  have hlen : ys.length = n * 2 := h1.1
  refine ⟨hl, .inr ⟨g, 0, rfl, (h1.lt g rfl).2, fun i x hi => ?_⟩⟩
  have hil := (List.getElem?_eq_some_iff.1 hi).1
  obtain ⟨e1, gi, e2, _, e4⟩ := h2 i x (by omega) hi
  refine ⟨?_, some ⟨gi, 0, none⟩, x.2.length, x.2.length, ?_, holds_own e4⟩
  · rw [Nat.zero_add, h1.cellAt _ (by omega)]
    exact e1
  · rw [Nat.zero_add, h1.cellAt _ (by omega)]
    exact e2
def ToS (n : Nat) (L : List Pt) (w : World) (e : Ending) (w' : World) : Prop :=
  ∃ g : Nat, e = .returned (.slice (some ⟨g, 0, none⟩) n n) ∧ OwnP w.heap.size w' g n L n ∧ Below w.heap.size w w'
set_option maxRecDepth 100000 in
set_option maxHeartbeats 2000000 in
theorem toPhaseS_any (a : Option Addr) (n c : Nat) (L : List Pt) (hz : n ≤ 1048576) (w : World) (h : HoldsP w a n L) (hS : Sm L 1048576) :
    Calls Try.prog 12 #[.slice a n c] w (ToS n L w) := by
  obtain ⟨i0, hi, hz0, hz1, hz2⟩ := info_parts infoP
  obtain ⟨B, hB⟩ : ∃ B, w.heap.size = B := ⟨_, rfl⟩
  have HB := Lib.hid hB
  have HH := Lib.hid h
  have HS := Lib.hid hS
  unfold ToS
  rw [hB]
  clear hB h hS
  go_enter Try.func12, Try.ntmps12
  go_wp2_with (at_make; refine wpList_make_full _ rfl _ _ 35 rfl B 57 i0 (.agg #[.string ByteArray.empty, .slice none 0 0]) 2 Try.underlying35 hi hz0 hz1 .i64 .i64 _ _ n rfl rfl (by omega) (by omega) (by rw [hz2]; omega) (by unfold maxLen; omega) (by rw [HB.out]; omega) ?_; intro w1 hown hgrow)
  have hU : Hid (OwnP B w1 B n L 0 ∧ Below B w w1) := by
    rw [HB.out] at hown
    exact ⟨⟨_, hown, fun i x hi => absurd hi (by omega)⟩, (Below.refl _ _).grown hgrow (by rw [HB.out]; omega) (fun k hk => by cases hk)⟩
  clear hown hgrow
  rw [HB.out]
  go_loopw [4] (fun i wr => ∃ k : Nat, k ≤ n ∧ i = .int .i64 k ∧ Hid (OwnP B wr B n L k ∧ Below B w wr)) (fun i _ => n - (intOf i).toNat)
  case atStart => exact ⟨0, Nat.zero_le _, rfl, hU⟩
  case round =>
    obtain ⟨k, hk, rfl, HR⟩ := hrel
    clear hU
    by_cases hlt : k < n
    · have hbel := HR.out.2
      have hsz := hbel.size
      rw [← HB.out] at hbel
      rw [HB.out] at hsz
      obtain ⟨b, off, s, M, p, j, c2, rfl, hx, e1, e2, hM⟩ := (HH.out.below hbel).at k hlt
      have hj : j ≤ 1048576 := by
        have h1 := (HS.out _ (List.mem_of_getElem? hx)).2
        have h2 := hM.1
        simp only at h1
        omega
      have HX := Lib.hid hx
      have HM := Lib.hid hM
      clear hx hbel hM
      have hi : (k : Int) < (n : Int) := by omega
      go_wp2_with fail
      refine (toPhase_any s p j c2 M hj _ HM.out).mono ?_
      rintro e wq ⟨gi, rfl, ho, hq⟩
      obtain rfl : M.length = j := HM.out.1
      have HQ := Lib.hid (And.intro (HR.out.1.below hq) (HR.out.2.trans (hq.mono hsz)))
      have hg := HR.out.1.lt
      have hgi := ho.lt gi rfl
      obtain ⟨⟨v0, hv0⟩, hf0⟩ := HQ.out.1.facts (k * 2) (by omega)
      obtain ⟨⟨v1, hv1⟩, hf1⟩ := HQ.out.1.facts (k * 2 + 1) (by omega)
      have HN : Hid (OwnP B ((wq.setCell ⟨B, k * 2, none⟩ (.string s)).setCell ⟨B, k * 2 + 1, none⟩ (.slice (some ⟨gi, 0, none⟩) M.length M.length)) B n L (k + 1) ∧ Below B w ((wq.setCell ⟨B, k * 2, none⟩ (.string s)).setCell ⟨B, k * 2 + 1, none⟩ (.slice (some ⟨gi, 0, none⟩) M.length M.length))) :=
        ⟨HQ.out.1.step hlt HX.out (by omega) (ownsRow_base ho (by omega)), (HQ.out.2.setCell (p := ⟨B, k * 2, none⟩) (Nat.le_refl _) _).setCell (p := ⟨B, k * 2 + 1, none⟩) (Nat.le_refl _) _⟩
      clear hq ho e1 e2 hg hgi
      go_wp2_with fail
      exact ⟨⟨k + 1, by omega, by go_num, HN⟩, by simp [intOf]; omega⟩
    · obtain rfl : k = n := by omega
      have HE := Lib.hid HR.out
      go_wp2_with fail
      go_ret
      exact ⟨_, rfl, HE.out.1, HE.out.2⟩
set_option maxHeartbeats 1000000 in
theorem eqPhase_same (s : ByteArray) (p1 p2 : Option Addr) (n c1 c2 : Nat) (M : List Int) (hz : n ≤ 1048576) (w : World) (h1 : HoldsI w p1 n M) (h2 : HoldsI w p2 n M) :
    Calls Try.prog 40 #[.agg #[.string s, .slice p1 n c1], .agg #[.string s, .slice p2 n c2]] w fun e w' => e = .returned (.bool true) ∧ Below w.heap.size w w' := by
  obtain ⟨hs, x1, x2, y1, y2, hb0⟩ := boxes2 w (.string s) (.slice p1 n c1) (.string s) (.slice p2 n c2) 57 57
  have H1 := Lib.hid (h1.below hb0)
  have H2 := Lib.hid (h2.below hb0)
  have HB := Lib.hid hb0
  clear h1 h2 hb0
  go_enter Try.func40, Try.ntmps40
  go_wp2_with fail
  generalize (w.alloc (.cells #[.string s, .slice p1 n c1] 57)).alloc (.cells #[.string s, .slice p2 n c2] 57) = W at *
  refine (GivesI.eq_same p1 p2 n c1 c2 M hz W H1.out H2.out).mono ?_
  rintro e w2 ⟨rfl, b2⟩
  have HB2 := Lib.hid (HB.out.trans (b2.mono HB.out.size))
  clear x1 x2 y1 y2 b2
  go_wp2_with fail
  go_ret
  exact ⟨rfl, HB2.out⟩
set_option maxRecDepth 100000 in
set_option maxHeartbeats 2000000 in
theorem eqPhaseS_same (a1 a2 : Option Addr) (n c1 c2 : Nat) (L : List Pt) (hz : n ≤ 1048576) (w : World) (h1 : HoldsP w a1 n L) (h2 : HoldsP w a2 n L) (hS : Sm L 1048576) :
    Calls Try.prog 15 #[.slice a1 n c1, .slice a2 n c2] w fun e w' => e = .returned (.bool true) ∧ Below w.heap.size w w' := by
  have H1 := Lib.hid h1
  have H2 := Lib.hid h2
  have HS := Lib.hid hS
  clear h1 h2 hS
  go_enter Try.func15, Try.ntmps15
  go_wp2
  go_loopw [5] (fun i wr => ∃ k : Nat, k ≤ n ∧ i = .int .i64 k ∧ Below w.heap.size w wr) (fun i _ => n - (intOf i).toNat)
  case atStart => exact ⟨0, Nat.zero_le _, rfl, Below.refl _ _⟩
  case round =>
    obtain ⟨k, hk, rfl, hb⟩ := hrel
    by_cases hlt : k < n
    · obtain ⟨b, off, s, M, p, j, d, rfl, hx, e1, e2, hM⟩ := (H1.out.below hb).at k hlt
      obtain ⟨b', off', s', M', p', j', d', rfl, hx', e1', e2', hM'⟩ := (H2.out.below hb).at k hlt
      obtain ⟨rfl, rfl⟩ : s' = s ∧ M' = M := by
        rw [hx] at hx'
        injection hx' with hx'
        injection hx' with ha hb
        exact ⟨ha.symm, hb.symm⟩
      obtain rfl : j' = j := by rw [← hM.1, ← hM'.1]
      have hj : j' ≤ 1048576 := by
        have h1 := (HS.out _ (List.mem_of_getElem? hx)).2
        have h2 := hM.1
        simp only at h1
        omega
      have HM := Lib.hid hM
      have HM' := Lib.hid hM'
      clear hx hx' hM hM'
      have hi : (k : Int) < (n : Int) := by omega
      go_wp2_with fail
      refine wp_region_still_tail 8 (by kernel_rfl) (by kernel_rfl) ?_
      simp only [List.take_succ_cons, List.take_zero, List.drop_succ_cons, List.drop_zero]
      repeat still_step
      refine wpStill_nil ?_
      go_wp2_with fail
      refine (eqPhase_same s' p p' j' d d' M' hj _ (HM.out.below (Below.refl wr.heap.size wr).drew) (HM'.out.below (Below.refl wr.heap.size wr).drew)).mono ?_
      rintro e wq ⟨rfl, hq⟩
      have hb' := hb.drew.trans (hq.mono hb.drew.size)
      clear hb e1 e2 e1' e2' hq
      go_wp2_with fail
      exact ⟨⟨k + 1, by omega, by go_num, hb'⟩, by simp [intOf]; omega⟩
    · go_wp2
      go_ret
      exact ⟨rfl, hb⟩
end Go.Proofs.Ytbdplgcdnpcnfaa.PhT
/- The law file's markText, for a seat without lists of strings; the marks on a copy of phases. -/
namespace Go.Proofs.Ytbdplgcdnpcnfaa.Mt
open Go.RowKit Pairs Rec Keep GivesI Ph PhT

def dg (d : Nat) : ByteArray := ⟨#[UInt8.ofNat (48 + d)]⟩
theorem dg_size (d : Nat) : (dg d).size = 1 := rfl
/-- The numeral's digits ahead of r. -/
def fd : Nat → Nat → ByteArray → ByteArray
  | 0, _, r => r
  | _ + 1, 0, r => r
  | f + 1, j + 1, r => fd f ((j + 1) / 10) (dg ((j + 1) % 10) ++ r)
def mt (k : Nat) : ByteArray := ⟨#[109]⟩ ++ fd k k ⟨#[]⟩

theorem conv_dg (d : Nat) (hd : d < 10) (W : World) :
    (convert 101 9 (.slice (some ⟨W.heap.size, 0, none⟩) 1 1)).run Try.prog (W.alloc (.cells #[.int .u8 (48 + (d : Int))] 5)) = .ok (.string (dg d)) (W.alloc (.cells #[.int .u8 (48 + (d : Int))] 5)) := by
  have h := run_convert_bytes_back (P := Try.prog) (W.alloc (.cells #[.int .u8 (48 + (d : Int))] 5)) 101 9 5 ⟨W.heap.size, 0, none⟩ 1 [UInt8.ofNat (48 + d)] Try.underlying101 Try.underlying5 Try.underlying9
  have hb : (UInt8.ofNat (48 + d)).toNat = 48 + d := by
    have : ∀ d : Fin 10, (UInt8.ofNat (48 + d)).toNat = 48 + d.val := by decide
    exact this ⟨d, hd⟩
  refine h (fun j hj => ?_)
  obtain rfl : j = 0 := by simpa using hj
  simp only [List.getElem_cons_zero, hb]
  simp [Addr.add]

set_option maxHeartbeats 1000000 in
theorem markText_any (k : Nat) (h1 : 1 ≤ k) (h2 : k ≤ 10000000) (w : World) :
    Calls Try.prog 49 #[.int .i64 k] w fun e w' => e = .returned (.string (mt k)) ∧ Below w.heap.size w w' := by
  go_enter Try.func49, Try.ntmps49
  go_wp2
  go_loopw [0, 3] (fun kk out wr => ∃ (f j : Nat) (r : ByteArray), kk = .int .i64 j ∧ out = .string r ∧ j ≤ f ∧ r.size + j ≤ k ∧ Hid (fd f j r = fd k k ⟨#[]⟩) ∧ Below w.heap.size w wr) (fun kk _ _ => (intOf kk).toNat)
  case atStart => exact ⟨k, k, _, rfl, rfl, Nat.le_refl _, by show 0 + k ≤ k; omega, rfl, Below.refl _ _⟩
  case round =>
    obtain ⟨f, j, r, rfl, rfl, hjf, hrj, HF, hbel⟩ := hrel
    by_cases hj : 1 ≤ j
    · obtain ⟨f, rfl⟩ : ∃ f', f = f' + 1 := ⟨f - 1, by omega⟩
      have hfd : fd f (j / 10) (dg (j % 10) ++ r) = fd k k ⟨#[]⟩ := by
        rw [← HF.out]
        obtain ⟨j', rfl⟩ : ∃ j', j = j' + 1 := ⟨j - 1, by omega⟩
        rfl
      have HFD := Lib.hid hfd
      obtain ⟨d, hdd⟩ : ∃ d : Nat, d = j % 10 := ⟨_, rfl⟩
      have hd10 : d < 10 := by omega
      have m0 : (j : Int) % 10 = (d : Int) := by omega
      have HD := Lib.hid hdd
      clear hfd hdd
      have hcv := conv_dg d hd10
      have hz := hbel.size
      have had := fun W : World => run_string_add_sum (P := Try.prog) W (dg d) r (by rw [dg_size]; omega)
      go_wp2
      go_roundw
      case rel => exact ⟨f, j / 10, dg d ++ r, by go_num, rfl, by omega, by rw [ByteArray.size_append, dg_size]; omega, by rw [HD.out]; exact HFD, hbel.alloc hz _⟩
      case measure => simp [intOf]; omega
    · obtain rfl : j = 0 := by omega
      have hfd : mt k = ⟨#[109]⟩ ++ r := by
        unfold mt
        rw [← HF.out]
        cases f <;> rfl
      have HFD := Lib.hid hfd
      clear hfd
      have had := fun W : World => run_string_add_sum (P := Try.prog) W ⟨#[109]⟩ r (by show 1 + _ ≤ _; omega)
      go_wp2
      go_ret
      exact ⟨by rw [HFD.out]; rfl, hbel⟩

/-- A row of n cells that may be written, whatever they hold. -/
def Free (w : World) (g n : Nat) : Prop := ∀ j, j < n → (∃ v, w.cell? ⟨g, j, none⟩ = some v) ∧ w.frozen? ⟨g, j, none⟩ = false
theorem Free.below {w w' : World} {g n : Nat} (h : Free w g n) (hb : Below w.heap.size w w') : Free w' g n := fun j hj => by
  obtain ⟨⟨v, hv⟩, hf⟩ := h j hj
  have hlt := World.block_lt_of_cell? w _ hv
  exact ⟨⟨v, (hb.cell (p := ⟨g, j, none⟩) hlt).trans hv⟩, (hb.frozen (p := ⟨g, j, none⟩) hlt).trans hf⟩
theorem Free.set {w : World} {g n : Nat} (h : Free w g n) (a : Addr) (u : Value) : Free (w.setCell a u) g n := fun j hj => by
  obtain ⟨⟨v, hv⟩, hf⟩ := h j hj
  refine ⟨?_, by rw [World.frozen?_setCell]; exact hf⟩
  by_cases e : a = ⟨g, j, none⟩
  · subst e
    exact ⟨u, World.cell?_setCell_same _ _ _ hv⟩
  · exact ⟨v, (World.cell?_setCell_other _ _ _ _ e).trans hv⟩
theorem Free.of_row {w : World} {B g n : Nat} {ys : List Value} (h : w.ownsRow B 3 1 (.slice (some ⟨g, 0, none⟩) n n) n ys) : Free w g n := fun j hj => by
  have hlen : ys.length = n * 1 := h.1
  refine ⟨⟨ys[j], ?_⟩, h.frozenAt j⟩
  rw [h.cellAt j (by omega), List.getElem?_eq_getElem (by omega)]
def Frees (w w' : World) : Prop := ∀ g m, Free w g m → Free w' g m
set_option maxRecDepth 100000 in
set_option maxHeartbeats 1000000 in
/-- markIntS on such a row: nothing but the row is turned. -/
theorem markI_any (g n c : Nat) (k : Int) (hk0 : 0 ≤ k) (hk1 : k ≤ 10000000) (hz : n ≤ 1048576) (w : World) (h : Free w g n) :
    Calls Try.prog 23 #[.slice (some ⟨g, 0, none⟩) n c, .int .i64 k] w fun e w' => e = .returned (.int .i64 (k + n)) ∧ Kept (fun b => b = g) w w' ∧ Frees w w' := by
  have HF := Lib.hid h
  clear h
  go_enter Try.func23, Try.ntmps23
  go_wp2_with fail
  go_loopw [1, 5] (fun s1 s5 wr => ∃ j : Nat, j ≤ n ∧ s5 = .int .i64 j ∧ s1 = .int .i64 (k + j) ∧ Hid (Kept (fun b => b = g) w wr ∧ Frees w wr)) (fun _ s5 _ => n - (intOf s5).toNat)
  case atStart => exact ⟨0, Nat.zero_le _, rfl, by simp, Kept.refl _ _, fun _ _ h => h⟩
  case round =>
    obtain ⟨j, hj, rfl, rfl, HR⟩ := hrel
    by_cases hlt : j < n
    · have hi : (j : Int) < (n : Int) := by omega
      obtain ⟨⟨v0, hv0⟩, hf0⟩ := HR.out.2 g n HF.out j hlt
      have HR2 : Hid (Kept (fun b => b = g) w (wr.setCell ⟨g, j, none⟩ (.int .i64 (k + j))) ∧ Frees w (wr.setCell ⟨g, j, none⟩ (.int .i64 (k + j)))) := ⟨HR.out.1.setCell (g := g) rfl _, fun g' m h => (HR.out.2 g' m h).set _ _⟩
      go_wp2_with fail
      exact ⟨⟨j + 1, by omega, by go_num, by go_num, HR2⟩, by simp [intOf]; omega⟩
    · obtain rfl : j = n := by omega
      have HE := Lib.hid HR.out
      go_wp2_with fail
      go_ret
      exact ⟨rfl, HE.out⟩
/-- What a marking of phases needs: the row, and rows of members of their own blocks, from B on and ahead of D. -/
def MkP (B D : Nat) (w : World) (g n : Nat) (L : List Pt) : Prop :=
  L.length = n ∧ B ≤ g ∧ g < D ∧ Free w g (n * 2) ∧ ∀ (i : Nat) (x : Pt), L[i]? = some x → ∃ gi : Nat, gi ≠ g ∧ B ≤ gi ∧ gi < D ∧ w.cell? ⟨g, i * 2 + 1, none⟩ = some (.slice (some ⟨gi, 0, none⟩) x.2.length x.2.length) ∧ Free w gi x.2.length
theorem mkP_of {B : Nat} {w : World} {g n : Nat} {L : List Pt} (h : OwnP B w g n L n) (hl : L.length = n) : MkP B w.heap.size w g n L := by
  refine ⟨hl, h.lt.1, h.lt.2, h.facts, fun i x hx => ?_⟩
  obtain ⟨ys, h1, h2⟩ := h
  have hlen : ys.length = n * 2 := h1.1
  have hil := (List.getElem?_eq_some_iff.1 hx).1
  obtain ⟨e1, gi, e2, e3, e4⟩ := h2 i x (by omega) hx
  exact ⟨gi, e3, (e4.lt gi rfl).1, (e4.lt gi rfl).2, by rw [h1.cellAt _ (by omega)]; exact e2, Free.of_row e4⟩
theorem MkP.below {B D : Nat} {w w' : World} {g n : Nat} {L : List Pt} (h : MkP B D w g n L) (hb : Below w.heap.size w w') : MkP B D w' g n L :=
  ⟨h.1, h.2.1, h.2.2.1, h.2.2.2.1.below hb, fun i x hx => by
    obtain ⟨gi, h1, h2, h3, h4, h5⟩ := h.2.2.2.2 i x hx
    exact ⟨gi, h1, h2, h3, (hb.cell (p := ⟨g, i * 2 + 1, none⟩) (World.block_lt_of_cell? w _ h4)).trans h4, h5.below hb⟩⟩
theorem MkP.kept {B D : Nat} {w w' : World} {g n : Nat} {L : List Pt} {S : Nat → Prop} (h : MkP B D w g n L) (k : Kept S w w') (hS : ¬ S g) (hf : Frees w w') : MkP B D w' g n L :=
  ⟨h.1, h.2.1, h.2.2.1, hf _ _ h.2.2.2.1, fun i x hx => by
    obtain ⟨gi, h1, h2, h3, h4, h5⟩ := h.2.2.2.2 i x hx
    exact ⟨gi, h1, h2, h3, k.cell h4 hS, hf _ _ h5⟩⟩
theorem MkP.name {B D : Nat} {w : World} {g n : Nat} {L : List Pt} (h : MkP B D w g n L) (i : Nat) (u : Value) : MkP B D (w.setCell ⟨g, i * 2, none⟩ u) g n L :=
  ⟨h.1, h.2.1, h.2.2.1, h.2.2.2.1.set _ _, fun j x hx => by
    obtain ⟨gi, h1, h2, h3, h4, h5⟩ := h.2.2.2.2 j x hx
    exact ⟨gi, h1, h2, h3, (World.cell?_setCell_other _ _ _ _ (by intro e; have := congrArg Addr.off e; simp at this; omega)).trans h4, h5.set _ _⟩⟩
def MkAns (B D : Nat) (w : World) (e : Ending) (w' : World) : Prop := ∃ r : Nat, e = .returned (.int .i64 (r : Int)) ∧ Kept (fun b => B ≤ b ∧ b < D) w w'
set_option maxRecDepth 100000 in
set_option maxHeartbeats 2000000 in
theorem markP_any (B D g n c : Nat) (L : List Pt) (k0 : Nat) (hk0 : 1 ≤ k0) (hk1 : k0 ≤ 5000000) (hn : n ≤ 1048576) (hS : Sm L 1048576) (hT : PhL2.tot L ≤ 1048576) (w : World) (h : MkP B D w g n L) :
    Calls Try.prog 22 #[.slice (some ⟨g, 0, none⟩) n c, .int .i64 (k0 : Int)] w (MkAns B D w) := by
  have HL := Lib.hid h.1
  have HG := Lib.hid (And.intro h.2.1 h.2.2.1)
  have HS := Lib.hid hS
  have HT := Lib.hid hT
  have HM := Lib.hid h
  clear h hS hT
  go_enter Try.func22, Try.ntmps22
  go_wp2_with fail
  go_loopw [1, 5] (fun s1 s5 wr => ∃ i k : Nat, i ≤ n ∧ s5 = .int .i64 i ∧ s1 = .int .i64 (k : Int) ∧ Hid (k = k0 + i + PhL2.tot (L.take i)) ∧ Hid (MkP B D wr g n L ∧ Kept (fun b => B ≤ b ∧ b < D) w wr)) (fun _ s5 _ => n - (intOf s5).toNat)
  case atStart => exact ⟨0, k0, Nat.zero_le _, rfl, rfl, rfl, HM.out, Kept.refl _ _⟩
  case round =>
    obtain ⟨i, k, hi, rfl, rfl, HK0, HR⟩ := hrel
    by_cases hlt : i < n
    · have hk := HK0.out
      obtain ⟨x, hx⟩ : ∃ x, L[i]? = some x := ⟨L[i]'(by rw [HL.out]; exact hlt), List.getElem?_eq_getElem (by rw [HL.out]; exact hlt)⟩
      obtain ⟨gi, q1, q2, q3, q4, q5⟩ := HR.out.1.2.2.2.2 i x hx
      have htt : PhL2.tot (L.take (i + 1)) ≤ PhL2.tot L := PhL2.tot_le _ _
      have hnx := PhL2.tot_next hx
      have hTT := HT.out
      have hxl := (HS.out x (List.mem_of_getElem? hx)).2
      have hki : k ≤ 9000000 := by omega
      have hk1' : 1 ≤ k := by omega
      have HK : Hid (k + 1 + x.2.length = k0 + (i + 1) + PhL2.tot (L.take (i + 1))) := by unfold Hid; omega
      have hii : (i : Int) < (n : Int) := by omega
      have hi0 : (0 : Int) ≤ (i : Int) := by omega
      have Q := Lib.hid (And.intro q1 (And.intro q2 q3))
      clear htt hnx hTT hk q1 q2 q3 q4 q5
      go_wp2_with fail
      refine (markText_any k hk1' (by omega) wr).mono ?_
      rintro e w2 ⟨rfl, b2⟩
      have HR2 : Hid (MkP B D w2 g n L ∧ Kept (fun b => B ≤ b ∧ b < D) w w2) := ⟨HR.out.1.below b2, HR.out.2.trans (Kept.of b2)⟩
      clear b2
      obtain ⟨⟨v0, hv0⟩, hf0⟩ := HR2.out.1.2.2.2.1 (i * 2) (by omega)
      have HR3 : Hid (MkP B D (w2.setCell ⟨g, i * 2, none⟩ (.string (mt k))) g n L ∧ Kept (fun b => B ≤ b ∧ b < D) w (w2.setCell ⟨g, i * 2, none⟩ (.string (mt k)))) := ⟨HR2.out.1.name i _, HR2.out.2.setCell (g := g) HG.out _⟩
      obtain ⟨gj, p1, p2, p3, p4, p5⟩ := HR3.out.1.2.2.2.2 i x hx
      have P := Lib.hid (And.intro p1 (And.intro p2 (And.intro p3 p5)))
      clear p1 p2 p3 p5 hx
      go_wp2_with fail
      generalize w2.setCell ⟨g, i * 2, none⟩ (.string (mt k)) = W3 at *
      clear p4 hv0 hf0
      refine (markI_any gj x.2.length x.2.length ((k : Int) + 1) (by omega) (by omega) hxl W3 P.out.2.2.2).mono ?_
      rintro e w4 ⟨rfl, q4, f4⟩
      have HR4 : Hid (MkP B D w4 g n L ∧ Kept (fun b => B ≤ b ∧ b < D) w w4) := ⟨HR3.out.1.kept q4 (fun e => P.out.1 e.symm) f4, HR3.out.2.trans (q4.mono fun b hb => by rw [hb]; exact ⟨P.out.2.1, P.out.2.2.1⟩)⟩
      clear q4 f4
      generalize x.2.length = xl at *
      have HKI : Hid ((k : Int) + 1 + (xl : Int) = ((k + 1 + xl : Nat) : Int)) := by unfold Hid; omega
      go_wp2_with fail
      exact ⟨⟨i + 1, k + 1 + xl, by omega, by go_num, by rw [HKI.out], HK, HR4⟩, by simp [intOf]; omega⟩
    · obtain rfl : i = n := by omega
      have hii : ¬ (i : Int) < (i : Int) := by omega
      have HE := Lib.hid HR.out.2
      go_wp2_with fail
      go_ret
      exact ⟨k, rfl, HE.out⟩
theorem Free.keptS {S : Nat → Prop} {w w' : World} {g n : Nat} (h : Free w g n) (k : Kept S w w') (hs : ¬ S g) : Free w' g n := fun j hj => by
  obtain ⟨⟨v, hv⟩, hf⟩ := h j hj
  refine ⟨⟨v, k.cell hv hs⟩, ?_⟩
  have hb := k.block g (World.block_lt_of_cell? w _ hv) hs
  unfold World.frozen? at *
  rw [hb]
  exact hf
theorem MkP.keptS {B D : Nat} {w w' : World} {g n : Nat} {L : List Pt} {S : Nat → Prop} (h : MkP B D w g n L) (k : Kept S w w') (hs : ∀ b, B ≤ b → b < D → ¬ S b) : MkP B D w' g n L :=
  ⟨h.1, h.2.1, h.2.2.1, h.2.2.2.1.keptS k (hs g h.2.1 h.2.2.1), fun i x hx => by
    obtain ⟨gi, h1, h2, h3, h4, h5⟩ := h.2.2.2.2 i x hx
    exact ⟨gi, h1, h2, h3, k.cell h4 (hs g h.2.1 h.2.2.1), h5.keptS k (hs gi h2 h3)⟩⟩
end Go.Proofs.Ytbdplgcdnpcnfaa.Mt
