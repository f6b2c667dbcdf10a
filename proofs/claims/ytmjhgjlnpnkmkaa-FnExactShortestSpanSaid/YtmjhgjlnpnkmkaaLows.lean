/- The program's lowersOf: a map from every Upper context to its Lower ones. -/
import Derived.Test.YtmjhgjlnpnkmkaaChain
import Derived.Test.YtmjhgjlnpnkmkaaGood2
import Derived.Test.YtmjhgjlnpnkmkaaMapStep
import Derived.Maps.GroupsBeside
import Derived.Deep.AppendLies
import Derived.Deep.RegionHeld3
namespace Go.Proofs.Ytmjhgjlnpnkmkaa.Lows
open Go.RowKit Go.Maps Go.ChangeShapes Pairs Chain Find2 GoodM MapStep
theorem infoInt : (Try.prog.info? 3).map (fun i => (i.zero, i.size, i.bytes)) = some (some (.int .i64 0), 1, 8) := by kernel_rfl
theorem zeroL (w : World) : (zeroValue 40).run Try.prog w = .ok (.slice none 0 0) w := by kernel_rfl
theorem law : Keyed Try.prog 3 := int_keyed Try.underlying3
theorem wfI {x : Int} (h : -1000000 ≤ x ∧ x ≤ 1000000) : (Lit.int .i64 x).wf = true := WalkArith.wf_i64 (by omega)
theorem keyI {x : Int} (h : -1000000 ≤ x ∧ x ≤ 1000000) : keyOf Try.prog 3 (.int .i64 x) = some (.int .i64 x) := keyOf_int_mk Try.underlying3 (wfI h)
abbrev Dat := DataW Unit
def GD (m : Ps) (D : Dat) : Prop := ∀ x : Int, D.atKey (.int .i64 x) .nil = if lows m x = [] then .nil else .slice (lits .i64 (lows m x)) []
theorem gd_start : GD [] (.map []) := fun x => by
  rw [show lows [] x = [] from rfl, if_pos rfl]
  rfl
theorem lits_inj {a b : List Int} (h : (lits .i64 a : List Dat) = lits .i64 b) : a = b := by
  unfold lits at h
  exact (List.map_inj_right (fun x y e => by injection e with e; injection e)).1 h
theorem gd_at {m : Ps} {D : Dat} (h : GD m D) {w : World} {B : Nat} {x : Int} {v : Value} {zs : List Int} (hat : D.atKey (.int .i64 x) .nil = rowDatum .i64 v zs) (ho : w.ownsInts B 3 .i64 v zs) : zs = lows m x := by
  have e := h x
  rw [hat] at e
  rcases ho.datum (H := Unit) with ⟨h1, h2⟩ | h1
  · rw [h1] at e
    by_cases hl : lows m x = []
    · rw [h2, hl]
    · rw [if_neg hl] at e
      cases e
  · rw [h1] at e
    by_cases hl : lows m x = []
    · rw [if_pos hl] at e
      cases e
    · rw [if_neg hl] at e
      injection e with e
      exact lits_inj e
theorem gd_next {m : Ps} {k : Nat} {D : Dat} {x y : Int} {v : Value} (h : GD (m.take k) D) (hD : IsMap D) (hx : m[k]? = some (x, y)) (hv : rowDatum .i64 v (lows (m.take k) x ++ [y]) = (.slice (lits .i64 (lows (m.take k) x ++ [y])) [] : Dat)) :
    GD (m.take (k + 1)) (D.put (.int .i64 x) (rowDatum .i64 v (lows (m.take k) x ++ [y]))) := by
  intro z
  rw [lows_next hx z]
  by_cases e : x = z
  · subst e
    rw [atKey_put_same hD (show WideAt.IsKeyLit (.int .i64 x) from trivial), hv, if_pos rfl, if_neg (by simp)]
  · rw [atKey_put_other (by intro h2; injection h2 with _ h2; exact e h2.symm), if_neg e, List.append_nil]
    exact h z
def LowsAt (w : World) (b : Nat) (m : Ps) (k : Nat) : Prop := ∃ D : Dat, w.ownsGroups Try.prog 3 (b + 1) 3 .i64 b k D ∧ GD m D
theorem grown_none {w w' : World} (h : Below w.heap.size w w') : w.grownBy w' none := ⟨h.os, h.tape, h.output, h.size, fun k hk _ => h.block k hk⟩
theorem groups_below {w w' : World} {b k n : Nat} {D : Dat} (h : w.ownsGroups Try.prog 3 b 3 .i64 k n D) (hb : Below w.heap.size w w') : w'.ownsGroups Try.prog 3 b 3 .i64 k n D :=
  h.kept (grown_none hb) (by simp) (fun es clock _ x _ => by
    cases x.val.ownBlock with
    | none => exact .inl rfl
    | some g => exact .inr (by simp))
theorem LowsAt.below {w w' : World} {b k : Nat} {m : Ps} (h : LowsAt w b m k) (hb : Below w.heap.size w w') : LowsAt w' b m k := by
  obtain ⟨D, h1, h2⟩ := h
  exact ⟨D, groups_below h1 hb, h2⟩
theorem isMap {w : World} {b k n : Nat} {D : Dat} (h : w.ownsGroups Try.prog 3 b 3 .i64 k n D) : IsMap D := by
  obtain ⟨_, _, _, _, _, hD, _⟩ := h
  exact ⟨_, hD⟩
/-- The numbers of a valid record. -/
theorem nums {l m : Ps} (h : good l m = true) {x y : Int} {i : Nat} (hx : l[i]? = some (x, y)) : 1 ≤ x ∧ x ≤ 999 := by
  unfold good at h
  simp only [Bool.and_eq_true, decide_eq_true_eq] at h
  have hil : i < l.length := (List.getElem?_eq_some_iff.1 hx).1
  have := (List.all_eq_true.1 h.1.2) i (List.mem_range.2 hil)
  unfold okC at this
  rw [hx] at this
  simp only [Bool.and_eq_true, decide_eq_true_eq] at this
  exact ⟨this.1.1.1.1, this.1.1.1.2⟩
theorem rels {l m : Ps} (h : good l m = true) {x y : Int} (hm : (x, y) ∈ m) : (1 ≤ x ∧ x ≤ 999) ∧ (1 ≤ y ∧ y ≤ 999) := by
  obtain ⟨k, hk, e⟩ := List.getElem_of_mem hm
  have h0 := h
  unfold good at h
  simp only [Bool.and_eq_true, decide_eq_true_eq] at h
  have := (List.all_eq_true.1 h.2) k (List.mem_range.2 hk)
  unfold okR at this
  rw [List.getElem?_eq_getElem hk, e] at this
  simp only [Bool.and_eq_true, Option.isSome_iff_exists] at this
  obtain ⟨⟨⟨_, i, hi⟩, j, hj⟩, _⟩ := this
  obtain ⟨u, hu⟩ := isAt_num hi
  obtain ⟨v, hv⟩ := isAt_num hj
  exact ⟨nums h0 hu, nums h0 hv⟩
theorem belA {W X : World} (h : Below W.heap.size W X) (o : Obj) : Below W.heap.size W (X.alloc o) := h.alloc h.size o
/-- The box of a relation that is looked at. -/
def Box (bx : Nat) (x y : Int) (X : World) : Prop := X.heap[bx]? = some (.cells #[.int .i64 x, .int .i64 y] 110)
def SB (bx : Nat) (x y : Int) (X : World) : Prop := X.cell? ⟨bx, 0, none⟩ = some (.int .i64 x) ∧ X.cell? ⟨bx, 1, none⟩ = some (.int .i64 y)
theorem Box.sb {bx : Nat} {x y : Int} {X : World} (h : Box bx x y X) : SB bx x y X := by
  refine ⟨?_, ?_⟩ <;> (simp only [World.cell?]; unfold Box at h; rw [h]; rfl)
theorem Box.below {bx : Nat} {x y : Int} {Z X : World} (h : Box bx x y Z) (hb : Below Z.heap.size Z X) : Box bx x y X := (hb.block bx (Array.getElem?_eq_some_iff.1 h).1).trans h
theorem Box.grown {bx : Nat} {x y : Int} {Z X : World} {row : Option Nat} (h : Box bx x y Z) (hg : Z.grownBy X row) (hne : some bx ≠ row) : Box bx x y X := (hg.block bx (Array.getElem?_eq_some_iff.1 h).1 hne).trans h
theorem Box.ne {bx : Nat} {x y : Int} {X : World} (h : Box bx x y X) {base : Nat} {v : Value} {zs : List Int} (ho : X.ownsInts base 3 .i64 v zs) : some bx ≠ v.ownBlock := by
  intro e
  rcases ho.1.2 with ⟨hv, _⟩ | ⟨g, cap, cur, hv, _, hg, _⟩
  · rw [hv] at e; cases e
  · have e2 : bx = g := by rw [hv] at e; exact Option.some.inj e
    subst e2
    unfold Box at h
    rw [h] at hg
    injection hg with hg
    injection hg with _ hg _
    exact absurd hg (by decide)
theorem loc {X0 : World} {v : Value} {g H n c : Nat} (hat : v.ownBlock = some g ∨ g = H) (hH : X0.heap.size ≤ H) : (Value.slice (some ⟨g, 0, none⟩) n c).ownBlock = v.ownBlock ∨ ∃ g', (Value.slice (some ⟨g, 0, none⟩) n c).ownBlock = some g' ∧ X0.heap.size ≤ g' := by
  rcases hat with h | h
  · exact .inl (by rw [h]; rfl)
  · exact .inr ⟨g, rfl, by omega⟩
theorem down {W0 Z X w9 : World} {row : Option Nat} (h : Below W0.heap.size W0 Z) (hb : Below Z.heap.size Z X) (hg : X.grownBy w9 row) (hr : ∀ j, row = some j → W0.heap.size ≤ j) : Below W0.heap.size W0 w9 :=
  (h.trans (hb.mono h.size)).grown hg (h.trans (hb.mono h.size)).size hr
theorem one_new (X : World) (x : Value) (T : TypeId) : ∀ j u, [x][j]? = some u → (X.alloc (.cells #[x] T)).cell? ((⟨X.heap.size, 0, none⟩ : Addr).add j) = some u := cell_one_new X x T
theorem one_drew (X : World) (x : Value) (T : TypeId) : ∀ j u, [x][j]? = some u → (X.alloc (.cells #[x] T)).drew.cell? ((⟨X.heap.size, 0, none⟩ : Addr).add j) = some u := cell_one_new X x T
def LowsAns (m : Ps) (n : Nat) (w : World) (e : Ending) (w' : World) : Prop := ∃ b, e = .returned (.map (some b)) ∧ LowsAt w' b m n ∧ w.heap.size ≤ b ∧ Below w.heap.size w w'
set_option maxRecDepth 100000 in
set_option maxHeartbeats 8000000 in
theorem lowersOf_any (a1 a2 : Option Addr) (n1 c1 n2 c2 : Nat) (l m : List (Int × Int)) (w : World) (hgood : good l m = true) (h2 : Holds w a2 n2 m) :
    Calls Try.prog 111 #[.agg #[.slice a1 n1 c1, .slice a2 n2 c2]] w (LowsAns m n2 w) := by
  obtain ⟨i0, hi, hy0, hy1, hy2⟩ := info_parts infoInt
  have hmm := @run_makeMap Try.prog
  have hn2 : n2 ≤ 24 := by
    rw [← h2.1]
    unfold good at hgood
    simp only [Bool.and_eq_true, decide_eq_true_eq] at hgood
    exact hgood.1.1.2
  have HL2 := Lib.hid h2.1
  have hb := below_alloc w (.cells #[.slice a1 n1 c1, .slice a2 n2 c2] 33)
  have hf2 := box_second w (.slice a1 n1 c1) (.slice a2 n2 c2) 33
  have hsz : w.heap.size < (w.alloc (.cells #[.slice a1 n1 c1, .slice a2 n2 c2] 33)).heap.size := by simp
  have hWe : (w.alloc (.cells #[.slice a1 n1 c1, .slice a2 n2 c2] 33)).heap.size = w.heap.size + 1 := by simp
  have HWE := Lib.hid hWe
  have H2 := Lib.hid (h2.below hb)
  have HG := Lib.hid hgood
  have HB := Lib.hid hb
  clear h2 hgood hWe hb
  go_enter Try.func111, Try.ntmps111
  go_wp2_with fail
  generalize w.alloc (.cells #[.slice a1 n1 c1, .slice a2 n2 c2] 33) = W0 at *
  have hO0 := World.ownsGroups_made (H := Unit) W0 Try.prog 3 3 .i64
  have hB0 := below_alloc W0 (.map #[] 0)
  rw [HWE.out] at hO0
  have HB1 := Lib.hid (HB.out.trans (hB0.mono HB.out.size))
  have hLw : LowsAt (W0.alloc (.map #[] 0)) (w.heap.size + 1) (m.take 0) 0 := ⟨_, hO0, gd_start⟩
  have HLw := Lib.hid hLw
  have hS1 : (W0.alloc (.map #[] 0)).heap.size = w.heap.size + 2 := by simp [HWE.out]
  clear hO0 hLw hmm
  generalize W0.alloc (.map #[] 0) = W1 at *
  go_loopw [10] (fun s10 wr => ∃ k : Nat, k ≤ n2 ∧ s10 = .int .i64 k ∧ Hid (LowsAt wr (w.heap.size + 1) (m.take k) k) ∧ Hid (Below W0.heap.size W0 wr) ∧ w.heap.size + 2 ≤ wr.heap.size) (fun s10 _ => n2 - (intOf s10).toNat)
  case atStart => exact ⟨0, Nat.zero_le _, rfl, HLw, Lib.hid hB0, by omega⟩
  case round =>
    obtain ⟨k, hk, rfl, HL, HBL, hws⟩ := hrel
    clear HLw hB0 hS1 HB1
    by_cases hlt : k < n2
    · obtain ⟨bb, off, x, y, rfl, hx, e1, e2⟩ := (H2.out.below HBL.out).at k hlt
      have hkn : (k : Int) < (n2 : Int) := by omega
      have hr := rels HG.out (List.mem_of_getElem? hx)
      obtain ⟨D, hown, hgd⟩ := HL.out
      have hbz := below_alloc wr (.cells #[.int .i64 x, .int .i64 y] 110)
      have hbx : Box wr.heap.size x y (wr.alloc (.cells #[.int .i64 x, .int .i64 y] 110)) := heap_alloc_new wr _
      have HOZ := Lib.hid (groups_below hown hbz)
      have HBX := Lib.hid hbx
      have HBZ := Lib.hid (HBL.out.trans (hbz.mono HBL.out.size))
      have hzs : wr.heap.size < (wr.alloc (.cells #[.int .i64 x, .int .i64 y] 110)).heap.size := by simp
      have HK := Lib.hid (keyI (x := x) (by omega))
      have HWF := Lib.hid (wfI (x := y) (by omega))
      have HGD := Lib.hid hgd
      have HX := Lib.hid hx
      obtain ⟨v1, v2⟩ := hbx.sb
      clear hown hgd hbz hbx hx hr HL HBL
      go_wp2_with fail
      generalize wr.alloc (.cells #[.int .i64 x, .int .i64 y] 110) = Z at *
      generalize wr.heap.size = bx at *
      clear e1 e2
      go_region_held3 (fun X => X.cell? ⟨bx, 0, none⟩ = some (.int .i64 x) ∧ X.cell? ⟨bx, 1, none⟩ = some (.int .i64 y))
        (first | exact Box.sb s2 | exact Box.sb s9 | (refine Box.sb (HBX.out.below ?_); (repeat (first | exact Below.refl _ _ | refine belA ?_ _ | refine Below.drew ?_)); done))
        (first
          | (refine upon_lookup (H := Unit) 3 40 3 .i64 law Try.underlying128 (zeroL _) (w.heap.size + 1 + 1) k D (groups_below HOZ.out (by (repeat (first | exact Below.refl _ _ | refine belA ?_ _ | refine Below.drew ?_)); done)) (by unfold maxLen; omega) _ HK.out ?_; intro v zs hat hoi hzl hback)
          | (refine step_append_lies _ (by rfl) _ _ _ (by rfl) (w.heap.size + 1 + 1) 3 i0 _ 1 8 Try.underlying40 hi hy0 hy1 hy2 rfl (by omega) v _ _ (by rfl) (by first | exact hoi.1 | exact hoi.1.alloc _) ⟨Z.heap.size, 0, none⟩ 1 1 [.int .i64 y] (by rfl) (by rfl) (by first | exact one_new _ _ _ | exact one_drew _ _ _) (by simp [Value.oneCell']) (by omega) (by unfold maxLen; omega) (by omega) (by simp; omega) (Z.heap.size + 1) (by simp) ?_; intro g cap w9 hown9 hgrow hat9 hlt9; have hB9 : Below W0.heap.size W0 w9 := down HBZ.out (by (repeat (first | exact Below.refl _ _ | refine belA ?_ _ | refine Below.drew ?_)); done) hgrow (fun j hj => by have h1 := (hoi.1.lt j hj).1; have h2 := HWE.out; omega); have s9 : Box bx x y w9 := Box.grown (HBX.out.below (by (repeat (first | exact Below.refl _ _ | refine belA ?_ _ | refine Below.drew ?_)); done)) hgrow (Box.ne (HBX.out.below (by (repeat (first | exact Below.refl _ _ | refine belA ?_ _ | refine Below.drew ?_)); done)) hoi))
          | (obtain ⟨w2, hrun2, hown2, hgrow2⟩ := hback w9 _ _ (by first | exact hgrow | exact (World.grownBy_alloc _ _ _).trans hgrow) (hoi.appended hown9 HWF.out) (by simp; omega) (loc hat9 (by simp)); have s2 : Box bx x y w2 := Box.grown s9 hgrow2 (by intro e; injection e with e; omega); refine upon_ok hrun2 ?_; rw [Oper.upon_skip])
          | fail)
      all_goals (have hzz := gd_at HGD.out hat hoi; subst hzz)
      all_goals (have HLN : Hid (LowsAt w2 (w.heap.size + 1) (m.take (k + 1)) (k + 1)) := ⟨_, hown2, gd_next HGD.out (isMap HOZ.out) HX.out rfl⟩)
      all_goals (have HBN : Hid (Below W0.heap.size W0 w2) := hB9.grown hgrow2 hB9.size (fun j hj => by injection hj with hj; have h2 := HWE.out; omega))
      all_goals (have hsn : w.heap.size + 2 ≤ w2.heap.size := by have h1 := hgrow2.size; have h2 := hgrow.size; simp at h2; omega)
      all_goals clear hown2 hgrow2 hB9 hgrow hown9 hback hoi hat hrun2 s9 s2 hat9
      all_goals go_wp2_with fail
      all_goals exact ⟨⟨k + 1, by omega, by go_num, HLN, HBN, hsn⟩, by simp [intOf]; omega⟩
    · obtain rfl : k = n2 := by omega
      have hkn : ¬ (k : Int) < (k : Int) := by omega
      have HLE : Hid (LowsAt wr (w.heap.size + 1) m k) := by
        have := HL.out
        rwa [List.take_of_length_le (by rw [HL2.out]; exact Nat.le_refl _)] at this
      go_wp2_with fail
      go_ret
      exact ⟨_, rfl, HLE.out, by omega, HB.out.trans (HBL.out.mono HB.out.size)⟩
end Go.Proofs.Ytmjhgjlnpnkmkaa.Lows
