/- RecordLines: the program's and the model's. -/
import Derived.Test.YtaikphcemldikaaDoorLines
import Derived.Test.YtaikphcemldikaaDoorIdx
import Derived.Test.YtaikphcemldikaaDoorGood2
import Derived.Test.YtaikphcemldikaaDoorGivesT
import Derived.Test.YtaikphcemldikaaDoorSplit
import Derived.Maps.AppendAt
namespace Go.Proofs.YtaikphcemldikaaDoor.RecL
open Go.RowKit Pairs Rec Find2 GoodM RelM Keep Idx Lines Words ListS ListI Split

def occ (z : Int) (p : Int × Int) : Bool := decide (p.1 = z ∨ p.2 = z)
theorem occursIn_true (z x y : Int) (h : x = z ∨ y = z) (w : World) : Calls Tryd.prog 40 #[.int .i64 z, .agg #[.int .i64 x, .int .i64 y]] w fun e w' => e = .returned (.bool true) ∧ Below w.heap.size w w' := by
  have hb := below_alloc w (.cells #[.int .i64 x, .int .i64 y] 63)
  go_enter Tryd.func40, Tryd.ntmps40
  by_cases h1 : x = z
  · subst h1
    clear h
    go_wp2
    go_ret
    exact ⟨rfl, hb⟩
  · have h2 : y = z := h.resolve_left h1
    have hq : (x == z) = false := by simpa using h1
    subst h2
    clear h
    go_wp2
    go_ret
    exact ⟨rfl, hb⟩
theorem occursIn_false (z x y : Int) (h1 : ¬ x = z) (h2 : ¬ y = z) (w : World) : Calls Tryd.prog 40 #[.int .i64 z, .agg #[.int .i64 x, .int .i64 y]] w fun e w' => e = .returned (.bool false) ∧ Below w.heap.size w w' := by
  have hb := below_alloc w (.cells #[.int .i64 x, .int .i64 y] 63)
  have hq : (x == z) = false := by simpa using h1
  have hq2 : (y == z) = false := by simpa using h2
  go_enter Tryd.func40, Tryd.ntmps40
  go_wp2
  go_ret
  exact ⟨rfl, hb⟩
/-- How a filtered row grows. -/
theorem filt_next (q : Int × Int → Bool) {m : List (Int × Int)} {k : Nat} {x y : Int} (hx : m[k]? = some (x, y)) : (m.take (k + 1)).filter q = (m.take k).filter q ++ (if q (x, y) then [(x, y)] else []) := by
  rw [List.take_add_one, hx, List.filter_append]
  cases h : q (x, y) <;> simp [h]
theorem filt_len (q : Int × Int → Bool) (m : List (Int × Int)) (k : Nat) : ((m.take k).filter q).length ≤ k :=
  Nat.le_trans (List.length_filter_le _ _) (by rw [List.length_take]; omega)
theorem good_few {l m : List (Int × Int)} (h : good l m = true) : l.length ≤ 10 ∧ m.length ≤ 24 := by
  unfold good at h
  simp only [Bool.and_eq_true, decide_eq_true_eq] at h
  exact ⟨h.1.1.1, h.1.1.2⟩
theorem isAt_num {l : List (Int × Int)} {a : Int} {i : Nat} (h : isAt l a = some i) : ∃ y, l[i]? = some (a, y) := by
  unfold isAt at h
  rw [List.findIdx?_eq_some_iff_getElem] at h
  obtain ⟨hl, h1, _⟩ := h
  refine ⟨l[i].2, ?_⟩
  rw [List.getElem?_eq_getElem hl]
  have : l[i].1 = a := by simpa using h1
  rw [← this]
theorem numK {l m : List (Int × Int)} (h : good l m = true) {x y : Int} {i : Nat} (hx : l[i]? = some (x, y)) : (1 ≤ x ∧ x ≤ 999) ∧ 1 ≤ y ∧ y ≤ 4 := by
  unfold good at h
  simp only [Bool.and_eq_true, decide_eq_true_eq] at h
  have hil : i < l.length := (List.getElem?_eq_some_iff.1 hx).1
  have := (List.all_eq_true.1 h.1.2) i (List.mem_range.2 hil)
  unfold okC at this
  rw [hx] at this
  simp only [Bool.and_eq_true, decide_eq_true_eq] at this
  exact ⟨⟨this.1.1.1.1, this.1.1.1.2⟩, this.1.1.2, this.1.2⟩
theorem rels {l m : List (Int × Int)} (h : good l m = true) {x y : Int} {k : Nat} (hx : m[k]? = some (x, y)) : (1 ≤ x ∧ x ≤ 999) ∧ (1 ≤ y ∧ y ≤ 999) := by
  have hk := (List.getElem?_eq_some_iff.1 hx).1
  have h0 := h
  unfold good at h
  simp only [Bool.and_eq_true, decide_eq_true_eq] at h
  have := (List.all_eq_true.1 h.2) k (List.mem_range.2 hk)
  unfold okR at this
  rw [hx] at this
  simp only [Bool.and_eq_true, Option.isSome_iff_exists] at this
  obtain ⟨⟨⟨_, i, hi⟩, j, hj⟩, _⟩ := this
  obtain ⟨u, hu⟩ := isAt_num hi
  obtain ⟨v, hv⟩ := isAt_num hj
  exact ⟨(numK h0 hu).1, (numK h0 hv).1⟩
theorem inR_of {x : Int} (h : 1 ≤ x ∧ x ≤ 999) : inR x := ⟨by omega, by omega⟩
/-- The lines of the relations of the first k in which the number occurs. -/
def lns (z : Int) (m : List (Int × Int)) (k : Nat) : List ByteArray := ((m.take k).filter (occ z)).map lineR
def linesOf (z : Int) (l m : List (Int × Int)) : Option (List ByteArray) :=
  if good l m = true then match isAt l z with | some i => some (lineC ((l[i]?).getD (0, 0)) :: lns z m m.length) | none => none else none
theorem lines_bad {z : Int} {l m : List (Int × Int)} (h : ¬ (good l m = true ∧ (isAt l z).isSome = true)) : linesOf z l m = none := by
  unfold linesOf
  by_cases hg : good l m = true
  · rw [if_pos hg]
    cases ha : isAt l z with
    | none => rfl
    | some i => exact absurd ⟨hg, by rw [ha]; rfl⟩ h
  · rw [if_neg hg]
theorem lines_some {z y : Int} {l m : List (Int × Int)} {i : Nat} (h : good l m = true) (hi : isAt l z = some i) (hl : l[i]? = some (z, y)) : linesOf z l m = some (lineC (z, y) :: lns z m m.length) := by
  unfold linesOf
  rw [if_pos h, hi]
  show some (lineC ((l[i]?).getD (0, 0)) :: _) = _
  rw [hl]
  rfl
theorem lns_next {z : Int} {m : List (Int × Int)} {k : Nat} {x y : Int} (hx : m[k]? = some (x, y)) (h : occ z (x, y) = true) : lns z m (k + 1) = lns z m k ++ [lineR (x, y)] := by
  unfold lns
  rw [filt_next _ hx, if_pos h, List.map_append]
  rfl
theorem lns_skip {z : Int} {m : List (Int × Int)} {k : Nat} {x y : Int} (hx : m[k]? = some (x, y)) (h : occ z (x, y) = false) : lns z m (k + 1) = lns z m k := by
  unfold lns
  rw [filt_next _ hx, if_neg (by rw [h]; simp), List.append_nil]
theorem lns_len (z : Int) (m : List (Int × Int)) (k : Nat) : (lns z m k).length ≤ k := by
  unfold lns
  rw [List.length_map]
  exact filt_len _ m k
theorem infoS : (Tryd.prog.info? 9).map (fun i => (i.zero, i.size, i.bytes)) = some (some (.string ⟨#[]⟩), 1, 16) := by kernel_rfl
theorem empty_own {T : TypeId} (w : World) : (w.alloc (.cells #[] T)).ownsRow w.heap.size T 1 (.slice (some ⟨w.heap.size, 0, none⟩) 0 0) 0 [] :=
  World.ownsRow_made w #[] 0 (Nat.le_refl _) (by unfold maxLen; omega) (by simp)
theorem one_own {T : TypeId} (w : World) (v : Value) : (w.alloc (.cells #[v] T)).ownsRow w.heap.size T 1 (.slice (some ⟨w.heap.size, 0, none⟩) 1 1) 1 [v] := by
  refine ⟨by simp, .inr ⟨w.heap.size, 1, #[v], rfl, Nat.le_refl _, heap_alloc_new w _, by omega, by unfold maxLen; omega, by simp, ?_⟩⟩
  first | simp | (intro i hi; simp) | exact ⟨rfl, rfl⟩
/-- A row of strings under way. -/
def Up (B : Nat) (w wr : World) (v : Value) (L : List ByteArray) : Prop := wr.ownsRow B 9 1 v L.length (strs L) ∧ Below B w wr
theorem own_form {B n : Nat} {w : World} {v : Value} {xs : List Value} (h : w.ownsRow B 9 1 v n xs) (hn : 0 < n) : ∃ g d, v = .slice (some ⟨g, 0, none⟩) n d := by
  rcases h.2 with ⟨_, hn'⟩ | ⟨g, cap, cur, hv, _⟩
  · omega
  · exact ⟨g, cap, hv⟩
theorem ans_bad {F : Option (List ByteArray)} {w w' : World} (hF : F = none) (hb : Below w.heap.size w w') :
    GivesT.Res F.isSome (F.getD []) w (.returned (.tuple #[.slice (some ⟨w'.heap.size, 0, none⟩) 0 0, .bool false])) (w'.alloc (.cells #[] 9)) := by
  subst hF
  exact ⟨_, 0, 0, rfl, ownsRow_base (empty_own w') hb.size, by omega, hb.trans ((below_alloc _ _).mono hb.size)⟩
theorem ans_ok {F : Option (List ByteArray)} {w w' : World} {L : List ByteArray} {B g d : Nat} (hF : F = some L) (ho : w'.ownsRow B 9 1 (.slice (some ⟨g, 0, none⟩) L.length d) L.length (strs L)) (hB : w.heap.size ≤ B) (hl : L.length ≤ 900000) (hb : Below w.heap.size w w') :
    GivesT.Res F.isSome (F.getD []) w (.returned (.tuple #[.slice (some ⟨g, 0, none⟩) L.length d, .bool true])) w' := by
  subst hF
  exact ⟨_, _, d, rfl, ownsRow_base ho hB, hl, hb⟩
theorem occ_yes {z x y : Int} (h : x = z ∨ y = z) : occ z (x, y) = true := decide_eq_true h
theorem occ_no {z x y : Int} (h1 : ¬ x = z) (h2 : ¬ y = z) : occ z (x, y) = false := decide_eq_false (fun h => h.elim h1 h2)
set_option maxRecDepth 100000 in
set_option maxHeartbeats 4000000 in
theorem impl_any (z : Int) : GivesT.Gives Vars 15 (.int .i64 z) (linesOf z) := by
  intro a1 a2 n1 c1 n2 c2 l m w hz1 hz2 h1 h2 hv
  obtain ⟨i0, hi, hy0, hy1, hy2⟩ := info_parts infoS
  have hb := below_alloc w (.cells #[.slice a1 n1 c1, .slice a2 n2 c2] 39)
  have hf := box_first w (.slice a1 n1 c1) (.slice a2 n2 c2) 39
  have hf2 := box_second w (.slice a1 n1 c1) (.slice a2 n2 c2) 39
  have H1 := Lib.hid (h1.below hb)
  have H2 := Lib.hid (h2.below hb)
  have HVV := Lib.hid (hv.below hb)
  have hsz : w.heap.size < (w.alloc (.cells #[.slice a1 n1 c1, .slice a2 n2 c2] 39)).heap.size := by simp
  clear h1 h2 hv
  go_enter Tryd.func15, Tryd.ntmps15
  go_wp2_with fail
  generalize w.alloc (.cells #[.slice a1 n1 c1, .slice a2 n2 c2] 39) = W at *
  refine (impl_Index a1 a2 n1 c1 n2 c2 l m z W hz1 hz2 H1.out H2.out).mono ?_
  rintro e w1 ⟨rfl, b1⟩
  have hbb := hb.trans (b1.mono hb.size)
  by_cases hg : good l m = true ∧ (isAt l z).isSome = true
  · have hi1 : idx l m z = (find l z, true) := by unfold idx; rw [if_pos hg]
    rw [hi1]
    clear hi1
    obtain ⟨kk, hkk⟩ := Option.isSome_iff_exists.1 hg.2
    obtain ⟨yk, hyk⟩ := isAt_num hkk
    have HE := Lib.hid (lines_some hg.1 hkk hyk)
    have hn2 : n2 ≤ 24 := by rw [← H2.out.1]; exact (good_few hg.1).2
    have HG0 := Lib.hid hg.1
    rw [find_some hkk]
    have hkl : kk < n1 := by rw [← H1.out.1]; exact (List.getElem?_eq_some_iff.1 hyk).1
    obtain ⟨b, off, x, y, rfl, hx, e1, e2⟩ := ((H1.out.below b1)).at kk hkl
    obtain ⟨rfl, rfl⟩ : x = z ∧ y = yk := by rw [hyk] at hx; injection hx with hx; injection hx with hx1 hx2; exact ⟨hx1.symm, hx2.symm⟩
    have hRk := numK hg.1 hyk
    have HCX := Lib.hid (fun W (hv : Vars W) => ctx_impl x y W (inR_of hRk.1) hRk.2 hv)
    have hki : (kk : Int) < (n1 : Int) := by omega
    clear hg hkk hyk hx hRk
    have r1 := (b1.cell (p := ⟨w.heap.size, 0, none⟩) hsz).trans hf
    have r2 := (b1.cell (p := ⟨w.heap.size, 1, none⟩) hsz).trans hf2
    have hsz1 := Nat.lt_of_lt_of_le hsz b1.size
    have HBB := Lib.hid hbb
    have HB1 := Lib.hid b1
    clear hf hf2 hbb b1
    go_wp2_with fail
    refine (HCX.out _ (HVV.out.below HB1.out)).mono ?_
    rintro e w2 ⟨rfl, b2⟩
    generalize lineC (x, y) = ln at *
    have s2 := (((b2.trans ((below_alloc w2 (.cells #[.string ln] 9)).mono b2.size))).cell (p := ⟨w.heap.size, 1, none⟩) hsz1).trans r2
    have ho0 : (w2.alloc (.cells #[.string ln] 9)).ownsRow w2.heap.size 9 1 (.slice (some ⟨w2.heap.size, 0, none⟩) 1 1) 1 (strs [ln]) := one_own w2 _
    have he0 := below_alloc w2 (.cells #[.string ln] 9)
    have h12 := HB1.out.trans ((b2.trans (he0.mono b2.size)).mono HB1.out.size)
    have HM3 : Hid (∀ wr, Below w2.heap.size (w2.alloc (.cells #[.string ln] 9)) wr → Holds wr a2 n2 m ∧ Vars wr) := fun wr hwr =>
      have hh := h12.trans (hwr.mono (Nat.le_trans HB1.out.size b2.size))
      ⟨H2.out.below hh, HVV.out.below hh⟩
    have HB2 := Lib.hid (hb.trans (h12.mono hb.size))
    have hG0 : Up w2.heap.size (w2.alloc (.cells #[.string ln] 9)) (w2.alloc (.cells #[.string ln] 9)) (.slice (some ⟨w2.heap.size, 0, none⟩) 1 1) (ln :: lns x m 0) := ⟨ho0, Below.refl _ _⟩
    have hB2s : w.heap.size ≤ w2.heap.size := Nat.le_trans HBB.out.size b2.size
    clear r1 r2 e1 e2 ho0 he0 h12 b2
    go_wp2_with fail
    have hsz2 : w2.heap.size < (w2.alloc (.cells #[.string ln] 9)).heap.size := by simp
    generalize w2.alloc (.cells #[.string ln] 9) = W2 at *
    go_loopw [8, 30] (fun s8 s30 wr => ∃ k : Nat, k ≤ n2 ∧ s30 = .int .i64 k ∧ Up w2.heap.size W2 wr s8 (ln :: lns x m k)) (fun _ s30 _ => n2 - (intOf s30).toNat)
    case atStart => exact ⟨0, Nat.zero_le _, rfl, hG0⟩
    case round =>
      obtain ⟨k, hk, rfl, hR⟩ := hrel
      clear hG0
      by_cases hlt : k < n2
      · obtain ⟨hM, hVr⟩ := HM3.out wr hR.2
        obtain ⟨b', off', p, q, rfl, hx, e1, e2⟩ := hM.at k hlt
        have hkn : (k : Int) < (n2 : Int) := by omega
        have hRg := rels HG0.out hx
        have HRI := Lib.hid (fun W (hv : Tab W) => rel_impl p q W (inR_of hRg.1) (inR_of hRg.2) hv)
        have HX := Lib.hid hx
        have HVR := Lib.hid hVr
        have hb7 := below_alloc wr (.cells #[.int .i64 p, .int .i64 q] 63)
        have u1 := box_first wr (.int .i64 p) (.int .i64 q) 63
        have u2' := box_second wr (.int .i64 p) (.int .i64 q) 63
        have hsz7 : wr.heap.size < (wr.alloc (.cells #[.int .i64 p, .int .i64 q] 63)).heap.size := by simp
        have hBs : w2.heap.size ≤ wr.heap.size := Nat.le_trans (Nat.le_of_lt hsz2) hR.2.size
        have HR := Lib.hid hR
        clear hx hR hM hVr hRg
        go_wp2_with fail
        generalize wr.alloc (.cells #[.int .i64 p, .int .i64 q] 63) = W7 at *
        clear e1 e2
        by_cases ho : p = x ∨ q = x
        · refine (occursIn_true x p q ho W7).mono ?_
          rintro e w8 ⟨rfl, b8⟩
          have b78 := hb7.trans (b8.mono hb7.size)
          have v1 := (b8.cell (p := ⟨wr.heap.size, 0, none⟩) hsz7).trans u1
          have v2 := (b8.cell (p := ⟨wr.heap.size, 1, none⟩) hsz7).trans u2'
          have HLN := Lib.hid (lns_next HX.out (occ_yes ho))
          have HB78 := Lib.hid b78
          clear ho u1 u2' b8 hb7 b78
          go_wp2_with fail
          refine (HRI.out _ (HVR.out.below HB78.out).1).mono ?_
          rintro e w10 ⟨rfl, b10⟩
          generalize lineR (p, q) = lr at *
          have b7t := HB78.out.trans (b10.mono HB78.out.size)
          have hown := ownsRow_below HR.out.1 b7t
          have hfl : (ln :: lns x m k).length ≤ k + 1 := by have := lns_len x m k; simp; omega
          have hs10 := b7t.size
          have HBD := Lib.hid (HR.out.2.trans (b7t.mono hBs))
          clear b10 b7t
          go_wp2_with (at_builtin; refine wpList_append_own _ rfl _ _ 33 rfl w2.heap.size 9 i0 (.string ⟨#[]⟩) 1 16 Tryd.underlying33 hi hy0 hy1 hy2 rfl (by decide) _ _ _ rfl (hown.alloc _) ⟨w10.heap.size, 0, none⟩ 1 1 [.string lr] rfl rfl (cell_one_new _ _ _) (by simp [Value.oneCell']) (by unfold maxLen; omega) (by omega) (by simp; omega) ?_; intro v' w9 hown' hgrow hnil)
          have HG : Hid (Up w2.heap.size W2 w9 v' (ln :: lns x m (k + 1))) := by
            unfold Hid Up
            rw [HLN.out, ← List.cons_append, List.length_append, ← strs_snoc]
            exact ⟨hown', (HBD.out.alloc (by omega) _).grown hgrow (by simp; omega) (fun j hj => (hown.lt j hj).1)⟩
          clear hown' hgrow hown hnil
          exact ⟨⟨k + 1, by omega, by go_num, HG.out⟩, by simp [intOf]; omega⟩
        · have hx1 : ¬ p = x := fun h => ho (.inl h)
          have hx2 : ¬ q = x := fun h => ho (.inr h)
          refine (occursIn_false x p q hx1 hx2 W7).mono ?_
          rintro e w8 ⟨rfl, b8⟩
          have b78 := hb7.trans (b8.mono hb7.size)
          have HG : Hid (Up w2.heap.size W2 w8 u8 (ln :: lns x m (k + 1))) := by
            unfold Hid Up
            rw [lns_skip HX.out (occ_no hx1 hx2)]
            exact ⟨ownsRow_below HR.out.1 b78, HR.out.2.trans (b78.mono hBs)⟩
          clear ho hx1 hx2 b78
          go_wp2_with fail
          exact ⟨⟨k + 1, by omega, by go_num, HG.out⟩, by simp [intOf]; omega⟩
      · obtain rfl : k = n2 := by omega
        have hkn : ¬ (k : Int) < (k : Int) := by omega
        have hml := (HM3.out wr hR.2).1.1
        have hE' := HE.out
        rw [hml] at hE'
        have HE2 := Lib.hid hE'
        have hlen : (ln :: lns x m k).length ≤ 25 := by have := lns_len x m k; simp; omega
        obtain ⟨g, d, rfl⟩ := own_form hR.1 (by simp)
        have HBD := Lib.hid (HB2.out.trans (hR.2.mono hB2s))
        have HO := Lib.hid hR.1
        clear hR hE' hml
        go_wp2_with fail
        go_ret2
        exact ans_ok HE2.out HO.out hB2s (by omega) HBD.out
  · have hi1 : idx l m z = (0, false) := by unfold idx; rw [if_neg hg]
    rw [hi1]
    clear hi1
    have HE := Lib.hid (lines_bad hg)
    clear hg
    go_wp2_with fail
    go_ret2
    exact ans_bad HE.out hbb
set_option maxRecDepth 100000 in
set_option maxHeartbeats 4000000 in
theorem spec_any (V : World → Prop) (z : Int) : GivesT.Gives V 13 (.int .i64 z) (linesOf z) := by
  intro a1 a2 n1 c1 n2 c2 l m w hz1 hz2 h1 h2 _
  obtain ⟨i0, hi, hy0, hy1, hy2⟩ := info_parts infoS
  have hb := below_alloc w (.cells #[.slice a1 n1 c1, .slice a2 n2 c2] 39)
  have hf := box_first w (.slice a1 n1 c1) (.slice a2 n2 c2) 39
  have hf2 := box_second w (.slice a1 n1 c1) (.slice a2 n2 c2) 39
  have H1 := Lib.hid (h1.below hb)
  have H2 := Lib.hid (h2.below hb)
  have hsz : w.heap.size < (w.alloc (.cells #[.slice a1 n1 c1, .slice a2 n2 c2] 39)).heap.size := by simp
  have hWe : (w.alloc (.cells #[.slice a1 n1 c1, .slice a2 n2 c2] 39)).heap.size = w.heap.size + 1 := by simp
  have HWE := Lib.hid hWe
  clear h1 h2 hWe
  go_enter Tryd.func13, Tryd.ntmps13
  go_wp2_with fail
  generalize w.alloc (.cells #[.slice a1 n1 c1, .slice a2 n2 c2] 39) = W at *
  have he0 := below_alloc W (.cells #[] 9)
  have ho0 := empty_own (T := 9) W
  rw [HWE.out] at ho0
  have g1 := (he0.cell (p := ⟨w.heap.size, 0, none⟩) hsz).trans hf
  have g2 := (he0.cell (p := ⟨w.heap.size, 1, none⟩) hsz).trans hf2
  have hszE := Nat.lt_of_lt_of_le hsz he0.size
  have hBE : W.heap.size < (W.alloc (.cells #[] 9)).heap.size := by simp
  have HO0 : Hid ((W.alloc (.cells #[] 9)).ownsRow W.heap.size 9 1 (.slice (some ⟨w.heap.size + 1, 0, none⟩) 0 0) 0 (strs [])) := by rw [HWE.out]; exact ho0
  have hbe := hb.trans (he0.mono hb.size)
  have HE1 := Lib.hid (H1.out.below he0)
  have HE2 := Lib.hid (H2.out.below he0)
  clear ho0 hf hf2
  generalize W.alloc (.cells #[] 9) = E at *
  refine (l2Find_any a1 a2 n1 c1 n2 c2 l z E (by omega) HE1.out).mono ?_
  rintro e w1 ⟨rfl, b1⟩
  have r1 := (b1.cell (p := ⟨w.heap.size, 0, none⟩) hszE).trans g1
  have r2 := (b1.cell (p := ⟨w.heap.size, 1, none⟩) hszE).trans g2
  go_wp2_with fail
  refine (Good2.l2Good_any a1 a2 n1 c1 n2 c2 l m w1 (HE1.out.below b1) (HE2.out.below b1)).mono ?_
  rintro e w2 ⟨rfl, b2⟩
  have b12 := b1.trans (b2.mono b1.size)
  have hb2 := hbe.trans (b12.mono hbe.size)
  have HO := Lib.hid (ownsRow_below HO0.out b12)
  have q1 := (b12.cell (p := ⟨w.heap.size, 0, none⟩) hszE).trans g1
  have q2 := (b12.cell (p := ⟨w.heap.size, 1, none⟩) hszE).trans g2
  clear r1 r2
  cases hg : good l m with
  | false =>
    have HE := Lib.hid (lines_bad (z := z) (l := l) (m := m) (by rw [hg]; simp))
    clear hg
    go_wp2_with fail
    go_ret2
    have hF := HE.out
    rw [hF]
    exact ⟨_, 0, 0, rfl, ownsRow_base HO.out hb.size, by omega, hb2⟩
  | true =>
    have HV := Lib.hid hg
    clear hg
    cases ha : isAt l z with
    | none =>
      have HE := Lib.hid (lines_bad (z := z) (l := l) (m := m) (by rw [ha]; simp))
      rw [find_none ha]
      clear ha
      go_wp2_with fail
      go_ret2
      have hF := HE.out
      rw [hF]
      exact ⟨_, 0, 0, rfl, ownsRow_base HO.out hb.size, by omega, hb2⟩
    | some kk =>
      obtain ⟨yk, hyk⟩ := isAt_num ha
      have HE := Lib.hid (lines_some HV.out ha hyk)
      rw [find_some ha]
      have hn2 : n2 ≤ 24 := by rw [← H2.out.1]; exact (good_few HV.out).2
      have hkl : kk < n1 := by rw [← H1.out.1]; exact (List.getElem?_eq_some_iff.1 hyk).1
      obtain ⟨b, off, x, y, rfl, hx, e1, e2⟩ := ((HE1.out.below b12)).at kk hkl
      obtain ⟨rfl, rfl⟩ : x = z ∧ y = yk := by rw [hyk] at hx; injection hx with hx; injection hx with hx1 hx2; exact ⟨hx1.symm, hx2.symm⟩
      have hRk := numK HV.out hyk
      have HCX := Lib.hid (fun W => ctx_spec x y W (inR_of hRk.1) hRk.2)
      have hki : (kk : Int) < (n1 : Int) := by omega
      have hk0 : ¬ (kk : Int) < 0 := by omega
      have HB12 := Lib.hid b12
      clear ha hyk hx hRk b1 b2 b12 hb2
      go_wp2_with fail
      refine (HCX.out _).mono ?_
      rintro e w3 ⟨rfl, b3⟩
      generalize lineC (x, y) = ln at *
      have b13 := HB12.out.trans (b3.mono HB12.out.size)
      have hown := ownsRow_below HO.out b3
      have hs3 := b13.size
      have HM3 : Hid (∀ wr, Below W.heap.size E wr → Holds wr a2 n2 m ∧ wr.cell? ⟨w.heap.size, 1, none⟩ = some (.slice a2 n2 c2)) := fun wr hwr => ⟨H2.out.below (he0.trans hwr), (hwr.cell (p := ⟨w.heap.size, 1, none⟩) hsz).trans g2⟩
      have HB13 := Lib.hid b13
      have hfl : (strs ([] : List ByteArray)).length = 0 := rfl
      clear e1 e2 q1 q2 g1 b3 b13
      go_wp2_with (at_builtin; refine wpList_append_own _ rfl _ _ 33 rfl W.heap.size 9 i0 (.string ⟨#[]⟩) 1 16 Tryd.underlying33 hi hy0 hy1 hy2 rfl (by decide) _ _ _ rfl (hown.alloc _) ⟨w3.heap.size, 0, none⟩ 1 1 [.string ln] rfl rfl (cell_one_new _ _ _) (by simp [Value.oneCell']) (by unfold maxLen; omega) (by omega) (by simp; omega) ?_; intro v' w9 hown' hgrow hnil)
      have HG0 : Hid (Up W.heap.size E w9 v' (ln :: lns x m 0)) := ⟨hown', ((HB13.out.mono (Nat.le_of_lt hBE)).alloc (by omega) _).grown hgrow (by simp; omega) (fun j hj => (hown.lt j hj).1)⟩
      clear hown' hgrow hown hnil g2
      go_wp2_with fail
      go_loopw [6, 8] (fun s6 s8 wr => ∃ k : Nat, k ≤ n2 ∧ s8 = .int .i64 k ∧ Up W.heap.size E wr s6 (ln :: lns x m k)) (fun _ s8 _ => n2 - (intOf s8).toNat)
      case atStart => exact ⟨0, Nat.zero_le _, rfl, HG0.out⟩
      case round =>
        obtain ⟨k, hk, rfl, hR⟩ := hrel
        clear HG0
        have q2 := (HM3.out wr hR.2).2
        by_cases hlt : k < n2
        · obtain ⟨b', off', p, q, rfl, hx, e1, e2⟩ := (HM3.out wr hR.2).1.at k hlt
          have hkn : (k : Int) < (n2 : Int) := by omega
          have hRg := rels HV.out hx
          have HRI := Lib.hid (fun W => rel_spec p q W (inR_of hRg.1) (inR_of hRg.2))
          have HX := Lib.hid hx
          have hBs : W.heap.size ≤ wr.heap.size := Nat.le_trans (Nat.le_of_lt hBE) hR.2.size
          have HR := Lib.hid hR
          clear hx hR hRg
          by_cases hx1 : p = x
          · subst hx1
            have HLN := Lib.hid (lns_next HX.out (occ_yes (.inl rfl)))
            go_wp2_with fail
            refine (HRI.out _).mono ?_
            rintro e w10 ⟨rfl, b10⟩
            generalize lineR (p, q) = lr at *
            have hown := ownsRow_below HR.out.1 b10
            have hfl : (ln :: lns p m k).length ≤ k + 1 := by have := lns_len p m k; simp; omega
            have hs10 := b10.size
            have HBD := Lib.hid (HR.out.2.trans (b10.mono hBs))
            clear b10
            go_wp2_with (at_builtin; refine wpList_append_own _ rfl _ _ 33 rfl W.heap.size 9 i0 (.string ⟨#[]⟩) 1 16 Tryd.underlying33 hi hy0 hy1 hy2 rfl (by decide) _ _ _ rfl (hown.alloc _) ⟨w10.heap.size, 0, none⟩ 1 1 [.string lr] rfl rfl (cell_one_new _ _ _) (by simp [Value.oneCell']) (by unfold maxLen; omega) (by omega) (by simp; omega) ?_; intro v' w9 hown' hgrow hnil)
            have HG : Hid (Up W.heap.size E w9 v' (ln :: lns p m (k + 1))) := by
              unfold Hid Up
              rw [HLN.out, ← List.cons_append, List.length_append, ← strs_snoc]
              exact ⟨hown', (HBD.out.alloc (by omega) _).grown hgrow (by simp; omega) (fun j hj => (hown.lt j hj).1)⟩
            clear hown' hgrow hown hnil
            exact ⟨⟨k + 1, by omega, by go_num, HG.out⟩, by simp [intOf]; omega⟩
          · have hq1 : (p == x) = false := by simpa using hx1
            by_cases hx2 : q = x
            · subst hx2
              have HLN := Lib.hid (lns_next HX.out (occ_yes (.inr rfl)))
              go_wp2_with fail
              refine (HRI.out _).mono ?_
              rintro e w10 ⟨rfl, b10⟩
              generalize lineR (p, q) = lr at *
              have hown := ownsRow_below HR.out.1 b10
              have hfl : (ln :: lns q m k).length ≤ k + 1 := by have := lns_len q m k; simp; omega
              have hs10 := b10.size
              have HBD := Lib.hid (HR.out.2.trans (b10.mono hBs))
              clear b10
              go_wp2_with (at_builtin; refine wpList_append_own _ rfl _ _ 33 rfl W.heap.size 9 i0 (.string ⟨#[]⟩) 1 16 Tryd.underlying33 hi hy0 hy1 hy2 rfl (by decide) _ _ _ rfl (hown.alloc _) ⟨w10.heap.size, 0, none⟩ 1 1 [.string lr] rfl rfl (cell_one_new _ _ _) (by simp [Value.oneCell']) (by unfold maxLen; omega) (by omega) (by simp; omega) ?_; intro v' w9 hown' hgrow hnil)
              have HG : Hid (Up W.heap.size E w9 v' (ln :: lns q m (k + 1))) := by
                unfold Hid Up
                rw [HLN.out, ← List.cons_append, List.length_append, ← strs_snoc]
                exact ⟨hown', (HBD.out.alloc (by omega) _).grown hgrow (by simp; omega) (fun j hj => (hown.lt j hj).1)⟩
              clear hown' hgrow hown hnil
              exact ⟨⟨k + 1, by omega, by go_num, HG.out⟩, by simp [intOf]; omega⟩
            · have hq2 : (q == x) = false := by simpa using hx2
              have HG : Hid (Up W.heap.size E wr u6 (ln :: lns x m (k + 1))) := by
                unfold Hid
                rw [lns_skip HX.out (occ_no hx1 hx2)]
                exact HR.out
              go_wp2_with fail
              exact ⟨⟨k + 1, by omega, by go_num, HG.out⟩, by simp [intOf]; omega⟩
        · obtain rfl : k = n2 := by omega
          have hkn : ¬ (k : Int) < (k : Int) := by omega
          have hml := (HM3.out wr hR.2).1.1
          have hE' := HE.out
          rw [hml] at hE'
          have HE2' := Lib.hid hE'
          have hlen : (ln :: lns x m k).length ≤ 25 := by have := lns_len x m k; simp; omega
          obtain ⟨g, d, rfl⟩ := own_form hR.1 (by simp)
          have HBD := Lib.hid (hbe.trans (hR.2.mono hb.size))
          have HO9 := Lib.hid hR.1
          clear hR hE' hml
          go_wp2_with fail
          go_ret2
          exact ans_ok HE2'.out HO9.out hb.size (by omega) HBD.out
end Go.Proofs.YtaikphcemldikaaDoor.RecL
