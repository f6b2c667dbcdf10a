/- orderingOf: the sets of upper contexts of a record, as the program keeps them. -/
import Derived.Test.YtjllbbkpmmnkgaaDoorNxt
import Derived.Test.YtjllbbkpmmnkgaaDoorSqM
import Derived.Test.YtjllbbkpmmnkgaaDoorConsistA
import Derived.Test.YtjllbbkpmmnkgaaDoorRedS
namespace Go.Proofs.YtjllbbkpmmnkgaaDoor.Org
open Go.RowKit Pairs Rec Chain Find2 GoodM Keep Lows Order Table RedS Nxt Tz
set_option linter.unusedVariables false
set_option linter.unusedSimpArgs false
noncomputable def ups (l m : Ps) (i : Nat) : Nat := m.foldl (fun a p => if isAt l p.2 = some i then a ||| 2 ^ ((isAt l p.1).getD 0) else a) 0
theorem ups_snoc (l m : Ps) (p : Int × Int) (i : Nat) : ups l (m ++ [p]) i = if isAt l p.2 = some i then ups l m i ||| 2 ^ ((isAt l p.1).getD 0) else ups l m i := by unfold ups; simp
theorem arr_congr {all : Nat} {U V : Nat → Nat} (h : ∀ i, i < 10 → U i = V i) : arr all U = arr all V := by
  unfold arr
  rw [h 0 (by omega), h 1 (by omega), h 2 (by omega), h 3 (by omega), h 4 (by omega), h 5 (by omega), h 6 (by omega), h 7 (by omega), h 8 (by omega), h 9 (by omega)]
theorem arr_set (all : Nat) (U : Nat → Nat) (z j : Nat) (hj : j < 10) : (arr all U).setIfInBounds (1 + j) (.int .u64 (z : Int)) = arr all (fun i => if i = j then z else U i) := by
  rcases (show j = 0 ∨ j = 1 ∨ j = 2 ∨ j = 3 ∨ j = 4 ∨ j = 5 ∨ j = 6 ∨ j = 7 ∨ j = 8 ∨ j = 9 by omega) with h | h | h | h | h | h | h | h | h | h <;> subst h <;> simp [arr]
theorem ups_lt (l m : Ps) (hl : l.length ≤ 10) (i : Nat) : ups l m i < 1024 := by
  unfold ups
  suffices h : ∀ (m : Ps) (a : Nat), a < 1024 → m.foldl (fun a p => if isAt l p.2 = some i then a ||| 2 ^ ((isAt l p.1).getD 0) else a) a < 1024 from h m 0 (by decide)
  intro m
  induction m with
  | nil => exact fun a h => h
  | cons p m ih =>
    intro a ha
    rw [List.foldl_cons]
    refine ih _ ?_
    split
    · refine Nat.or_lt_two_pow (n := 10) ha (pow_lt ?_)
      cases h : isAt l p.1 with
      | none => simp
      | some q => have := isAt_lt h; simp; omega
    · exact ha
theorem step_arr {l m : Ps} {k i j all : Nat} {u v : Int} (hx : m[k]? = some (u, v)) (hi : isAt l u = some i) (hj : isAt l v = some j) (hj10 : j < 10) :
    (arr all (ups l (m.take k))).setIfInBounds (1 + j) (.int .u64 ((ups l (m.take k) j ||| 2 ^ i : Nat) : Int)) = arr all (ups l (m.take (k + 1))) := by
  rw [arr_set _ _ _ _ hj10]
  refine arr_congr fun q _ => ?_
  have hm : m.take (k + 1) = m.take k ++ [(u, v)] := by rw [List.take_add_one, hx]; rfl
  rw [hm, ups_snoc, hi, hj]
  by_cases e : q = j
  · subst e
    simp
  · have e2 : ¬ (some j = some q) := fun h => e (Option.some.inj h).symm
    rw [if_neg e, if_neg e2]
def put11 (W : World) (g : Nat) (v0 v1 v2 v3 v4 v5 v6 v7 v8 v9 v10 : Value) : World := (((((((((((W.setCell ⟨g, 0, none⟩ v0).setCell ⟨g, 1, none⟩ v1).setCell ⟨g, 2, none⟩ v2).setCell ⟨g, 3, none⟩ v3).setCell ⟨g, 4, none⟩ v4).setCell ⟨g, 5, none⟩ v5).setCell ⟨g, 6, none⟩ v6).setCell ⟨g, 7, none⟩ v7).setCell ⟨g, 8, none⟩ v8).setCell ⟨g, 9, none⟩ v9).setCell ⟨g, 10, none⟩ v10)
theorem put11_heap {W : World} {g : Nat} {T : TypeId} {p0 p1 p2 p3 p4 p5 p6 p7 p8 p9 p10 : Value} (v0 v1 v2 v3 v4 v5 v6 v7 v8 v9 v10 : Value) (h0 : W.heap[g]? = some (.cells #[p0, p1, p2, p3, p4, p5, p6, p7, p8, p9, p10] T (0, 0))) :
    (put11 W g v0 v1 v2 v3 v4 v5 v6 v7 v8 v9 v10).heap[g]? = some (.cells #[v0, v1, v2, v3, v4, v5, v6, v7, v8, v9, v10] T (0, 0)) := by
  have h1 := heap_setCell_same _ g 0 _ T v0 h0
  simp only [List.setIfInBounds_toArray, List.set_cons_zero, List.set_cons_succ] at h1
  have h2 := heap_setCell_same _ g 1 _ T v1 h1
  simp only [List.setIfInBounds_toArray, List.set_cons_zero, List.set_cons_succ] at h2
  have h3 := heap_setCell_same _ g 2 _ T v2 h2
  simp only [List.setIfInBounds_toArray, List.set_cons_zero, List.set_cons_succ] at h3
  have h4 := heap_setCell_same _ g 3 _ T v3 h3
  simp only [List.setIfInBounds_toArray, List.set_cons_zero, List.set_cons_succ] at h4
  have h5 := heap_setCell_same _ g 4 _ T v4 h4
  simp only [List.setIfInBounds_toArray, List.set_cons_zero, List.set_cons_succ] at h5
  have h6 := heap_setCell_same _ g 5 _ T v5 h5
  simp only [List.setIfInBounds_toArray, List.set_cons_zero, List.set_cons_succ] at h6
  have h7 := heap_setCell_same _ g 6 _ T v6 h6
  simp only [List.setIfInBounds_toArray, List.set_cons_zero, List.set_cons_succ] at h7
  have h8 := heap_setCell_same _ g 7 _ T v7 h7
  simp only [List.setIfInBounds_toArray, List.set_cons_zero, List.set_cons_succ] at h8
  have h9 := heap_setCell_same _ g 8 _ T v8 h8
  simp only [List.setIfInBounds_toArray, List.set_cons_zero, List.set_cons_succ] at h9
  have h10 := heap_setCell_same _ g 9 _ T v9 h9
  simp only [List.setIfInBounds_toArray, List.set_cons_zero, List.set_cons_succ] at h10
  have h11 := heap_setCell_same _ g 10 _ T v10 h10
  simp only [List.setIfInBounds_toArray, List.set_cons_zero, List.set_cons_succ] at h11
  exact h11
theorem put11_below {B : Nat} {w W : World} {g : Nat} (v0 v1 v2 v3 v4 v5 v6 v7 v8 v9 v10 : Value) (hb : Below B w W) (hB : B ≤ g) : Below B w (put11 W g v0 v1 v2 v3 v4 v5 v6 v7 v8 v9 v10) := (((((((((((hb.setCell (p := ⟨g, 0, none⟩) hB v0).setCell (p := ⟨g, 1, none⟩) hB v1).setCell (p := ⟨g, 2, none⟩) hB v2).setCell (p := ⟨g, 3, none⟩) hB v3).setCell (p := ⟨g, 4, none⟩) hB v4).setCell (p := ⟨g, 5, none⟩) hB v5).setCell (p := ⟨g, 6, none⟩) hB v6).setCell (p := ⟨g, 7, none⟩) hB v7).setCell (p := ⟨g, 8, none⟩) hB v8).setCell (p := ⟨g, 9, none⟩) hB v9).setCell (p := ⟨g, 10, none⟩) hB v10)
theorem pl_of {l : Ps} (hA : Asc l) {t : Int} {i : Nat} (h : isAt l t = some i) : pl l t = i := by
  obtain ⟨y, hy⟩ := isAt_num h
  refine pl_eq (Nat.le_of_lt (isAt_lt h)) (fun j x hj hx => ?_) (fun x hx => by rw [hy] at hx; injection hx with hx; rw [← hx]; exact Int.le_refl _)
  have := hA.lt (i - j - 1) j x (t, y) hx (by rw [show j + (i - j - 1) + 1 = i by omega]; exact hy)
  exact this
set_option maxRecDepth 100000 in
set_option maxHeartbeats 4000000 in
theorem ordering_any (a1 a2 : Option Addr) (n1 c1 n2 c2 : Nat) (l m : List (Int × Int)) (w : World) (hz1 : n1 ≤ 1048576) (hz2 : n2 ≤ 1048576) (h1 : Holds w a1 n1 l) (h2 : Holds w a2 n2 m) :
    Calls Tryd.prog 41 #[.agg #[.slice a1 n1 c1, .slice a2 n2 c2]] w fun e w' => e = .returned (.tuple #[.agg (if good l m = true ∧ cyc l m = false then arr (2 ^ l.length - 1) (ups l m) else arr 0 (fun _ => 0)), .bool (good l m && !cyc l m)]) ∧ Below w.heap.size w w' := by
  obtain ⟨b, hb0⟩ : ∃ b, w.heap.size = b := ⟨_, rfl⟩
  have hb := below_alloc w (.cells #[.slice a1 n1 c1, .slice a2 n2 c2] 33)
  have hf := box_first w (.slice a1 n1 c1) (.slice a2 n2 c2) 33
  have hf2 := box_second w (.slice a1 n1 c1) (.slice a2 n2 c2) 33
  have H1 := Lib.hid (h1.below hb)
  have H2 := Lib.hid (h2.below hb)
  have HL1 := Lib.hid h1.1
  have HL2 := Lib.hid h2.1
  clear h1 h2
  go_enter Tryd.func41, Tryd.ntmps41
  go_wp2_with fail
  have hz := below_alloc (w.alloc (.cells #[.slice a1 n1 c1, .slice a2 n2 c2] 33)) (.cells #[.int .u64 0, .int .u64 0, .int .u64 0, .int .u64 0, .int .u64 0, .int .u64 0, .int .u64 0, .int .u64 0, .int .u64 0, .int .u64 0, .int .u64 0] 64)
  have hres := World.alloc_heap_new (w.alloc (.cells #[.slice a1 n1 c1, .slice a2 n2 c2] 33)) (.cells #[.int .u64 0, .int .u64 0, .int .u64 0, .int .u64 0, .int .u64 0, .int .u64 0, .int .u64 0, .int .u64 0, .int .u64 0, .int .u64 0, .int .u64 0] 64)
  rw [World.size_alloc, hb0] at hres
  have hsz : ((w.alloc (.cells #[.slice a1 n1 c1, .slice a2 n2 c2] 33)).alloc (.cells #[.int .u64 0, .int .u64 0, .int .u64 0, .int .u64 0, .int .u64 0, .int .u64 0, .int .u64 0, .int .u64 0, .int .u64 0, .int .u64 0, .int .u64 0] 64)).heap.size = b + 1 + 1 := by simp [hb0]
  have q1 := (hz.cell (p := ⟨w.heap.size, 0, none⟩) (by simp)).trans hf
  have q2 := (hz.cell (p := ⟨w.heap.size, 1, none⟩) (by simp)).trans hf2
  rw [hb0] at q1 q2
  have K1 := Lib.hid (H1.out.below hz)
  have K2 := Lib.hid (H2.out.below hz)
  have HB := Lib.hid (hb.trans (hz.mono hb.size))
  clear hf hf2 H1 H2 hb hz
  generalize (w.alloc (.cells #[.slice a1 n1 c1, .slice a2 n2 c2] 33)).alloc (.cells #[.int .u64 0, .int .u64 0, .int .u64 0, .int .u64 0, .int .u64 0, .int .u64 0, .int .u64 0, .int .u64 0, .int .u64 0, .int .u64 0, .int .u64 0] 64) = W at *
  refine (Consist.impl_any a1 a2 n1 c1 n2 c2 l m W hz1 hz2 K1.out K2.out).mono ?_
  rintro e w1 ⟨rfl, b1⟩
  have r1 := (b1.cell (p := ⟨b, 0, none⟩) (by show b < _; omega)).trans q1
  have r2 := (b1.cell (p := ⟨b, 1, none⟩) (by show b < _; omega)).trans q2
  have hR := (b1.block (b + 1) (by omega)).trans hres
  have hsz1 := b1.size
  have HB1 := Lib.hid (HB.out.trans (b1.mono HB.out.size))
  have M1 := Lib.hid (K1.out.below b1)
  have M2 := Lib.hid (K2.out.below b1)
  clear q1 q2 b1 hres
  by_cases hg : good l m = true ∧ cyc l m = false
  · have hcp : Consist.consP l m = (true, true) := by
      rw [Consist.cons_yes hg.1]
      have := hg.2
      unfold cyc at this
      rw [this]
      rfl
    have hgc : (good l m && !cyc l m) = true := by rw [hg.1, hg.2]; rfl
    have HG := Lib.hid hg
    have HGC := Lib.hid hgc
    have HA := Lib.hid (Idx.good_asc hg.1).1
    have hn1 : n1 ≤ 10 := by rw [← HL1.out]; exact (Table.good_few hg.1).1
    have hn2 : n2 ≤ 24 := by rw [← HL2.out]; exact (Table.good_few hg.1).2
    rw [hcp]
    clear hg hcp hgc
    have hall : IntKind.u64.wrap (2 ^ n1 - 1) = ((2 ^ n1 - 1 : Nat) : Int) := by
      have h1 : 2 ^ n1 ≤ 2 ^ 10 := Nat.pow_le_pow_right (by decide) hn1
      have h2 : 0 < 2 ^ n1 := Nat.two_pow_pos _
      have h3 : ((2 ^ n1 : Nat) : Int) = (2 : Int) ^ n1 := by simp
      rw [IntKind.wrap_u64, ← h3]
      omega
    go_upto_region 5 with (go_at_call 53; refine (set_any n1 hn1 _).mono ?_; rintro e w' ⟨rfl, hw'⟩; have hw2 := hw'.symm; subst hw2; clear hw')
    have hXA : (w1.alloc (.cells #[.int .u64 ((2 ^ n1 - 1 : Nat) : Int), .int .u64 0, .int .u64 0, .int .u64 0, .int .u64 0, .int .u64 0, .int .u64 0, .int .u64 0, .int .u64 0, .int .u64 0, .int .u64 0] 64)).heap[w1.heap.size]? = some (.cells (arr (2 ^ n1 - 1) (ups l (m.take 0))) 64 (0, 0)) := by
      rw [World.alloc_heap_new]
      simp [arr, ups]
    have bX := below_alloc w1 (.cells #[.int .u64 ((2 ^ n1 - 1 : Nat) : Int), .int .u64 0, .int .u64 0, .int .u64 0, .int .u64 0, .int .u64 0, .int .u64 0, .int .u64 0, .int .u64 0, .int .u64 0, .int .u64 0] 64)
    have x1 := (bX.cell (p := ⟨b, 0, none⟩) (by show b < _; omega)).trans r1
    have x2 := (bX.cell (p := ⟨b, 1, none⟩) (by show b < _; omega)).trans r2
    generalize w1.alloc (.cells #[.int .u64 ((2 ^ n1 - 1 : Nat) : Int), .int .u64 0, .int .u64 0, .int .u64 0, .int .u64 0, .int .u64 0, .int .u64 0, .int .u64 0, .int .u64 0, .int .u64 0, .int .u64 0] 64) = X at *
    generalize hall0 : 2 ^ n1 - 1 = all at *
    have HALL := Lib.hid hall0
    clear hall0
    have HXA := Lib.hid hXA
    have BX := Lib.hid bX
    obtain ⟨g, hg⟩ : ∃ g, w1.heap.size = g := ⟨_, rfl⟩
    have HR := Lib.hid hR
    clear hXA bX hR
    go_wp2_with fail
    rw [hg]
    go_loopw [30] (fun s30 wr => ∃ k : Nat, k ≤ n2 ∧ s30 = .int .i64 k ∧ Hid (wr.heap[g]? = some (.cells (arr all (ups l (m.take k))) 64 (0, 0))) ∧ Below g w1 wr) (fun s30 _ => n2 - (intOf s30).toNat)
    case atStart => exact ⟨0, Nat.zero_le _, rfl, by rw [← hg]; exact HXA, by rw [← hg]; exact BX.out⟩
    case round =>
      obtain ⟨k, hk, rfl, hA, hbel⟩ := hrel
      have hgr : g < wr.heap.size := (Array.getElem?_eq_some_iff.1 hA.out).1
      have HBel := Lib.hid hbel
      clear hbel x1 x2
      by_cases hlt : k < n2
      · obtain ⟨bq, off, x, y, rfl, hx, e1, e2⟩ := (M2.out.below (by rw [hg]; exact HBel.out)).at k hlt
        have hin : (k : Int) < (n2 : Int) := by omega
        have hi00 : (0 : Int) ≤ (k : Int) := by omega
        obtain ⟨⟨i, hi⟩, j, hj⟩ := (Table.good_ends HG.out.1) x y (List.mem_of_getElem? hx)
        have hil : i < n1 := by rw [← HL1.out]; exact isAt_lt hi
        have hjl : j < n1 := by rw [← HL1.out]; exact isAt_lt hj
        have hx1 := (HBel.out.cell (p := ⟨b, 0, none⟩) (by show b < _; omega)).trans r1
        have hx2 := (HBel.out.cell (p := ⟨b, 1, none⟩) (by show b < _; omega)).trans r2
        have hb7 := below_alloc wr (.cells #[.int .i64 x, .int .i64 y] 91)
        have u1 := box_first wr (.int .i64 x) (.int .i64 y) 91
        have u2 := box_second wr (.int .i64 x) (.int .i64 y) 91
        have t1 := (hb7.cell (p := ⟨b, 0, none⟩) (by show b < _; omega)).trans hx1
        have t2 := (hb7.cell (p := ⟨b, 1, none⟩) (by show b < _; omega)).trans hx2
        have HZA := Lib.hid ((hb7.block g hgr).trans hA.out)
        have hzs : (wr.alloc (.cells #[.int .i64 x, .int .i64 y] 91)).heap.size = wr.heap.size + 1 := by simp
        have HMI := Lib.hid (And.intro hx (And.intro hi hj))
        have HZB := Lib.hid (HBel.out.trans (hb7.mono (by omega)))
        have hsz2 := HBel.out.size
        clear hx hi hj hb7
        go_upto_region 8 with fail
        have hp1 := pl_of HA.out HMI.out.2.1
        have hs1 : (isAt l x).isSome = true := by rw [HMI.out.2.1]; rfl
        have hp2 := pl_of HA.out HMI.out.2.2
        have hs2 : (isAt l y).isSome = true := by rw [HMI.out.2.2]; rfl
        have HP := Lib.hid (And.intro hp1 (And.intro hs1 (And.intro hp2 hs2)))
        clear hp1 hs1 hp2 hs2
        generalize wr.alloc (.cells #[.int .i64 x, .int .i64 y] 91) = Z at *
        go_wp2_with fail
        refine (Avr.placeOfContext_any a1 _ n1 c1 n2 c2 l x Z hz1 (M1.out.below (by rw [hg]; exact HZB.out)) HA.out).mono ?_
        rintro e v1 ⟨rfl, b8⟩
        rw [HP.out.1, HP.out.2.1]
        have s1 := (b8.cell (p := ⟨b, 0, none⟩) (by show b < _; omega)).trans t1
        have s2 := (b8.cell (p := ⟨b, 1, none⟩) (by show b < _; omega)).trans t2
        have s4 := (b8.cell (p := ⟨wr.heap.size, 1, none⟩) (by show wr.heap.size < _; omega)).trans u2
        have HVA := Lib.hid ((b8.block g (by omega)).trans HZA.out)
        have HVB := Lib.hid (HZB.out.trans (b8.mono (by omega)))
        have hsz3 := b8.size
        clear b8 t1 t2 u1 u2
        go_wp2_with fail
        refine (Avr.placeOfContext_any a1 _ n1 c1 n2 c2 l y v1 hz1 (M1.out.below (by rw [hg]; exact HVB.out)) HA.out).mono ?_
        rintro e v2 ⟨rfl, b9⟩
        rw [HP.out.2.2.1, HP.out.2.2.2]
        have HWA := Lib.hid ((b9.block g (by omega)).trans HVA.out)
        have HWB := Lib.hid (HVB.out.trans (b9.mono (by omega)))
        have c1' := cell_of HWA.out (arr_at all (ups l (m.take k)) j (by omega))
        have f1' : v2.frozen? ⟨g, 1 + j, none⟩ = false := by simp [World.frozen?, HWA.out]
        have hU := ups_lt l (m.take k) (by rw [HL1.out]; exact hn1) j
        have e3 : bits .or .u64 (ups l (m.take k) j : Int) (2 ^ i : Int) = ((ups l (m.take k) j ||| 2 ^ i : Nat) : Int) := by
          rw [← or_is _ _ hU (pow_lt (by omega))]
          simp
        have hji : (j : Int) < 10 := by omega
        have HST := Lib.hid (step_arr (all := all) HMI.out.1 HMI.out.2.1 HMI.out.2.2 (by omega))
        have hmx : Tryd.prog.follows .mixedOrders = true := by kernel_rfl
        clear b9 s1 s2 s4 hU
        go_wp2_with fail
        go_region_with (go_at_call 53; refine (set_any i (by omega) _).mono ?_; rintro e w' ⟨rfl, rfl⟩)
        all_goals go_wp2_with fail
        all_goals (
          refine ⟨⟨k + 1, by omega, by go_num, ?_, (HWB.out.setCell (p := ⟨g, 1 + j, none⟩) (Nat.le_refl _) _).drew⟩, by simp [intOf]; omega⟩
          unfold Hid
          rw [← HST.out]
          exact heap_setCell_same v2 g (1 + j) _ _ _ HWA.out)
      · obtain rfl : k = n2 := by omega
        have hin : ¬ (k : Int) < (k : Int) := by omega
        rw [List.take_of_length_le (by rw [HL2.out]; exact Nat.le_refl _)] at hA
        have hR2 := (HBel.out.block (b + 1) (by omega)).trans HR.out
        have hB2 := HB1.out.trans (HBel.out.mono (by omega))
        have g0 : wr.cell? ⟨g, 0, none⟩ = some (.int .u64 (all : Int)) := cell_of hA.out (i := 0) rfl
        have g1 : wr.cell? ⟨g, 1, none⟩ = some (.int .u64 (ups l m 0 : Int)) := cell_of hA.out (i := 1) rfl
        have g2 : wr.cell? ⟨g, 2, none⟩ = some (.int .u64 (ups l m 1 : Int)) := cell_of hA.out (i := 2) rfl
        have g3 : wr.cell? ⟨g, 3, none⟩ = some (.int .u64 (ups l m 2 : Int)) := cell_of hA.out (i := 3) rfl
        have g4 : wr.cell? ⟨g, 4, none⟩ = some (.int .u64 (ups l m 3 : Int)) := cell_of hA.out (i := 4) rfl
        have g5 : wr.cell? ⟨g, 5, none⟩ = some (.int .u64 (ups l m 4 : Int)) := cell_of hA.out (i := 5) rfl
        have g6 : wr.cell? ⟨g, 6, none⟩ = some (.int .u64 (ups l m 5 : Int)) := cell_of hA.out (i := 6) rfl
        have g7 : wr.cell? ⟨g, 7, none⟩ = some (.int .u64 (ups l m 6 : Int)) := cell_of hA.out (i := 7) rfl
        have g8 : wr.cell? ⟨g, 8, none⟩ = some (.int .u64 (ups l m 7 : Int)) := cell_of hA.out (i := 8) rfl
        have g9 : wr.cell? ⟨g, 9, none⟩ = some (.int .u64 (ups l m 8 : Int)) := cell_of hA.out (i := 9) rfl
        have g10 : wr.cell? ⟨g, 10, none⟩ = some (.int .u64 (ups l m 9 : Int)) := cell_of hA.out (i := 10) rfl
        have z0 : wr.cell? ⟨b + 1, 0, none⟩ = some (.int .u64 0) := cell_of hR2 (i := 0) rfl
        have z1 : wr.cell? ⟨b + 1, 1, none⟩ = some (.int .u64 0) := cell_of hR2 (i := 1) rfl
        have z2 : wr.cell? ⟨b + 1, 2, none⟩ = some (.int .u64 0) := cell_of hR2 (i := 2) rfl
        have z3 : wr.cell? ⟨b + 1, 3, none⟩ = some (.int .u64 0) := cell_of hR2 (i := 3) rfl
        have z4 : wr.cell? ⟨b + 1, 4, none⟩ = some (.int .u64 0) := cell_of hR2 (i := 4) rfl
        have z5 : wr.cell? ⟨b + 1, 5, none⟩ = some (.int .u64 0) := cell_of hR2 (i := 5) rfl
        have z6 : wr.cell? ⟨b + 1, 6, none⟩ = some (.int .u64 0) := cell_of hR2 (i := 6) rfl
        have z7 : wr.cell? ⟨b + 1, 7, none⟩ = some (.int .u64 0) := cell_of hR2 (i := 7) rfl
        have z8 : wr.cell? ⟨b + 1, 8, none⟩ = some (.int .u64 0) := cell_of hR2 (i := 8) rfl
        have z9 : wr.cell? ⟨b + 1, 9, none⟩ = some (.int .u64 0) := cell_of hR2 (i := 9) rfl
        have z10 : wr.cell? ⟨b + 1, 10, none⟩ = some (.int .u64 0) := cell_of hR2 (i := 10) rfl
        have y0 : ∀ i, wr.frozen? ⟨b + 1, i, none⟩ = false := fun i => by simp [World.frozen?, hR2]
        have HR2 := Lib.hid hR2
        have HB2 := Lib.hid hB2
        clear hR2 hB2
        go_wp2_with fail
        obtain ⟨X2, hX⟩ : ∃ X2, put11 wr (b + 1) (.int .u64 (all : Int)) (.int .u64 (ups l m 0 : Int)) (.int .u64 (ups l m 1 : Int)) (.int .u64 (ups l m 2 : Int)) (.int .u64 (ups l m 3 : Int)) (.int .u64 (ups l m 4 : Int)) (.int .u64 (ups l m 5 : Int)) (.int .u64 (ups l m 6 : Int)) (.int .u64 (ups l m 7 : Int)) (.int .u64 (ups l m 8 : Int)) (.int .u64 (ups l m 9 : Int)) = X2 := ⟨_, rfl⟩
        have hX2 := put11_heap (.int .u64 (all : Int)) (.int .u64 (ups l m 0 : Int)) (.int .u64 (ups l m 1 : Int)) (.int .u64 (ups l m 2 : Int)) (.int .u64 (ups l m 3 : Int)) (.int .u64 (ups l m 4 : Int)) (.int .u64 (ups l m 5 : Int)) (.int .u64 (ups l m 6 : Int)) (.int .u64 (ups l m 7 : Int)) (.int .u64 (ups l m 8 : Int)) (.int .u64 (ups l m 9 : Int)) HR2.out
        have hX3 := put11_below (.int .u64 (all : Int)) (.int .u64 (ups l m 0 : Int)) (.int .u64 (ups l m 1 : Int)) (.int .u64 (ups l m 2 : Int)) (.int .u64 (ups l m 3 : Int)) (.int .u64 (ups l m 4 : Int)) (.int .u64 (ups l m 5 : Int)) (.int .u64 (ups l m 6 : Int)) (.int .u64 (ups l m 7 : Int)) (.int .u64 (ups l m 8 : Int)) (.int .u64 (ups l m 9 : Int)) HB2.out (show w.heap.size ≤ b + 1 by omega)
        rw [hX] at hX2 hX3
        unfold put11 at hX
        rw [hX]
        have d0 : X2.cell? ⟨b + 1, 0, none⟩ = some (.int .u64 (all : Int)) := cell_of hX2 (i := 0) rfl
        have d1 : X2.cell? ⟨b + 1, 1, none⟩ = some (.int .u64 (ups l m 0 : Int)) := cell_of hX2 (i := 1) rfl
        have d2 : X2.cell? ⟨b + 1, 2, none⟩ = some (.int .u64 (ups l m 1 : Int)) := cell_of hX2 (i := 2) rfl
        have d3 : X2.cell? ⟨b + 1, 3, none⟩ = some (.int .u64 (ups l m 2 : Int)) := cell_of hX2 (i := 3) rfl
        have d4 : X2.cell? ⟨b + 1, 4, none⟩ = some (.int .u64 (ups l m 3 : Int)) := cell_of hX2 (i := 4) rfl
        have d5 : X2.cell? ⟨b + 1, 5, none⟩ = some (.int .u64 (ups l m 4 : Int)) := cell_of hX2 (i := 5) rfl
        have d6 : X2.cell? ⟨b + 1, 6, none⟩ = some (.int .u64 (ups l m 5 : Int)) := cell_of hX2 (i := 6) rfl
        have d7 : X2.cell? ⟨b + 1, 7, none⟩ = some (.int .u64 (ups l m 6 : Int)) := cell_of hX2 (i := 7) rfl
        have d8 : X2.cell? ⟨b + 1, 8, none⟩ = some (.int .u64 (ups l m 7 : Int)) := cell_of hX2 (i := 8) rfl
        have d9 : X2.cell? ⟨b + 1, 9, none⟩ = some (.int .u64 (ups l m 8 : Int)) := cell_of hX2 (i := 9) rfl
        have d10 : X2.cell? ⟨b + 1, 10, none⟩ = some (.int .u64 (ups l m 9 : Int)) := cell_of hX2 (i := 10) rfl
        clear hX
        refine bodyPost_ret (v := .tuple #[.agg (arr all (ups l m)), .bool true]) (by simp [arr, results, Tryd.results41, go_sem, d0, d1, d2, d3, d4, d5, d6, d7, d8, d9, d10]) rfl ?_
        refine ⟨?_, by rw [← hb0]; exact hX3⟩
        rw [HL1.out, HALL.out]
  · have hcp : (Consist.consP l m).1 = false := by
      cases hg2 : good l m with
      | false => rw [Consist.cons_no hg2]
      | true =>
        rw [Consist.cons_yes hg2]
        cases hc : cyc l m with
        | false => exact absurd ⟨hg2, hc⟩ hg
        | true =>
          unfold cyc at hc
          rw [hc]
          rfl
    have hgc : (good l m && !cyc l m) = false := by
      cases h1 : good l m with
      | false => rfl
      | true =>
        cases h2 : cyc l m with
        | true => rfl
        | false => exact absurd ⟨h1, h2⟩ hg
    have HG := Lib.hid hg
    have HGC := Lib.hid hgc
    rw [hcp]
    generalize (Consist.consP l m).2 = cc
    clear hg hcp hgc
    have z0 : w1.cell? ⟨b + 1, 0, none⟩ = some (.int .u64 0) := cell_of hR (i := 0) rfl
    have z1 : w1.cell? ⟨b + 1, 1, none⟩ = some (.int .u64 0) := cell_of hR (i := 1) rfl
    have z2 : w1.cell? ⟨b + 1, 2, none⟩ = some (.int .u64 0) := cell_of hR (i := 2) rfl
    have z3 : w1.cell? ⟨b + 1, 3, none⟩ = some (.int .u64 0) := cell_of hR (i := 3) rfl
    have z4 : w1.cell? ⟨b + 1, 4, none⟩ = some (.int .u64 0) := cell_of hR (i := 4) rfl
    have z5 : w1.cell? ⟨b + 1, 5, none⟩ = some (.int .u64 0) := cell_of hR (i := 5) rfl
    have z6 : w1.cell? ⟨b + 1, 6, none⟩ = some (.int .u64 0) := cell_of hR (i := 6) rfl
    have z7 : w1.cell? ⟨b + 1, 7, none⟩ = some (.int .u64 0) := cell_of hR (i := 7) rfl
    have z8 : w1.cell? ⟨b + 1, 8, none⟩ = some (.int .u64 0) := cell_of hR (i := 8) rfl
    have z9 : w1.cell? ⟨b + 1, 9, none⟩ = some (.int .u64 0) := cell_of hR (i := 9) rfl
    have z10 : w1.cell? ⟨b + 1, 10, none⟩ = some (.int .u64 0) := cell_of hR (i := 10) rfl
    have y0 : ∀ i, w1.frozen? ⟨b + 1, i, none⟩ = false := fun i => by simp [World.frozen?, hR]
    go_wp2_with fail
    obtain ⟨X, hX⟩ : ∃ X, put11 w1 (b + 1) (.int .u64 0) (.int .u64 0) (.int .u64 0) (.int .u64 0) (.int .u64 0) (.int .u64 0) (.int .u64 0) (.int .u64 0) (.int .u64 0) (.int .u64 0) (.int .u64 0) = X := ⟨_, rfl⟩
    have hX2 := put11_heap (.int .u64 0) (.int .u64 0) (.int .u64 0) (.int .u64 0) (.int .u64 0) (.int .u64 0) (.int .u64 0) (.int .u64 0) (.int .u64 0) (.int .u64 0) (.int .u64 0) hR
    have hX3 := put11_below (.int .u64 0) (.int .u64 0) (.int .u64 0) (.int .u64 0) (.int .u64 0) (.int .u64 0) (.int .u64 0) (.int .u64 0) (.int .u64 0) (.int .u64 0) (.int .u64 0) HB1.out (show w.heap.size ≤ b + 1 by omega)
    rw [hX] at hX2 hX3
    unfold put11 at hX
    rw [hX]
    have c0 : X.cell? ⟨b + 1, 0, none⟩ = some (.int .u64 0) := cell_of hX2 (i := 0) rfl
    have c1 : X.cell? ⟨b + 1, 1, none⟩ = some (.int .u64 0) := cell_of hX2 (i := 1) rfl
    have c2 : X.cell? ⟨b + 1, 2, none⟩ = some (.int .u64 0) := cell_of hX2 (i := 2) rfl
    have c3 : X.cell? ⟨b + 1, 3, none⟩ = some (.int .u64 0) := cell_of hX2 (i := 3) rfl
    have c4 : X.cell? ⟨b + 1, 4, none⟩ = some (.int .u64 0) := cell_of hX2 (i := 4) rfl
    have c5 : X.cell? ⟨b + 1, 5, none⟩ = some (.int .u64 0) := cell_of hX2 (i := 5) rfl
    have c6 : X.cell? ⟨b + 1, 6, none⟩ = some (.int .u64 0) := cell_of hX2 (i := 6) rfl
    have c7 : X.cell? ⟨b + 1, 7, none⟩ = some (.int .u64 0) := cell_of hX2 (i := 7) rfl
    have c8 : X.cell? ⟨b + 1, 8, none⟩ = some (.int .u64 0) := cell_of hX2 (i := 8) rfl
    have c9 : X.cell? ⟨b + 1, 9, none⟩ = some (.int .u64 0) := cell_of hX2 (i := 9) rfl
    have c10 : X.cell? ⟨b + 1, 10, none⟩ = some (.int .u64 0) := cell_of hX2 (i := 10) rfl
    clear hX
    refine bodyPost_ret (v := .tuple #[.agg (arr 0 (fun _ => 0)), .bool false]) (by simp [arr, results, Tryd.results41, go_sem, c0, c1, c2, c3, c4, c5, c6, c7, c8, c9, c10]) rfl ?_
    exact ⟨by first | rw [HGC.out] | rw [if_neg HG.out, HGC.out], by rw [← hb0]; exact hX3⟩
end Go.Proofs.YtjllbbkpmmnkgaaDoor.Org
