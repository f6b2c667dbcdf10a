/- The program's orderOf, and the function that it returns. -/
import Derived.Test.YtmjhgjlnpnkmkaaFrom
namespace Go.Proofs.Ytmjhgjlnpnkmkaa.Order
open Go.RowKit Go.Maps Pairs Chain Find2 GoodM Lows Queue From MapStep
theorem zeroM (w : World) : (zeroValue 131).run Try.prog w = .ok (.map none) w := by kernel_rfl
/-- How the map of maps reads: by the inner maps' blocks. -/
def chR : Value → Option (Dat × List MemPlace)
  | .map (some g) => some (.lit (.int .i64 (g : Int)), [])
  | .map none => some (.nil, [])
  | _ => none
theorem chR_inv {v : Value} {g : Nat} {ps : List MemPlace} (h : chR v = some (.lit (.int .i64 (g : Int)), ps)) : v = .map (some g) := by
  unfold chR at h
  split at h
  · injection h with h
    injection h with h _
    injection h with h
    injection h with _ h
    rw [Int.ofNat.inj h]
  · injection h with h
    injection h with h _
    cases h
  · cases h
theorem keys_next {l : Ps} {k : Nat} {x y : Int} (hx : l[k]? = some (x, y)) : keys (l.take (k + 1)) = keys (l.take k) ++ [x] := by
  rw [List.take_add_one, hx]
  unfold keys
  simp
/-- The searches of the first k contexts, in the map of block bc. -/
def Ord (w : World) (l m : Ps) (k bc : Nat) : Prop := ∃ D : Dat, w.ownsMap Try.prog 3 chR bc k D ∧
  ∀ x, x ∈ keys (l.take k) → ∃ (g t : Nat) (pv : Ps), D.atKey (.int .i64 x) .nil = .lit (.int .i64 (g : Int)) ∧ stAt m x t = ([], pv) ∧ Prev w g pv ∧ bc < g
theorem Ord.below {w w' : World} {l m : Ps} {k bc : Nat} (h : Ord w l m k bc) (hb : Below w.heap.size w w') : Ord w' l m k bc := by
  obtain ⟨D, ho, hk⟩ := h
  refine ⟨D, ho.kept (grown_none hb) (by simp), fun x hx => ?_⟩
  obtain ⟨g, t, pv, h1, h2, h3, h4⟩ := hk x hx
  exact ⟨g, t, pv, h1, h2, h3.below hb, h4⟩
theorem Ord.next {w w2 : World} {l m : Ps} {k bc g t : Nat} {D : Dat} {x y : Int} {pv : Ps} (hD : IsMap D) (hk : ∀ x, x ∈ keys (l.take k) → ∃ (g t : Nat) (pv : Ps), D.atKey (.int .i64 x) .nil = .lit (.int .i64 (g : Int)) ∧ stAt m x t = ([], pv) ∧ Prev w g pv ∧ bc < g)
    (hx : l[k]? = some (x, y)) (hst : stAt m x t = ([], pv)) (hp : Prev w g pv) (hg : bc < g) (hown : w2.ownsMap Try.prog 3 chR bc (k + 1) (D.put (.int .i64 x) (.lit (.int .i64 (g : Int))))) (hgr : w.grownBy w2 (some bc)) : Ord w2 l m (k + 1) bc := by
  refine ⟨_, hown, fun z hz => ?_⟩
  by_cases e : x = z
  · subst e
    exact ⟨g, t, pv, atKey_put_same hD (show WideAt.IsKeyLit (.int .i64 x) from trivial) _ _, hst, hp.kept hgr (by intro h; injection h with h; omega), hg⟩
  · rw [keys_next hx] at hz
    rcases List.mem_append.1 hz with hz | hz
    · obtain ⟨g', t', pv', h1, h2, h3, h4⟩ := hk z hz
      exact ⟨g', t', pv', by rw [atKey_put_other (by intro h2; injection h2 with _ h2; exact e h2.symm)]; exact h1, h2, h3.kept hgr (by intro h; injection h with h; omega), h4⟩
    · simp at hz
      exact absurd hz.symm e
theorem ord_isMap {w : World} {bc k : Nat} {D : Dat} (h : w.ownsMap Try.prog 3 chR bc k D) : IsMap D := by
  obtain ⟨_, _, _, _, _, hD⟩ := h
  exact ⟨_, hD⟩
/-- What the function that orderOf returns looks into. -/
def IsOrd (w : World) (l m : Ps) (bx : Nat) : Prop := ∃ bc, w.cell? ⟨bx, 0, none⟩ = some (.map (some bc)) ∧ Ord w l m l.length bc
theorem IsOrd.below {w w' : World} {l m : Ps} {bx : Nat} (h : IsOrd w l m bx) (hb : Below w.heap.size w w') : IsOrd w' l m bx := by
  obtain ⟨bc, h1, h2⟩ := h
  exact ⟨bc, (hb.cell (p := ⟨bx, 0, none⟩) (World.block_lt_of_cell? w _ h1)).trans h1, h2.below hb⟩
theorem found_later {m : Ps} {a b : Int} {t : Nat} {pv : Ps} (h : stAt m a t = ([], pv)) : (isAt pv b).isSome = later m a b := by
  have i := inv_at m a t
  rw [h] at i
  have e := i.end b
  rw [← isAt_keys, ← later_iff] at e
  cases h1 : (isAt pv b).isSome <;> cases h2 : later m a b <;> simp_all
set_option maxHeartbeats 1000000 in
theorem isLater_any (bx : Nat) (l m : Ps) (a b : Int) (w : World) (h : IsOrd w l m bx) (ha : a ∈ keys l) (hra : -1000000 ≤ a ∧ a ≤ 1000000) (hrb : -1000000 ≤ b ∧ b ≤ 1000000) :
    Calls Try.prog 113 #[.int .i64 a, .int .i64 b, .pointer (some ⟨bx, 0, none⟩)] w fun e w' => e = .returned (.bool (later m a b)) ∧ w' = w := by
  obtain ⟨bc, c0, D, ho, hk⟩ := h
  obtain ⟨g, t, pv, h1, h2, h3, h4⟩ := hk a (by rw [List.take_of_length_le (Nat.le_refl _)]; exact ha)
  obtain ⟨v, ps, hr1, hv⟩ := ho.lookup law (t := 130) Try.underlying130 (zeroM w) (zd := .nil) (zp := []) rfl (keyI hra)
  rw [h1] at hv
  have e := chR_inv hv
  subst e
  obtain ⟨u, ps2, hr2, hu⟩ := World.ownsMap.look_ok h3 law (t := 131) Try.underlying131 (zeroI w) (zd := .lit (.int .i64 0)) (zp := []) (elem (by omega)) (keyI hrb)
  obtain ⟨c, rfl, _, _⟩ := plainElem_int_inv Try.underlying3 hu
  rw [has_mapOf, found_later h2] at hr2
  clear ho hk h1 h2 h3 h4 hv hu
  go_enter Try.func113, Try.ntmps113
  go_wp2_with fail
  go_ret
  exact ⟨rfl, rfl⟩
def OrdAns (l m : Ps) (w : World) (e : Ending) (w' : World) : Prop := ∃ bx, e = .returned (.func (.func 113) #[] #[.pointer (some ⟨bx, 0, none⟩)]) ∧ IsOrd w' l m bx ∧ Below w.heap.size w w'
theorem belA {W X : World} (h : Below W.heap.size W X) (o : Obj) : Below W.heap.size W (X.alloc o) := h.alloc h.size o
set_option maxRecDepth 100000 in
set_option maxHeartbeats 8000000 in
theorem orderOf_any (a1 a2 : Option Addr) (n1 c1 n2 c2 : Nat) (l m : List (Int × Int)) (w : World) (hgood : good l m = true) (h1 : Holds w a1 n1 l) (h2 : Holds w a2 n2 m) :
    Calls Try.prog 90 #[.agg #[.slice a1 n1 c1, .slice a2 n2 c2]] w (OrdAns l m w) := by
  have hmm := @run_makeMap Try.prog
  have hn : l.length ≤ 10 ∧ m.length ≤ 24 := by
    have h := hgood
    unfold good at h
    simp only [Bool.and_eq_true, decide_eq_true_eq] at h
    exact ⟨h.1.1.1, h.1.1.2⟩
  have hn1 : n1 ≤ 10 := by rw [← h1.1]; exact hn.1
  have hn2 : n2 ≤ 24 := by rw [← h2.1]; exact hn.2
  have HN := Lib.hid hn
  have HL1 := Lib.hid h1.1
  have hb := below_alloc w (.cells #[.slice a1 n1 c1, .slice a2 n2 c2] 33)
  have hf := box_first w (.slice a1 n1 c1) (.slice a2 n2 c2) 33
  have hf2 := box_second w (.slice a1 n1 c1) (.slice a2 n2 c2) 33
  have hsz : w.heap.size < (w.alloc (.cells #[.slice a1 n1 c1, .slice a2 n2 c2] 33)).heap.size := by simp
  have H1 := Lib.hid (h1.below hb)
  have H2 := Lib.hid (h2.below hb)
  have HG := Lib.hid hgood
  have HB := Lib.hid hb
  clear h1 h2 hgood hb hn
  go_enter Try.func90, Try.ntmps90
  go_wp2_with fail
  generalize w.alloc (.cells #[.slice a1 n1 c1, .slice a2 n2 c2] 33) = W0 at *
  refine (lowersOf_any a1 a2 n1 c1 n2 c2 l m W0 HG.out H2.out).mono ?_
  rintro e w1 ⟨bl, rfl, hlow, hbl, hb1⟩
  have g1 := (hb1.cell (p := ⟨w.heap.size, 0, none⟩) hsz).trans hf
  have hsz1 := Nat.lt_of_lt_of_le hsz hb1.size
  have ha := below_alloc w1 (.map #[] 0)
  have hb2 := ha.trans (belA (Below.refl _ _) (.cells #[.map (some w1.heap.size)] 130) |>.mono ha.size)
  have s1 := (hb2.cell (p := ⟨w.heap.size, 0, none⟩) hsz1).trans g1
  have hO0 : ((w1.alloc (.map #[] 0)).alloc (.cells #[.map (some w1.heap.size)] 130)).ownsMap Try.prog 3 chR w1.heap.size 0 (.map []) := (World.ownsMap_made w1 Try.prog 3 chR).alloc _
  have hbxc : ((w1.alloc (.map #[] 0)).alloc (.cells #[.map (some w1.heap.size)] 130)).cell? ⟨w1.heap.size + 1, 0, none⟩ = some (.map (some w1.heap.size)) := by
    have e : (w1.alloc (.map #[] 0)).heap.size = w1.heap.size + 1 := by simp
    rw [← e, World.cell?_alloc_mark]
    rfl
  have HOrd : Hid (Ord ((w1.alloc (.map #[] 0)).alloc (.cells #[.map (some w1.heap.size)] 130)) l m 0 w1.heap.size) := ⟨_, hO0, fun x hx => by simp [keys] at hx⟩
  have HB1 := Lib.hid (HB.out.trans (hb1.mono HB.out.size))
  have H11 := Lib.hid (H1.out.below hb1)
  have HBW := Lib.hid hb2
  have HLW1 := Lib.hid hlow
  have hszs : ((w1.alloc (.map #[] 0)).alloc (.cells #[.map (some w1.heap.size)] 130)).heap.size = w1.heap.size + 2 := by simp
  clear hf hf2 hlow hb1 ha hb2 hO0
  go_wp2_with fail
  have HBXC := Lib.hid hbxc
  clear hmm s1 hbxc H1
  generalize (w1.alloc (.map #[] 0)).alloc (.cells #[.map (some w1.heap.size)] 130) = W2 at *
  have hss : W2.heap.size = w1.heap.size + 2 := hszs
  go_loopw [13] (fun s13 wr => ∃ k : Nat, k ≤ n1 ∧ s13 = .int .i64 k ∧ Hid (Ord wr l m k w1.heap.size) ∧ Hid (Below w1.heap.size w1 wr) ∧ wr.cell? ⟨w1.heap.size + 1, 0, none⟩ = some (.map (some w1.heap.size)) ∧ w1.heap.size + 2 ≤ wr.heap.size) (fun s13 _ => n1 - (intOf s13).toNat)
  case atStart => exact ⟨0, Nat.zero_le _, rfl, HOrd, HBW, HBXC.out, by omega⟩
  case round =>
    obtain ⟨k, hk, rfl, HO, HBR, hbc, hws⟩ := hrel
    clear HOrd hss hszs HBXC
    by_cases hlt : k < n1
    · obtain ⟨b, off, x, y, rfl, hx, e1, e2⟩ := (H11.out.below HBR.out).at k hlt
      have hkn : (k : Int) < (n1 : Int) := by omega
      have hxr := nums HG.out hx
      obtain ⟨D, hown, hkk⟩ := HO.out
      have hbz := below_alloc wr (.cells #[.int .i64 x, .int .i64 y] 89)
      have u1 := box_first wr (.int .i64 x) (.int .i64 y) 89
      have u2' := box_second wr (.int .i64 x) (.int .i64 y) 89
      have cx1 := (hbz.cell (p := ⟨w1.heap.size + 1, 0, none⟩) (by show w1.heap.size + 1 < _; omega)).trans hbc
      have hzs : wr.heap.size < (wr.alloc (.cells #[.int .i64 x, .int .i64 y] 89)).heap.size := by simp
      have HOW := Lib.hid (hown.kept (grown_none hbz) (by simp))
      have HKK : Hid (∀ z, z ∈ keys (l.take k) → ∃ (g t : Nat) (pv : Ps), D.atKey (.int .i64 z) .nil = .lit (.int .i64 (g : Int)) ∧ stAt m z t = ([], pv) ∧ Prev (wr.alloc (.cells #[.int .i64 x, .int .i64 y] 89)) g pv ∧ w1.heap.size < g) := fun z hz => by
        obtain ⟨g', t', pv', h1, h2, h3, h4⟩ := hkk z hz
        exact ⟨g', t', pv', h1, h2, h3.below (below_alloc wr _), h4⟩
      have HBZ := Lib.hid (HBR.out.trans (hbz.mono HBR.out.size))
      have HX := Lib.hid hx
      have HMR : Hid (∀ x y, (x, y) ∈ m → (1 ≤ x ∧ x ≤ 999) ∧ (1 ≤ y ∧ y ≤ 999)) := fun x y hm => rels HG.out hm
      have HXR := Lib.hid hxr
      clear hown hkk hbz hx HO HBR hbc hxr
      go_wp2_with fail
      generalize wr.alloc (.cells #[.int .i64 x, .int .i64 y] 89) = Z at *
      generalize wr.heap.size = cb at *
      clear e1 e2 u2'
      have HS : Hid (∀ X, Below Z.heap.size Z X → X.cell? ⟨w1.heap.size + 1, 0, none⟩ = some (.map (some w1.heap.size)) ∧ X.cell? ⟨cb, 0, none⟩ = some (.int .i64 x)) := fun X hX => ⟨(hX.cell (p := ⟨w1.heap.size + 1, 0, none⟩) (by show w1.heap.size + 1 < _; omega)).trans cx1, (hX.cell (p := ⟨cb, 0, none⟩) hzs).trans u1⟩
      go_region_held3 (fun X => X.cell? ⟨w1.heap.size + 1, 0, none⟩ = some (.map (some w1.heap.size)) ∧ X.cell? ⟨cb, 0, none⟩ = some (.int .i64 x))
        (first | exact s2 | exact s9 | (refine HS.out _ ?_; (repeat (first | exact Below.refl _ _ | refine belA ?_ _ | refine Below.drew ?_)); done))
        (first
          | (go_at_call 112; refine (from_any bl n2 m x _ HN.out.2 HMR.out HXR.out ((HLW1.out.below HBZ.out).below ?_)).mono ?_; (exact (Below.refl Z.heap.size Z).drew); rintro e w9 ⟨g, t, pv, rfl, hst, hpv, hge, hb9⟩; have s9 := HS.out w9 ((Below.refl Z.heap.size Z).drew.trans hb9))
          | (obtain ⟨w2, hrun2, hown2, hgrow2⟩ := World.ownsMap.update (HOW.out.kept (grown_none ((Below.refl Z.heap.size Z).drew.trans hb9)) (by simp)) law Try.underlying130 (by unfold maxLen; omega) (val := .map (some g)) (keyI (x := x) (by have := HXR.out; omega)) rfl; have s2 : w2.cell? ⟨w1.heap.size + 1, 0, none⟩ = some (.map (some w1.heap.size)) ∧ w2.cell? ⟨cb, 0, none⟩ = some (.int .i64 x) := ⟨(World.cell?_of_block (hgrow2.block (w1.heap.size + 1) (World.block_lt_of_cell? w9 _ s9.1) (by intro e; injection e with e; omega))).trans s9.1, (World.cell?_of_block (hgrow2.block cb (World.block_lt_of_cell? w9 _ s9.2) (by intro e; injection e with e; omega))).trans s9.2⟩; refine upon_ok hrun2 ?_; rw [Oper.upon_skip])
          | fail)
      have hz9 := (Below.refl Z.heap.size Z).drew.trans hb9
      have HON : Hid (Ord w2 l m (k + 1) w1.heap.size) := Ord.next (w := w9) (ord_isMap HOW.out) (fun z hz => by
        obtain ⟨g', t', pv', h1, h2, h3, h4⟩ := HKK.out z hz
        exact ⟨g', t', pv', h1, h2, h3.below hz9, h4⟩) HX.out hst hpv (by have h5 : Z.heap.size ≤ g := hge; omega) hown2 hgrow2
      have HBN : Hid (Below w1.heap.size w1 w2) := (HBZ.out.trans (hz9.mono HBZ.out.size)).grown hgrow2 (HBZ.out.trans (hz9.mono HBZ.out.size)).size (fun j hj => by injection hj with hj; omega)
      have hsn : w1.heap.size + 2 ≤ w2.heap.size := by have h5 := hgrow2.size; have h6 := hz9.size; omega
      have HS2 := Lib.hid s2
      clear hown2 hgrow2 hrun2 hb9 hz9 s9 s2 hst hpv hge
      go_wp2_with fail
      exact ⟨⟨k + 1, by omega, by go_num, HON, HBN, HS2.out.1, hsn⟩, by simp [intOf]; omega⟩
    · obtain rfl : k = n1 := by omega
      have hkn : ¬ (k : Int) < (k : Int) := by omega
      have HIO : Hid (IsOrd wr l m (w1.heap.size + 1)) := ⟨_, hbc, by rw [HL1.out]; exact HO.out⟩
      clear hbc
      go_wp2_with fail
      go_ret
      exact ⟨_, rfl, HIO.out, HB1.out.trans (HBR.out.mono HB1.out.size)⟩
end Go.Proofs.Ytmjhgjlnpnkmkaa.Order
