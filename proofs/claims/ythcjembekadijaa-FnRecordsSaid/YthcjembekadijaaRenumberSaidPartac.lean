/- What EquateContexts answers. -/
import Derived.Test.YthcjembekadijaaOrderSaidPartat
import Derived.Test.YthcjembekadijaaRenumberSaidPartaa
import Derived.Test.YthcjembekadijaaRenumberSaidPartab
import Derived.Test.YthcjembekadijaaOrderSaidPartaw
namespace Go.Proofs.Ythcjembekadijaa.EquM
open Find2 GoodM RelM Gives SwapM
def kindAt (l : List (Int × Int)) (i : Nat) : Option Int := (l[i]?).map (·.2)
def eqM (keep drop : Int) : RR := fun l m =>
  if good l m = true then match isAt l keep, isAt l drop with
    | some i, some j => if i ≠ j ∧ kindAt l i = kindAt l j then some (l.take j ++ l.drop (j + 1), swapM drop keep m) else none
    | _, _ => none
  else none
variable {keep drop : Int} {l m : List (Int × Int)} {i j : Nat}
theorem eqM_bad (h : good l m = false) : eqM keep drop l m = none := by unfold eqM; rw [if_neg (by rw [h]; simp)]
theorem eqM_noK (h : isAt l keep = none) : eqM keep drop l m = none := by
  unfold eqM
  rw [h]
  split <;> rfl
theorem eqM_noD (h : isAt l drop = none) : eqM keep drop l m = none := by
  unfold eqM
  rw [h]
  split
  · cases isAt l keep <;> rfl
  · rfl
theorem eqM_no (hi : isAt l keep = some i) (hj : isAt l drop = some j) (h : ¬ (i ≠ j ∧ kindAt l i = kindAt l j)) : eqM keep drop l m = none := by
  unfold eqM
  rw [hi, hj]
  split
  · exact if_neg h
  · rfl
theorem eqM_some (hg : good l m = true) (hi : isAt l keep = some i) (hj : isAt l drop = some j) (h1 : i ≠ j) (h2 : kindAt l i = kindAt l j) : eqM keep drop l m = some (l.take j ++ l.drop (j + 1), swapM drop keep m) := by
  unfold eqM
  rw [if_pos hg, hi, hj]
  exact if_pos ⟨h1, h2⟩
theorem isAt_lt {z : Int} {k : Nat} (h : isAt l z = some k) : k < l.length := by
  unfold isAt at h
  rw [List.findIdx?_eq_some_iff_getElem] at h
  exact h.1
theorem kindAt_is {x u : Int} (h : l[i]? = some (x, u)) : kindAt l i = some u := by unfold kindAt; rw [h]; rfl
end Go.Proofs.Ythcjembekadijaa.EquM
/- slices.SortFunc over contexts of different numbers, by their numbers. -/
namespace Go.Proofs.Ythcjembekadijaa.SortC
open Go.RowKit Pairs Rec RecEq Keep Row2 Copy Two SwapM Cmp RelM
open Go.Sort (SWO grow flatK putRowK HoldsK size_flatK get_flatK putCells putRow mapBlock)
def encC (kf : Int → Int) (z : Int) : List Value := [.int .i64 z, .int .i64 (kf z)]
theorem lt_isC (x y : Int) : ltOf cmpI x y = decide (x < y) := by
  unfold ltOf
  by_cases h : x < y
  · rw [decide_eq_true h]; exact decide_eq_true ((cmpI_lt x y).2 h)
  · rw [decide_eq_false h]; exact decide_eq_false (fun e => h ((cmpI_lt x y).1 e))
theorem swoC : SWO (ltOf cmpI) where
  irrefl x := by rw [lt_isC]; simp
  trans x y z h1 h2 := by rw [lt_isC] at *; simp at *; omega
  ntrans x y z h1 h2 := by rw [lt_isC] at *; simp at *; omega
theorem totC (x y : Int) (h1 : ltOf cmpI x y = false) (h2 : ltOf cmpI y x = false) : x = y := by
  rw [lt_isC] at h1 h2
  simp at h1 h2
  omega
def leC (x y : Int) : Bool := decide (x ≤ y)
theorem le_isC : (fun x y : Int => !(ltOf cmpI) y x) = leC := by
  funext x y
  rw [lt_isC]
  unfold leC
  by_cases h : y < x
  · rw [decide_eq_true h, decide_eq_false (by omega)]; rfl
  · rw [decide_eq_false h, decide_eq_true (by omega)]; rfl
theorem close_any (x y u v : Int) (w : World) : Calls Try.prog 100 #[.agg #[.int .i64 x, .int .i64 y], .agg #[.int .i64 u, .int .i64 v]] w fun e w' => e = .returned (.int .i64 (cmpI x u)) ∧ Below w.heap.size w w' ∧ w.drawn ≤ w'.drawn := by
  obtain ⟨hs, x1, x2, y1, y2, hb0⟩ := boxes2 w (.int .i64 x) (.int .i64 y) (.int .i64 u) (.int .i64 v) 55 55
  have HS := Lib.hid hs
  clear hs
  have hc := fun W => compare_any x u W
  generalize cmpI x u = r at *
  go_enter Try.func100, Try.ntmps100
  go_wp2_with (go_at_call 101; refine (hc _).mono ?_; rintro e w' ⟨rfl, rfl⟩)
  go_ret
  exact ⟨rfl, hb0, Nat.le_refl _⟩
theorem cmpLays (kf : Int → Int) (blk off size : Nat) (w : World) : CmpLays Try.prog 100 #[] (encC kf) 2 cmpI blk off size w :=
  fun _ _ _ _ x y => (close_any x (kf x) y (kf y) _).mono fun _ _ ⟨he, hb, hd⟩ => ⟨he, SortR.grown_of hb hd⟩
theorem flat_is {kf : Int → Int} {L : List (Int × Int)} (hk : ∀ p ∈ L, kf p.1 = p.2) {t : Nat} (ht : t < L.length * 2) : (flat L)[t]? = some ((flatK (encC kf) 2 (L.map (·.1)).toArray)[t]!) := by
  have hl : t / 2 < L.length := by omega
  have e := flat_get L (t / 2) L[t / 2].1 L[t / 2].2 (List.getElem?_eq_getElem hl)
  rw [get_flatK _ _ _ _ (by simpa using ht)]
  have hd : (L.map (·.1)).toArray[t / 2]! = L[t / 2].1 := by simp [hl]
  rw [hd]
  have hkk := hk L[t / 2] (List.getElem_mem hl)
  by_cases h : t = t / 2 * 2
  · have h2 : t % 2 = 0 := by omega
    rw [h2]
    conv => lhs; rw [h]
    rw [e.1]
    rfl
  · have h2 : t % 2 = 1 := by omega
    have h3 : t = t / 2 * 2 + 1 := by omega
    rw [h2]
    conv => lhs; rw [h3]
    rw [e.2]
    unfold encC
    rw [hkk]
    rfl
def srt (kf : Int → Int) (L : List (Int × Int)) : List (Int × Int) := ((L.map (·.1)).mergeSort leC).map (fun z => (z, kf z))
theorem srt_len (kf : Int → Int) (L : List (Int × Int)) : (srt kf L).length = L.length := by unfold srt; simp
theorem srt_fst (kf : Int → Int) (L : List (Int × Int)) : (srt kf L).map (·.1) = (L.map (·.1)).mergeSort leC := by
  unfold srt
  rw [List.map_map]
  exact List.map_id _
theorem srt_kf (kf : Int → Int) (L : List (Int × Int)) : ∀ p ∈ srt kf L, kf p.1 = p.2 := by
  intro p hp
  unfold srt at hp
  rw [List.mem_map] at hp
  obtain ⟨z, _, rfl⟩ := hp
  rfl
theorem sort_any (kf : Int → Int) (L : List (Int × Int)) (hk : ∀ p ∈ L, kf p.1 = p.2) (g n : Nat) (hn : L.length = n) (h0 : 0 < n) (hz : n ≤ 1048576) (w : World) (hw : w.heap[g]? = some (.cells (flat L).toArray 55)) :
    Calls Try.prog 99 #[.slice (some ⟨g, 0, none⟩) n n, .func (.func 100) #[] #[]] w fun e w' => e = .returned (.tuple #[]) ∧ w'.heap[g]? = some (.cells (flat (srt kf L)).toArray 55) ∧ Kept (fun b => b = g) w w' := by
  have hg := (Array.getElem?_eq_some_iff.1 hw).1
  have hlen : (flat L).length = n * 2 := by rw [flat_len, hn]
  have hH : HoldsK (encC kf) 2 w g 0 (L.map (·.1)).toArray := by
    intro t ht
    rw [size_flatK] at ht
    have ht' : t < L.length * 2 := by simpa using ht
    constructor
    · simp only [World.cell?, hw, Nat.zero_add, List.getElem?_toArray]
      rw [flat_is hk ht']
      rfl
    · simp only [World.frozen?, hw]
      rfl
  have eg : ∀ args w, (callFunc 100 args).run Try.prog w = .ok (.enter 100 args) w := enters_of Try.func100 (by kernel_rfl) rfl
  have hcon := AnyQ.slices_SortFunc_total Try.sortCtx 2 Try.isAgg55 Try.sizeOf55 (encC kf) (fun _ => rfl) (fun x v hv => by simp [encC] at hv; rcases hv with rfl | rfl <;> rfl) cmpI swoC 100 #[] g 0 n (L.map (·.1)).toArray w eg (cmpLays kf g 0 _ w) hH hg (by simp [hn]; omega) totC
  rw [le_isC] at hcon
  simp only [List.size_toArray, List.length_map, hn] at hcon
  refine hcon.mono ?_
  rintro e w' ⟨rfl, q, os, rfl⟩
  refine ⟨rfl, ?_, ⟨rfl, rfl, rfl, ?_, ?_⟩⟩
  · show ((w.heap.modify g _) ++ os)[g]? = _
    rw [Array.getElem?_append_left (by simpa using hg), Array.getElem?_modify, if_pos rfl, hw]
    show some (Obj.cells (putCells id 0 (flatK (encC kf) 2 _) (flat L).toArray) _) = _
    refine congrArg (fun a => some (Obj.cells a 55)) ?_
    apply Array.ext_getElem?
    intro t
    by_cases ht : t < n * 2
    · have e1 := flat_is (srt_kf kf L) (t := t) (by rw [srt_len, hn]; exact ht)
      rw [srt_fst] at e1
      have e2 : (flat (srt kf L)).toArray[t]? = some ((flatK (encC kf) 2 ((L.map (·.1)).mergeSort leC).toArray)[t]!) := by rw [List.getElem?_toArray]; exact e1
      rw [e2]
      simp only [putCells, Array.getElem?_mapIdx, List.getElem?_toArray]
      rw [List.getElem?_eq_getElem (by omega), Option.map_some, if_pos ⟨Nat.zero_le _, by rw [size_flatK]; simpa [hn] using ht⟩]
      rfl
    · rw [Array.getElem?_eq_none (by simp [putCells, hlen]; omega), Array.getElem?_eq_none (by simp [flat_len, srt_len, hn]; omega)]
  · show w.heap.size ≤ ((w.heap.modify g _) ++ os).size
    simp
  · intro b hb2 hne
    show ((w.heap.modify g _) ++ os)[b]? = _
    rw [Array.getElem?_append_left (by simpa using hb2), Array.getElem?_modify, if_neg (fun e => hne e.symm)]
/-- One number in a list that rises, put for another and sorted: it is taken out and linked in at its place. -/
theorem up_of_asc {l : List (Int × Int)} (h : GoodM.Asc l) : Up l := by
  unfold Up
  rw [List.pairwise_iff_getElem]
  intro i j hi hj hij
  have := h.lt (j - i - 1) i l[i] l[j] (List.getElem?_eq_getElem hi) (by rw [show i + (j - i - 1) + 1 = j by omega]; exact List.getElem?_eq_getElem hj)
  rw [before_iff]
  exact .inl this
theorem srt_up {kf : Int → Int} {L : List (Int × Int)} (hn : (L.map (·.1)).Nodup) : Up (srt kf L) := by
  have hs : ((L.map (·.1)).mergeSort leC).Pairwise (fun x y => leC x y = true) := List.pairwise_mergeSort (fun a b c h1 h2 => by unfold leC at *; simp at *; omega) (fun a b => by unfold leC; simp; omega) _
  have hd : ((L.map (·.1)).mergeSort leC).Nodup := (List.mergeSort_perm _ _).nodup_iff.2 hn
  unfold Up srt
  rw [List.pairwise_map]
  refine (hs.and hd).imp ?_
  intro a b hab
  obtain ⟨h1, h2⟩ := hab
  rw [before_iff]
  unfold leC at h1
  simp at h1
  left
  show a < b
  omega
theorem mem_srt {kf : Int → Int} {L : List (Int × Int)} (hk : ∀ p ∈ L, kf p.1 = p.2) {p : Int × Int} : p ∈ srt kf L ↔ p ∈ L := by
  unfold srt
  rw [List.mem_map]
  constructor
  · rintro ⟨z, hz, rfl⟩
    rw [List.mem_mergeSort, List.mem_map] at hz
    obtain ⟨q, hq, rfl⟩ := hz
    rw [hk q hq]
    exact hq
  · intro hp
    refine ⟨p.1, ?_, by rw [hk p hp]⟩
    rw [List.mem_mergeSort, List.mem_map]
    exact ⟨p, hp, rfl⟩
/-- The kind of a number in a list. -/
def kfOf (L : List (Int × Int)) (z : Int) : Int := ((L.find? (fun p => p.1 == z)).map (·.2)).getD 0
theorem kfOf_is : ∀ {L : List (Int × Int)}, (L.map (·.1)).Nodup → ∀ p ∈ L, kfOf L p.1 = p.2
  | [], _, p, hp => by simp at hp
  | q :: L, hn, p, hp => by
    rw [List.map_cons, List.nodup_cons] at hn
    unfold kfOf
    rw [List.find?_cons]
    by_cases e : q.1 = p.1
    · rw [show (q.1 == p.1) = true by simp [e]]
      rw [List.mem_cons] at hp
      rcases hp with rfl | hp
      · rfl
      · exact absurd (List.mem_map.2 ⟨p, hp, e.symm⟩) hn.1
    · rw [show (q.1 == p.1) = false by simpa using e]
      rw [List.mem_cons] at hp
      rcases hp with rfl | hp
      · exact absurd rfl e
      · exact kfOf_is hn.2 p hp
def rest (l : List (Int × Int)) (i : Nat) : List (Int × Int) := l.take i ++ l.drop (i + 1)
theorem up_rest {l : List (Int × Int)} (h : Up l) (i : Nat) : Up (rest l i) := by
  refine List.Pairwise.sublist ?_ h
  have : (l.take i ++ l.drop (i + 1)).Sublist (l.take i ++ l.drop i) := List.Sublist.append (List.Sublist.refl _) (by
    rw [← List.drop_drop]
    exact List.drop_sublist _ _)
  rw [List.take_append_drop] at this
  exact this
theorem rest_nodup {l : List (Int × Int)} {i : Nat} (h : (l.map (·.1)).Nodup) : ((rest l i).map (·.1)).Nodup := by
  refine List.Nodup.sublist ?_ h
  refine List.Sublist.map _ ?_
  have : (l.take i ++ l.drop (i + 1)).Sublist (l.take i ++ l.drop i) := List.Sublist.append (List.Sublist.refl _) (by
    rw [← List.drop_drop]
    exact List.drop_sublist _ _)
  rw [List.take_append_drop] at this
  exact this
theorem up_nodup {l : List (Int × Int)} (h : GoodM.Asc l) : (l.map (·.1)).Nodup := by
  rw [List.nodup_iff_pairwise_ne, List.pairwise_map]
  rw [List.pairwise_iff_getElem]
  intro i j hi hj hij
  have := h.lt (j - i - 1) i l[i] l[j] (List.getElem?_eq_getElem hi) (by rw [show i + (j - i - 1) + 1 = j by omega]; exact List.getElem?_eq_getElem hj)
  omega
theorem mem_set_rest {l : List (Int × Int)} {i : Nat} (hi : i < l.length) {x p : Int × Int} : p ∈ l.set i x ↔ p = x ∨ p ∈ rest l i := by
  unfold rest
  rw [List.set_eq_take_append_cons_drop, if_pos hi, List.mem_append, List.mem_cons, List.mem_append]
  constructor
  · rintro (h | h | h)
    · exact .inr (.inl h)
    · exact .inl h
    · exact .inr (.inr h)
  · rintro (h | h | h)
    · exact .inr (.inl h)
    · exact .inl h
    · exact .inr (.inr h)
theorem nodup_set_rest {l : List (Int × Int)} {i : Nat} (hi : i < l.length) {n k : Int} (hr : ((rest l i).map (·.1)).Nodup) (hn : ∀ p ∈ rest l i, p.1 ≠ n) : ((l.set i (n, k)).map (·.1)).Nodup := by
  have hp : ((l.set i (n, k)).map (·.1)).Perm (n :: (rest l i).map (·.1)) := by
    unfold rest
    rw [List.set_eq_take_append_cons_drop, if_pos hi, List.map_append, List.map_cons, List.map_append]
    exact List.perm_middle
  rw [hp.nodup_iff, List.nodup_cons]
  refine ⟨fun h => ?_, hr⟩
  rw [List.mem_map] at h
  obtain ⟨p, hp, e⟩ := h
  exact hn p hp e
theorem pl_is {L : List (Int × Int)} {n k : Int} (hn : ∀ p ∈ L, p.1 ≠ n) : GoodM.pl L n = plR L (n, k) := by
  refine (plR_eq (PSrc.pl_le L n) (fun j y hj hy => ?_) (fun y hy => ?_)).symm
  · rw [before_iff]
    exact .inl (PSrc.pl_lt hj hy)
  · have h1 := PSrc.pl_at hy
    have h2 := hn y (List.mem_of_getElem? hy)
    cases h : GoodM.before y (n, k) with
    | false => rfl
    | true =>
      rw [before_iff] at h
      rcases h with h | h
      · exact absurd h h1
      · exact absurd h.1 h2
theorem put_is {L : List (Int × Int)} {n k : Int} (hn : ∀ p ∈ L, p.1 ≠ n) : ins L (GoodM.pl L n) (n, k) = link L (n, k) := by
  rw [pl_is (k := k) hn]
  unfold link
  rw [if_neg]
  intro h
  have hm := List.mem_of_getElem? h
  exact hn _ hm rfl
/-- What the program makes of the contexts is what the model makes of them. -/
theorem srt_put {l : List (Int × Int)} {i : Nat} {n k : Int} (hA : GoodM.Asc l) (hi : i < l.length) (hn : ∀ p ∈ rest l i, p.1 ≠ n) : srt (kfOf (l.set i (n, k))) (l.set i (n, k)) = ins (rest l i) (GoodM.pl (rest l i) n) (n, k) := by
  have hr : ((rest l i).map (·.1)).Nodup := by
    have h := up_nodup hA
    refine List.Nodup.sublist ?_ h
    refine List.Sublist.map _ ?_
    have : (l.take i ++ l.drop (i + 1)).Sublist (l.take i ++ l.drop i) := List.Sublist.append (List.Sublist.refl _) (by
      rw [← List.drop_drop]
      exact List.drop_sublist _ _)
    rw [List.take_append_drop] at this
    exact this
  have hnd := nodup_set_rest (k := k) hi hr hn
  rw [put_is hn]
  refine Up.ext (srt_up hnd) (up_link (up_rest (up_of_asc hA) i) _) ?_
  intro x
  rw [mem_srt (kfOf_is hnd), mem_set_rest hi, mem_link]
end Go.Proofs.Ythcjembekadijaa.SortC
/- What RenumberContext answers. -/
namespace Go.Proofs.Ythcjembekadijaa.RenM
open Pairs Find2 GoodM RelM Gives SwapM EquM SortC Row2 Copy
open RemC (isAt_split)
def renM (o n : Int) : RR := fun l m =>
  if good l m = true ∧ 1 ≤ n ∧ n ≤ 999 then match isAt l o with
    | some i => if n ≠ o ∧ (isAt l n).isSome = true then none else some (ins (rest l i) (pl (rest l i) n) (n, (kindAt l i).getD 0), swapM o n m)
    | none => none
  else none
variable {o n : Int} {l m : List (Int × Int)} {i : Nat}
theorem renM_bad (h : good l m = false) : renM o n l m = none := by unfold renM; rw [if_neg (by rw [h]; simp)]
theorem renM_far (h : ¬ (1 ≤ n ∧ n ≤ 999)) : renM o n l m = none := by unfold renM; rw [if_neg (fun e => h e.2)]
theorem renM_noO (h : isAt l o = none) : renM o n l m = none := by
  unfold renM
  rw [h]
  split <;> rfl
theorem renM_has (hi : isAt l o = some i) (hne : n ≠ o) (h : (isAt l n).isSome = true) : renM o n l m = none := by
  unfold renM
  rw [hi]
  split
  · exact if_pos ⟨hne, h⟩
  · rfl
theorem renM_some (hg : good l m = true) (h1 : 1 ≤ n) (h2 : n ≤ 999) (hi : isAt l o = some i) (h : ¬ (n ≠ o ∧ (isAt l n).isSome = true)) : renM o n l m = some (ins (rest l i) (pl (rest l i) n) (n, (kindAt l i).getD 0), swapM o n m) := by
  unfold renM
  rw [if_pos ⟨hg, h1, h2⟩, hi]
  exact if_neg h
theorem rest_ne (hg : good l m = true) (hi : isAt l o = some i) (h : ¬ (n ≠ o ∧ (isAt l n).isSome = true)) : ∀ p ∈ rest l i, p.1 ≠ n := by
  intro p hp
  obtain ⟨x, h1, h2, h3⟩ := isAt_split hg hi
  unfold rest at hp
  by_cases e : n = o
  · rw [h3, List.mem_filter] at hp
    subst e
    exact of_decide_eq_true hp.2
  · have hn : isAt l n = none := by
      cases hh : isAt l n with
      | none => rfl
      | some k => exact absurd ⟨e, by rw [hh]; rfl⟩ h
    have hpl : p ∈ l := by
      rw [h1]
      rw [List.mem_append] at hp ⊢
      rcases hp with hp | hp
      · exact .inl hp
      · exact .inr (List.mem_cons_of_mem _ hp)
    unfold isAt at hn
    rw [List.findIdx?_eq_none_iff] at hn
    have := hn p hpl
    simpa using this
/-- A number written over a row's. -/
theorem put_block {w : World} {g : Nat} {T : TypeId} {x k : Int} (hw : w.heap[g]? = some (.cells (flat l).toArray T)) (hx : l[i]? = some (x, k)) : (w.setCell ⟨g, i * 2, none⟩ (.int .i64 n)).heap[g]? = some (.cells (flat (l.set i (n, k))).toArray T) := by
  have s1 := heap_setCell_same w g (i * 2) (flat l).toArray T (.int .i64 n) hw
  rw [s1]
  have hil := (List.getElem?_eq_some_iff.1 hx).1
  have e : (flat l).set (i * 2) (.int .i64 n) = flat (l.set i (n, k)) := by
    apply List.ext_getElem?
    intro t
    by_cases ht : t / 2 < l.length
    · by_cases hti : t / 2 = i
      · have e2 := flat_get (l.set i (n, k)) i n k (by rw [List.getElem?_set_self hil])
        by_cases h0 : t = i * 2
        · subst h0
          rw [List.getElem?_set_self (by rw [flat_len]; omega), e2.1]
        · have h1 : t = i * 2 + 1 := by omega
          subst h1
          rw [List.getElem?_set_ne (by omega), e2.2, (flat_get l i x k hx).2]
      · have hy : l[t / 2]? = some (l[t / 2].1, l[t / 2].2) := List.getElem?_eq_getElem ht
        have e1 := flat_get l (t / 2) _ _ hy
        have e2 := flat_get (l.set i (n, k)) (t / 2) l[t / 2].1 l[t / 2].2 (by rw [List.getElem?_set_ne (fun e => hti e.symm)]; exact hy)
        by_cases h0 : t = t / 2 * 2
        · rw [List.getElem?_set_ne (by omega)]
          rw [h0, e1.1, e2.1]
        · have h1 : t = t / 2 * 2 + 1 := by omega
          rw [List.getElem?_set_ne (by omega)]
          rw [h1, e1.2, e2.2]
    · rw [List.getElem?_eq_none (by simp [flat_len]; omega), List.getElem?_eq_none (by simp [flat_len]; omega)]
  simp [e]
theorem ins_rest_len {x : Int × Int} {j : Nat} (hi : i < l.length) : (ins (rest l i) j x).length = l.length := by
  rw [ins_len]
  unfold rest
  rw [List.length_append, List.length_take, List.length_drop]
  omega
end Go.Proofs.Ythcjembekadijaa.RenM
/- What a function that makes a record of a record is said to do, where the rows have no room to spare. -/
namespace Go.Proofs.Ythcjembekadijaa.Gives
open Go.RowKit Pairs Rec Keep
def GivesN (f : FuncId) (x : Value) (F : RR) : Prop :=
  ∀ (a1 a2 : Option Addr) (n1 n2 : Nat) (l m : List (Int × Int)) (w : World), n1 ≤ 1048576 → n2 ≤ 1048576 → Holds w a1 n1 l → Holds w a2 n2 m →
    Calls Try.prog f #[.agg #[.slice a1 n1 n1, .slice a2 n2 n2], x] w (Res (F l m).isSome ((F l m).getD ([], [])).1 ((F l m).getD ([], [])).2 w)
def GivesN2 (f : FuncId) (x y : Value) (F : RR) : Prop :=
  ∀ (a1 a2 : Option Addr) (n1 n2 : Nat) (l m : List (Int × Int)) (w : World), n1 ≤ 1048576 → n2 ≤ 1048576 → Holds w a1 n1 l → Holds w a2 n2 m →
    Calls Try.prog f #[.agg #[.slice a1 n1 n1, .slice a2 n2 n2], x, y] w (Res (F l m).isSome ((F l m).getD ([], [])).1 ((F l m).getD ([], [])).2 w)
theorem Gives1.n {f : FuncId} {x : Value} {F : RR} (h : Gives1 f x F) : GivesN f x F := fun a1 a2 n1 n2 l m w h1 h2 h3 h4 => h a1 a2 n1 n1 n2 n2 l m w h1 h2 h3 h4
theorem Gives2.n {f : FuncId} {x y : Value} {F : RR} (h : Gives2 f x y F) : GivesN2 f x y F := fun a1 a2 n1 n2 l m w h1 h2 h3 h4 => h a1 a2 n1 n1 n2 n2 l m w h1 h2 h3 h4
end Go.Proofs.Ythcjembekadijaa.Gives
