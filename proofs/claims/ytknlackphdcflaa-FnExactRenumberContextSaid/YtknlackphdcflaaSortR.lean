/- slices.SortFunc over relations. -/
import Derived.Test.YtknlackphdcflaaRw
import Derived.Test.YtknlackphdcflaaSortL
import Derived.Test.YtknlackphdcflaaCmp
namespace Go.Proofs.Ytknlackphdcflaa.SortR
open Go.RowKit Pairs Rec RecEq Keep Row2 Copy Two SwapM Rw Cmp RelM
open Go.Sort (SWO grow flatK putRowK HoldsK size_flatK get_flatK putCells putRow mapBlock)
def encR (x : Int × Int) : List Value := [.int .i64 x.1, .int .i64 x.2]
theorem lt_is (x y : Int × Int) : ltOf cmpR x y = GoodM.before x y := by
  unfold ltOf
  cases h : GoodM.before x y with
  | true => exact decide_eq_true ((cmpR_lt x y).2 h)
  | false => exact decide_eq_false (fun e => by rw [(cmpR_lt x y).1 e] at h; cases h)
theorem swoR : SWO (ltOf cmpR) where
  irrefl x := by rw [lt_is]; exact before_irrefl x
  trans x y z h1 h2 := by rw [lt_is] at *; exact before_trans h1 h2
  ntrans x y z h1 h2 := by
    rw [lt_is] at *
    have n1 : ¬ GoodM.before x y = true := by simp [h1]
    have n2 : ¬ GoodM.before y z = true := by simp [h2]
    cases h : GoodM.before x z with
    | false => rfl
    | true =>
      rw [before_iff] at n1 n2 h
      omega
theorem totR (x y : Int × Int) (h1 : ltOf cmpR x y = false) (h2 : ltOf cmpR y x = false) : x = y := by
  rw [lt_is] at h1 h2
  exact before_total h1 h2
theorem le_is : (fun x y : Int × Int => !(ltOf cmpR) y x) = leR := by
  funext x y
  rw [lt_is]
  rfl
theorem grown_of {w w' : World} (hb : Below w.heap.size w w') (hd : w.drawn ≤ w'.drawn) : ∃ q os, w' = grow (w.drewN q) os := by
  obtain ⟨p, hp⟩ := regrown_of_below hb
  have hdd : w'.drawn = p.d := by rw [hp]; rfl
  refine ⟨p.d - w.drawn, p.os, ?_⟩
  rw [hp]
  have e : redrawn w p.d = w.drewN (p.d - w.drawn) := by
    unfold redrawn World.drewN
    congr 1
    omega
  rw [e]
theorem cmpLays (blk off size : Nat) (w : World) : CmpLays Try.prog 55 #[] encR 2 cmpR blk off size w :=
  fun _ _ _ _ x y => (compareRel_any x.1 x.2 y.1 y.2 _).mono fun _ _ ⟨he, hb, hd⟩ => ⟨he, grown_of hb hd⟩
variable {w0 w : World} {g n j : Nat} {P m : List (Int × Int)}
theorem flat_is {t : Nat} (ht : t < P.length * 2) : (flat P)[t]? = some ((flatK encR 2 P.toArray)[t]!) := by
  have hk : t / 2 < P.length := by omega
  have e := flat_get P (t / 2) P[t / 2].1 P[t / 2].2 (List.getElem?_eq_getElem hk)
  rw [get_flatK _ _ _ _ (by simpa using ht)]
  have hd : P.toArray[t / 2]! = P[t / 2] := by simp [hk]
  rw [hd]
  by_cases h : t = t / 2 * 2
  · have h2 : t % 2 = 0 := by omega
    rw [h2]
    conv => lhs; rw [h]
    rw [e.1]
    rfl
  · have h2 : t % 2 = 1 := by omega
    have h3 : t = t / 2 * 2 + 1 := by omega
    rw [h2]
    conv => lhs; rw [h3]
    rw [e.2]
    rfl
theorem holdsK_of (h : Rw w0 w g n P j m) : HoldsK encR 2 w g 0 P.toArray := by
  obtain ⟨ys, h1, h2, h3, h4, _, _⟩ := h
  intro t ht
  rw [size_flatK] at ht
  have ht' : t < P.length * 2 := by simpa using ht
  constructor
  · simp only [World.cell?, h1, Nat.zero_add, List.getElem?_toArray]
    rw [h4 t ht', flat_is ht']
    rfl
  · simp only [World.frozen?, h1]
    rfl
theorem rw_sorted (h : Rw w0 w g n P j m) (q : Nat) (D : List (Int × Int)) (hD : D.length = P.length) (os : Array Obj) : Rw w (sortWorldK encR 2 w g 0 q D.toArray os) g n D n [] := by
  obtain ⟨ys, h1, h2, h3, h4, _, _⟩ := h
  have hg := (Array.getElem?_eq_some_iff.1 h1).1
  have hb : (sortWorldK encR 2 w g 0 q D.toArray os).heap[g]? = some (.cells (putCells id 0 (flatK encR 2 D.toArray) ys.toArray) 44) := by
    show ((w.heap.modify g _) ++ os)[g]? = _
    rw [Array.getElem?_append_left (by simpa using hg), Array.getElem?_modify, if_pos rfl, h1]
    rfl
  refine ⟨(putCells id 0 (flatK encR 2 D.toArray) ys.toArray).toList, by rw [hb], ?_, by omega, ?_, fun t _ ht => by simp at ht, ⟨rfl, rfl, rfl, ?_, ?_⟩⟩
  · simp [putCells, h2]
  · intro t ht
    have hty : t < ys.length := by omega
    rw [flat_is ht]
    simp only [putCells, Array.getElem?_toList, Array.getElem?_mapIdx, List.getElem?_toArray]
    rw [List.getElem?_eq_getElem hty, Option.map_some, if_pos ⟨Nat.zero_le _, by rw [size_flatK]; simpa using ht⟩]
    rfl
  · show w.heap.size ≤ ((w.heap.modify g _) ++ os).size
    simp
  · intro b hb2 hne
    show ((w.heap.modify g _) ++ os)[b]? = _
    rw [Array.getElem?_append_left (by simpa using hb2), Array.getElem?_modify, if_neg (fun e => hne e.symm)]
theorem sort_any (f : Nat) (hP : P.length = f) (hf : f ≤ 1048576) (h : Rw w0 w g n P j m) :
    Calls Try.prog 91 #[.slice (some ⟨g, 0, none⟩) f n, .func (.func 55) #[] #[]] w fun e w' => e = .returned (.tuple #[]) ∧ Rw w w' g n (P.mergeSort leR) n [] := by
  by_cases hf0 : f = 0
  · subst hf0
    have hP0 : P = [] := List.eq_nil_of_length_eq_zero hP
    subst hP0
    have hcon := AnyF.slices_SortFunc_none { Try.sortRel with } (some ⟨g, 0, none⟩) n (.func (.func 55) #[] #[]) w
    refine hcon.mono ?_
    rintro e w' ⟨rfl, rfl⟩
    have h0 := h.again0
    have e0 : ([] : List (Int × Int)).mergeSort leR = [] := by simp
    rw [e0]
    exact ⟨rfl, h0.mono (Nat.zero_le _)⟩
  · have eg : ∀ args w, (callFunc 55 args).run Try.prog w = .ok (.enter 55 args) w := enters_of Try.func55 (by kernel_rfl) rfl
    have hcon := AnyQ.slices_SortFunc_total Try.sortRel 2 Try.isAgg44 Try.sizeOf44 encR (fun _ => rfl) (fun x v hv => by simp [encR] at hv; rcases hv with rfl | rfl <;> rfl) cmpR swoR 55 #[] g 0 n P.toArray w eg (cmpLays g 0 P.toArray.size w) (holdsK_of h) h.lt (by simp [hP]; omega) totR
    rw [le_is] at hcon
    simp only [List.size_toArray, hP] at hcon
    refine hcon.mono ?_
    rintro e w' ⟨rfl, q, os, rfl⟩
    exact ⟨rfl, rw_sorted h q _ (by rw [List.length_mergeSort]) os⟩
end Go.Proofs.Ytknlackphdcflaa.SortR
