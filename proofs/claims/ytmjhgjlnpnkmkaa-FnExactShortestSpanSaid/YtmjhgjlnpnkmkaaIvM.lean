/- The interval of every context, with and without evidence. -/
import Derived.Test.YtmjhgjlnpnkmkaaEvM
import Derived.Test.YtmjhgjlnpnkmkaaSearch
namespace Go.Proofs.Ytmjhgjlnpnkmkaa.IvM
open Go.RowKit Pairs Find2 GoodM Da EvM Chain
def iv (L : List Dt) (c : Int) : Int × Int := match L.find? (fun x => x.1 == c) with | some x => x.2 | none => (-20000, 2100)
def own (l : List (Int × Int)) (L : List Dt) : List (Int × Int) := l.map fun c => iv L c.1
theorem own_len (l : List (Int × Int)) (L : List Dt) : (own l L).length = l.length := by unfold own; simp
theorem own_at {l : List (Int × Int)} {L : List Dt} {i : Nat} {x y : Int} (h : l[i]? = some (x, y)) : (own l L)[i]? = some (iv L x) := by unfold own; rw [List.getElem?_map, h]; rfl
theorem evi_all {l : List (Int × Int)} {L : List Dt} (h : evi l L = true) : PastE l L L.length := fun j hj => List.all_eq_true.1 h j (List.mem_range.2 hj)
theorem evi_at {l : List (Int × Int)} {L : List Dt} (h : evi l L = true) {k : Nat} {x y z : Int} (hx : L[k]? = some (x, y, z)) : (isAt l x).isSome = true ∧ ivl y z = true := by
  have e := evi_all h k (List.getElem?_eq_some_iff.1 hx).1
  rw [okE_at hx] at e
  simp only [Bool.and_eq_true] at e
  exact e.1
theorem evi_lt {l : List (Int × Int)} {L : List Dt} (h : evi l L = true) : ∀ (d i : Nat) (x y : Dt), L[i]? = some x → L[i + d + 1]? = some y → x.1 < y.1 := by
  have one : ∀ (i : Nat) (x y : Dt), L[i]? = some x → L[i + 1]? = some y → x.1 < y.1 := by
    intro i x y hx hy
    have e := evi_all h (i + 1) (List.getElem?_eq_some_iff.1 hy).1
    obtain ⟨a, b, c⟩ := y
    obtain ⟨a', b', c'⟩ := x
    rw [okE_at hy] at e
    simp only [Bool.and_eq_true] at e
    have e2 := e.2
    rw [asD_at hy (by omega) (by rw [Nat.add_sub_cancel]; exact hx)] at e2
    simpa using e2
  intro d
  induction d with
  | zero => exact one
  | succ d ih =>
    intro i x y hx hy
    have hl : i + d + 1 < L.length := by have := (List.getElem?_eq_some_iff.1 hy).1; omega
    have hm := List.getElem?_eq_getElem hl
    have a := ih i x _ hx hm
    have b := one (i + d + 1) _ y hm hy
    omega
theorem evi_new {l : List (Int × Int)} {L : List Dt} (h : evi l L = true) {k : Nat} {x : Dt} (hx : L[k]? = some x) : (L.take k).find? (fun z => z.1 == x.1) = none := by
  rw [List.find?_eq_none]
  intro z hz
  obtain ⟨j, hj, e⟩ := List.mem_iff_getElem.1 hz
  rw [List.length_take] at hj
  have hzj : L[j]? = some z := by rw [← e, List.getElem_take]; exact List.getElem?_eq_getElem (by omega)
  have := evi_lt h (k - j - 1) j z x hzj (by rw [show j + (k - j - 1) + 1 = k by omega]; exact hx)
  simp
  omega
theorem iv_next {l : List (Int × Int)} {L : List Dt} (h : evi l L = true) {k : Nat} {x : Dt} (hx : L[k]? = some x) (c : Int) : iv (L.take (k + 1)) c = if x.1 = c then x.2 else iv (L.take k) c := by
  unfold iv
  rw [List.take_add_one, hx, List.find?_append]
  by_cases hc : x.1 = c
  · subst hc
    rw [if_pos rfl, evi_new h hx]
    simp
  · rw [if_neg hc]
    have e : List.find? (fun x => x.1 == c) [x] = none := by simp [hc]
    simp only [Option.toList]
    rw [e, Option.or_none]
theorem iv_nil (c : Int) : iv [] c = (-20000, 2100) := rfl
theorem own_nil (l : List (Int × Int)) : own l [] = List.replicate l.length (-20000, 2100) := by
  show l.map (fun _ => ((-20000 : Int), (2100 : Int))) = _
  rw [List.map_const']
theorem own_set {l : List (Int × Int)} {L : List Dt} (hA : Asc l) (h : evi l L = true) {k i : Nat} {x y z : Int} (hx : L[k]? = some (x, y, z)) (hi : isAt l x = some i) : own l (L.take (k + 1)) = (own l (L.take k)).set i (y, z) := by
  apply List.ext_getElem?
  intro j
  obtain ⟨w, hw⟩ := isAt_num hi
  by_cases hj : j < l.length
  · obtain ⟨⟨a, b⟩, hl⟩ : ∃ p, l[j]? = some p := ⟨_, List.getElem?_eq_getElem hj⟩
    rw [own_at hl, iv_next h hx]
    by_cases e : i = j
    · subst e
      rw [hw] at hl
      injection hl with hl
      injection hl with h1 h2
      rw [if_pos h1, List.getElem?_set_self (by rw [own_len]; exact hj)]
    · rw [List.getElem?_set_ne e, own_at hl, if_neg]
      intro e2
      simp only at e2
      apply e
      rcases Nat.lt_trichotomy i j with h3 | h3 | h3
      · have := hA.lt (j - i - 1) i (x, w) (a, b) hw (by rw [show i + (j - i - 1) + 1 = j by omega]; exact hl)
        simp only at this
        omega
      · exact h3
      · have := hA.lt (i - j - 1) j (a, b) (x, w) hl (by rw [show j + (i - j - 1) + 1 = i by omega]; exact hw)
        simp only at this
        omega
  · rw [List.getElem?_eq_none (by rw [own_len]; omega), List.getElem?_eq_none (by rw [List.length_set, own_len]; omega)]
theorem flat_set : ∀ (l : List (Int × Int)) (i : Nat) (y z : Int), i < l.length → ((flat l).set (i * 2) (.int .i64 y)).set (i * 2 + 1) (.int .i64 z) = flat (l.set i (y, z))
  | [], i, y, z, h => by simp at h
  | p :: l, 0, y, z, _ => rfl
  | p :: l, i + 1, y, z, h => by
    have e := flat_set l i y z (by simpa using h)
    rw [flat_cons, List.set_cons_succ, flat_cons, ← e, show (i + 1) * 2 = i * 2 + 1 + 1 by omega]
    rfl
end Go.Proofs.Ytmjhgjlnpnkmkaa.IvM
