/- The program's and the model's IsLater. -/
import Derived.Test.YtjllbbkpmmnkgaaDoorOrder
import Derived.Test.YtjllbbkpmmnkgaaDoorTable
import Derived.Test.YtjllbbkpmmnkgaaDoorIdx
namespace Go.Proofs.YtjllbbkpmmnkgaaDoor.IsLater
open Go.RowKit Pairs Rec Chain Find2 GoodM Lows Order Bit Table Idx
/-- Is it valid, and are both contexts there? -/
def has2 (l m : List (Int × Int)) (a b : Int) : Bool := good l m && (isAt l a).isSome && (isAt l b).isSome
theorem has2_iff {l m : List (Int × Int)} {a b : Int} : has2 l m a b = true ↔ good l m = true ∧ (∃ i, isAt l a = some i) ∧ ∃ j, isAt l b = some j := by
  unfold has2
  simp [Option.isSome_iff_exists, and_assoc]
theorem has2_no {l m : List (Int × Int)} {a b : Int} (h : ¬ (good l m = true ∧ (∃ i, isAt l a = some i) ∧ ∃ j, isAt l b = some j)) : has2 l m a b = false := by
  cases e : has2 l m a b with
  | false => rfl
  | true => exact absurd (has2_iff.1 e) h
set_option maxRecDepth 100000 in
set_option maxHeartbeats 2000000 in
theorem hasContexts_any (a b : Int) (a1 a2 : Option Addr) (n1 c1 n2 c2 : Nat) (l m : List (Int × Int)) (w : World) (hz1 : n1 ≤ 1048576) (hz2 : n2 ≤ 1048576) (h1 : Holds w a1 n1 l) (h2 : Holds w a2 n2 m) :
    Calls Tryd.prog 60 #[.agg #[.slice a1 n1 c1, .slice a2 n2 c2], .int .i64 a, .int .i64 b] w fun e w' => e = .returned (.bool (has2 l m a b)) ∧ Below w.heap.size w w' := by
  have hb := below_alloc w (.cells #[.slice a1 n1 c1, .slice a2 n2 c2] 33)
  have hf := box_first w (.slice a1 n1 c1) (.slice a2 n2 c2) 33
  have hf2 := box_second w (.slice a1 n1 c1) (.slice a2 n2 c2) 33
  have H1 := Lib.hid (h1.below hb)
  have H2 := Lib.hid (h2.below hb)
  have hsz : w.heap.size < (w.alloc (.cells #[.slice a1 n1 c1, .slice a2 n2 c2] 33)).heap.size := by simp
  clear h1 h2
  go_enter Tryd.func60, Tryd.ntmps60
  go_wp2_with fail
  generalize w.alloc (.cells #[.slice a1 n1 c1, .slice a2 n2 c2] 33) = W at *
  refine (Avr.impl_any a1 a2 n1 c1 n2 c2 l m W hz1 hz2 H1.out H2.out).mono ?_
  rintro e w1 ⟨rfl, b1⟩
  have r1 := (b1.cell (p := ⟨w.heap.size, 0, none⟩) hsz).trans hf
  have r2 := (b1.cell (p := ⟨w.heap.size, 1, none⟩) hsz).trans hf2
  have hsz1 := Nat.lt_of_lt_of_le hsz b1.size
  have hb1 := hb.trans (b1.mono hb.size)
  cases hg : good l m with
  | false =>
    have HE : Hid (has2 l m a b = false) := by unfold Hid has2; rw [hg]; rfl
    clear hg
    go_wp2_with fail
    go_ret
    exact ⟨by rw [HE.out]; rfl, hb1⟩
  | true =>
    have HV := Lib.hid hg
    clear hg
    go_wp2_with fail
    refine (Avr.hasContext_any a1 a2 n1 c1 n2 c2 l a w1 hz1 (H1.out.below b1) (good_asc HV.out).1).mono ?_
    rintro e w2 ⟨rfl, b2⟩
    have q1 := (b2.cell (p := ⟨w.heap.size, 0, none⟩) hsz1).trans r1
    have q2 := (b2.cell (p := ⟨w.heap.size, 1, none⟩) hsz1).trans r2
    have hb2 := hb1.trans (b2.mono hb1.size)
    have H12 := Lib.hid ((H1.out.below b1).below b2)
    cases ha : (isAt l a).isSome with
    | false =>
      have HE : Hid (has2 l m a b = false) := by unfold Hid has2; rw [ha]; simp
      clear ha
      go_wp2_with fail
      go_ret
      exact ⟨by rw [HE.out]; rfl, hb2⟩
    | true =>
      have HE : Hid (has2 l m a b = (isAt l b).isSome) := by unfold Hid has2; rw [ha, HV.out]; rfl
      clear ha
      go_wp2_with fail
      refine (Avr.hasContext_any a1 a2 n1 c1 n2 c2 l b w2 hz1 H12.out (good_asc HV.out).1).mono ?_
      rintro e w3 ⟨rfl, b3⟩
      go_wp2_with fail
      go_ret
      exact ⟨by rw [HE.out]; rfl, hb2.trans (b3.mono hb2.size)⟩
noncomputable def latP (a b : Int) (l m : List (Int × Int)) : Bool × Bool := if has2 l m a b = true then (later m a b, true) else (false, false)
theorem latP_no {l m : List (Int × Int)} {a b : Int} (h : has2 l m a b = false) : latP a b l m = (false, false) := by unfold latP; rw [if_neg (by rw [h]; simp)]
theorem latP_yes {l m : List (Int × Int)} {a b : Int} (h : has2 l m a b = true) : latP a b l m = (later m a b, true) := by unfold latP; rw [if_pos h]
theorem at_keys {l : List (Int × Int)} {a : Int} {i : Nat} (h : isAt l a = some i) : a ∈ keys l := isAt_keys.1 (by rw [h]; rfl)
theorem rng_at {l m : List (Int × Int)} (h : good l m = true) {a : Int} {i : Nat} (hi : isAt l a = some i) : 1 ≤ a ∧ a ≤ 999 := by
  obtain ⟨y, hy⟩ := isAt_num hi
  exact nums h hy
/-- A bit of the table. -/
theorem tbit {l m : List (Int × Int)} {n1 : Nat} {L : List Nat} (hg : good l m = true) (hl : l.length = n1) (T : Tbl n1 L (W (Ed l m) n1)) {a b : Int} {i j x : Nat} (hi : isAt l a = some i) (hj : isAt l b = some j) (hx : L[i]? = some x) : x.testBit j = later m a b := by
  have h1 := T.bit i x j hx (by rw [← hl]; exact isAt_lt hj)
  rw [← hl, w_iff (good_ends hg) hi hj, ← later_iff] at h1
  cases e1 : x.testBit j <;> cases e2 : later m a b <;> simp_all
theorem row_at {L : List Nat} {i : Nat} {z : Int} (h : (intsN L)[i]? = some z) : ∃ x : Nat, L[i]? = some x ∧ z = (x : Int) := by
  unfold intsN at h
  rw [List.getElem?_map, Option.map_eq_some_iff] at h
  obtain ⟨x, hx, rfl⟩ := h
  exact ⟨x, hx, rfl⟩
end Go.Proofs.YtjllbbkpmmnkgaaDoor.IsLater
