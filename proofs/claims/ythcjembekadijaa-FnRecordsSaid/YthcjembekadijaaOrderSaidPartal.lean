/- A record under way in a box: two rows of its own that grow. -/
import Derived.Test.YthcjembekadijaaOrderSaidPartak
import Derived.Deep.AppendLies
import Derived.Test.YthcjembekadijaaOrderSaidPartaj
namespace Go.Proofs.Ythcjembekadijaa.Two
open Go.RowKit Pairs Rec Keep Row2 Copy

/-- In the box gb lie two rows of their own, made after it; all that lay before it is as it was. -/
structure Two (E wr : World) (gb : Nat) (v1 v2 : Value) (L1 L2 : List (Int × Int)) : Prop where
  box : wr.heap[gb]? = some (.cells #[v1, v2] 27)
  ctx : wr.ownsRow (gb + 1) 55 2 v1 L1.length (flat L1)
  rel : wr.ownsRow (gb + 1) 39 2 v2 L2.length (flat L2)
  ne : ∀ g, v1.ownBlock = some g → v2.ownBlock ≠ some g
  bel : Below gb E wr
theorem Two.cells {E wr : World} {gb : Nat} {v1 v2 : Value} {L1 L2 : List (Int × Int)} (h : Two E wr gb v1 v2 L1 L2) : wr.cell? ⟨gb, 0, none⟩ = some v1 ∧ wr.cell? ⟨gb, 1, none⟩ = some v2 ∧ wr.frozen? ⟨gb, 0, none⟩ = false ∧ wr.frozen? ⟨gb, 1, none⟩ = false ∧ gb < wr.heap.size := by
  have hb := h.box
  refine ⟨by simp [World.cell?, hb], by simp [World.cell?, hb], by simp only [World.frozen?, hb]; rfl, by simp only [World.frozen?, hb]; rfl, (Array.getElem?_eq_some_iff.1 hb).1⟩
theorem own_ne {w : World} {B e s : Nat} {v : Value} {n : Nat} {xs : List Value} (h : w.ownsRow (B + 1) e s v n xs) : v.ownBlock ≠ some B := by
  intro hv
  have := (h.lt B hv).1
  omega
theorem flat_app (l1 l2 : List (Int × Int)) : flat (l1 ++ l2) = flat l1 ++ flat l2 := by unfold flat; rw [List.flatMap_append]
theorem setCell_block {w : World} {g : Nat} {u v a : Value} {T : TypeId} (h : w.heap[g]? = some (.cells #[u, v] T)) : (w.setCell ⟨g, 0, none⟩ a).heap[g]? = some (.cells #[a, v] T) ∧ (w.setCell ⟨g, 1, none⟩ a).heap[g]? = some (.cells #[u, a] T) := by
  constructor
  · have := heap_setCell_same w g 0 #[u, v] T a h
    simpa using this
  · have := heap_setCell_same w g 1 #[u, v] T a h
    simpa using this
theorem setCell_far {w : World} {g o : Nat} {u : Value} {B e s : Nat} {v : Value} {n : Nat} {xs : List Value} (h : w.ownsRow B e s v n xs) (hne : v.ownBlock ≠ some g) : (w.setCell ⟨g, o, none⟩ u).ownsRow B e s v n xs :=
  (Kept.setCell (S := fun b => b = g) (Kept.refl _ w) (g := g) rfl u).owns h (fun _ hb hs => hne (hs ▸ hb))
theorem own_form {T : TypeId} {B n : Nat} {w : World} {v : Value} {xs : List Value} (h : w.ownsRow B T 2 v n xs) : ∃ p d, v = .slice p n d := by
  rcases h.2 with ⟨hv, hn⟩ | ⟨g, cap, cur, hv, _⟩
  · subst hn
    exact ⟨none, 0, hv⟩
  · exact ⟨_, cap, hv⟩
/-- The record that is handed back: what lies in the box, behind a store into another box r. -/
theorem Two.got {E wr : World} {gb r B : Nat} {p1 p2 : Option Addr} {d1 d2 : Nat} {L1 L2 : List (Int × Int)} (h : Two E wr gb (.slice p1 L1.length d1) (.slice p2 L2.length d2) L1 L2) (hr : r ≤ gb) (hB : B ≤ gb) (u v : Value) :
    Got ((wr.setCell ⟨r, 0, none⟩ u).setCell ⟨r, 1, none⟩ v) B p1 L1.length d1 p2 L2.length d2 L1 L2 := by
  have f1 : (Value.slice p1 L1.length d1).ownBlock ≠ some r := fun e => by have := (h.ctx.lt r e).1; omega
  have f2 : (Value.slice p2 L2.length d2).ownBlock ≠ some r := fun e => by have := (h.rel.lt r e).1; omega
  exact ⟨ownsRow_base (setCell_far (setCell_far h.ctx f1) f1) (by omega), ownsRow_base (setCell_far (setCell_far h.rel f2) f2) (by omega), h.ne⟩
/-- What the box holds behind an append to one of the rows. -/
theorem Two.after {E wr w1 : World} {gb : Nat} {v1 v2 : Value} {L1 L2 : List (Int × Int)} (h : Two E wr gb v1 v2 L1 L2) {o : Obj} {r : Option Nat} (hgrow : (wr.alloc o).drew.grownBy w1 r) (hr : r ≠ some gb) :
    w1.cell? ⟨gb, 0, none⟩ = some v1 ∧ w1.cell? ⟨gb, 1, none⟩ = some v2 ∧ w1.frozen? ⟨gb, 0, none⟩ = false ∧ w1.frozen? ⟨gb, 1, none⟩ = false := by
  have ha := below_alloc wr o
  have hlt := h.cells.2.2.2.2
  have hb : w1.heap[gb]? = some (.cells #[v1, v2] 27) := (hgrow.block gb (Nat.lt_of_lt_of_le hlt ha.size) (Ne.symm hr)).trans ((ha.block gb hlt).trans h.box)
  exact ⟨by simp [World.cell?, hb], by simp [World.cell?, hb], by simp only [World.frozen?, hb]; rfl, by simp only [World.frozen?, hb]; rfl⟩
/-- A pair more in the first row: behind the making of the pair's own block W1 (of wr), an append and the store into the box. -/
theorem Two.more1 {E wr w1 : World} {gb : Nat} {v1 v2 : Value} {L1 L2 : List (Int × Int)} (h : Two E wr gb v1 v2 L1 L2) {o : Obj} {x y : Int} {g cap : Nat}
    (hown : w1.ownsRow (gb + 1) 55 2 (.slice (some ⟨g, 0, none⟩) (L1.length + 1) cap) (L1.length + 1) (flat L1 ++ [.int .i64 x, .int .i64 y])) (hgrow : (wr.alloc o).drew.grownBy w1 v1.ownBlock) (hat : v1.ownBlock = some g ∨ g = wr.heap.size + 1) :
    Two E (w1.setCell ⟨gb, 0, none⟩ (.slice (some ⟨g, 0, none⟩) (L1.length + 1) cap)) gb (.slice (some ⟨g, 0, none⟩) (L1.length + 1) cap) v2 (L1 ++ [(x, y)]) L2 := by
  have ha := below_alloc wr o
  have h1 := ownsRow_below h.ctx ha
  have h2 := ownsRow_below h.rel ha
  have hlt := h.cells.2.2.2.2
  have hb1 : w1.heap[gb]? = some (.cells #[v1, v2] 27) := (hgrow.block gb (Nat.lt_of_lt_of_le hlt ha.size) (Ne.symm (own_ne h1))).trans ((ha.block gb hlt).trans h.box)
  have hr1 : w1.ownsRow (gb + 1) 39 2 v2 L2.length (flat L2) := by
    refine World.ownsRow.kept (w := (wr.alloc o).drew) h2 hgrow ?_
    cases hv : v2.ownBlock with
    | none => exact .inl rfl
    | some b => exact .inr (fun e => h.ne b e.symm hv)
  have hgg : gb ≠ g := by
    have := (hown.lt g rfl).1
    omega
  refine ⟨(setCell_block hb1).1, ?_, setCell_far hr1 (own_ne hr1), ?_, ?_⟩
  · rw [List.length_append, flat_app]
    exact setCell_far hown (fun e => hgg (by simpa [Value.ownBlock] using e.symm))
  · intro b hb hv
    have e1 : g = b := by simpa [Value.ownBlock] using hb
    subst e1
    rcases hat with hat | hat
    · exact h.ne g hat hv
    · have := (h.rel.lt g hv).2
      omega
  · refine Below.setCell (p := ⟨gb, 0, none⟩) ?_ (Nat.le_refl _) _
    exact ((h.bel.trans (ha.mono (Nat.le_of_lt hlt))).drew).grown hgrow (by have := ha.size; show gb ≤ (wr.alloc o).heap.size; omega) (fun k hk => by have := (h.ctx.lt k hk).1; omega)
/-- The same in the second row. -/
theorem Two.more2 {E wr w1 : World} {gb : Nat} {v1 v2 : Value} {L1 L2 : List (Int × Int)} (h : Two E wr gb v1 v2 L1 L2) {o : Obj} {x y : Int} {g cap : Nat}
    (hown : w1.ownsRow (gb + 1) 39 2 (.slice (some ⟨g, 0, none⟩) (L2.length + 1) cap) (L2.length + 1) (flat L2 ++ [.int .i64 x, .int .i64 y])) (hgrow : (wr.alloc o).drew.grownBy w1 v2.ownBlock) (hat : v2.ownBlock = some g ∨ g = wr.heap.size + 1) :
    Two E (w1.setCell ⟨gb, 1, none⟩ (.slice (some ⟨g, 0, none⟩) (L2.length + 1) cap)) gb v1 (.slice (some ⟨g, 0, none⟩) (L2.length + 1) cap) L1 (L2 ++ [(x, y)]) := by
  have ha := below_alloc wr o
  have h1 := ownsRow_below h.ctx ha
  have h2 := ownsRow_below h.rel ha
  have hlt := h.cells.2.2.2.2
  have hb1 : w1.heap[gb]? = some (.cells #[v1, v2] 27) := (hgrow.block gb (Nat.lt_of_lt_of_le hlt ha.size) (Ne.symm (own_ne h2))).trans ((ha.block gb hlt).trans h.box)
  have hr1 : w1.ownsRow (gb + 1) 55 2 v1 L1.length (flat L1) := by
    refine World.ownsRow.kept (w := (wr.alloc o).drew) h1 hgrow ?_
    cases hv : v1.ownBlock with
    | none => exact .inl rfl
    | some b => exact .inr (fun e => h.ne b hv e.symm)
  have hgg : gb ≠ g := by
    have := (hown.lt g rfl).1
    omega
  refine ⟨(setCell_block hb1).2, setCell_far hr1 (own_ne hr1), ?_, ?_, ?_⟩
  · rw [List.length_append, flat_app]
    exact setCell_far hown (fun e => hgg (by simpa [Value.ownBlock] using e.symm))
  · intro b hb hv
    have e1 : g = b := by simpa [Value.ownBlock] using hv
    subst e1
    rcases hat with hat | hat
    · exact h.ne g hb hat
    · have := (h.ctx.lt g hb).2
      omega
  · refine Below.setCell (p := ⟨gb, 1, none⟩) ?_ (Nat.le_refl _) _
    exact ((h.bel.trans (ha.mono (Nat.le_of_lt hlt))).drew).grown hgrow (by have := ha.size; show gb ≤ (wr.alloc o).heap.size; omega) (fun k hk => by have := (h.rel.lt k hk).1; omega)
end Go.Proofs.Ythcjembekadijaa.Two
/- vHas and vRelated of the laws: a number in a list, a relation in a record. -/
namespace Go.Proofs.Ythcjembekadijaa.LawH
open Go.RowKit Pairs Rec Keep GivesI
theorem take_none {α : Type} {q : α → Bool} {L : List α} {k : Nat} {x : α} (h : (L.take k).any q = false) (hx : L[k]? = some x) (hq : q x = false) : (L.take (k + 1)).any q = false := by
  rw [List.take_add_one, hx, List.any_append, h]
  simp [hq]
theorem any_at {α : Type} {q : α → Bool} {L : List α} {k : Nat} {x : α} (hx : L[k]? = some x) (hq : q x = true) : L.any q = true := List.any_eq_true.2 ⟨x, List.mem_of_getElem? hx, hq⟩
set_option maxRecDepth 100000 in
set_option maxHeartbeats 4000000 in
theorem has_any (p : Option Addr) (n d : Nat) (L : List Int) (x : Int) (w : World) (hz : n ≤ 1048576) (h : HoldsI w p n L) :
    Calls Try.prog 19 #[.slice p n d, .int .i64 x] w fun e w' => e = .returned (.bool (L.any fun y => y == x)) ∧ Below w.heap.size w w' := by
  have H := Lib.hid h
  have HL := Lib.hid h.1
  clear h
  go_enter Try.func19, Try.ntmps19
  go_wp2_with fail
  go_loopw [5] (fun s5 wr => ∃ k : Nat, k ≤ n ∧ s5 = .int .i64 k ∧ Hid ((L.take k).any (fun y => y == x) = false) ∧ Hid (Below w.heap.size w wr)) (fun s5 _ => n - (intOf s5).toNat)
  case atStart => exact ⟨0, Nat.zero_le _, rfl, rfl, Below.refl _ _⟩
  case round =>
    obtain ⟨k, hk, rfl, HP, HR⟩ := hrel
    by_cases hlt : k < n
    · obtain ⟨b, off, y, rfl, hy, e1⟩ := (H.out.below HR.out).at k hlt
      have HY := Lib.hid hy
      have hkn : (k : Int) < (n : Int) := by omega
      have hk0 : (0 : Int) ≤ (k : Int) := by omega
      clear hy
      cases hq : (y == x) with
      | true =>
        have HA := Lib.hid (any_at (q := fun y => y == x) HY.out hq)
        go_wp2_with fail
        go_ret
        exact ⟨by rw [HA.out]; rfl, HR.out⟩
      | false =>
        have HA : Hid ((L.take (k + 1)).any (fun y => y == x) = false) := take_none HP.out HY.out hq
        go_wp2_with fail
        exact ⟨⟨k + 1, by omega, by go_num, HA, HR⟩, by simp [intOf]; omega⟩
    · obtain rfl : k = n := by omega
      have hkn : ¬ (k : Int) < (k : Int) := by omega
      have HA : Hid (L.any (fun y => y == x) = false) := by have := HP.out; rwa [List.take_of_length_le (by rw [HL.out]; exact Nat.le_refl _)] at this
      go_wp2_with fail
      go_ret
      exact ⟨by rw [HA.out]; rfl, HR.out⟩
set_option maxRecDepth 100000 in
set_option maxHeartbeats 4000000 in
theorem related_any (a1 a2 : Option Addr) (n1 c1 n2 c2 : Nat) (m : List (Int × Int)) (x y : Int) (w : World) (hz : n2 ≤ 1048576) (h : Holds w a2 n2 m) :
    Calls Try.prog 15 #[.agg #[.slice a1 n1 c1, .slice a2 n2 c2], .int .i64 x, .int .i64 y] w fun e w' => e = .returned (.bool (m.any fun p => p.1 == x && p.2 == y)) ∧ Below w.heap.size w w' := by
  have hb := below_alloc w (.cells #[.slice a1 n1 c1, .slice a2 n2 c2] 27)
  have hf2 := box_second w (.slice a1 n1 c1) (.slice a2 n2 c2) 27
  have HB := Lib.hid hb
  have H := Lib.hid (h.below hb)
  have HL := Lib.hid h.1
  clear h hb
  go_enter Try.func15, Try.ntmps15
  go_wp2_with fail
  generalize w.alloc (.cells #[.slice a1 n1 c1, .slice a2 n2 c2] 27) = W at *
  go_loopw [7] (fun s7 wr => ∃ k : Nat, k ≤ n2 ∧ s7 = .int .i64 k ∧ Hid ((m.take k).any (fun p => p.1 == x && p.2 == y) = false) ∧ wr = W) (fun s7 _ => n2 - (intOf s7).toNat)
  case atStart => exact ⟨0, Nat.zero_le _, rfl, rfl, rfl⟩
  case round =>
    obtain ⟨k, hk, rfl, HP, rfl⟩ := hrel
    by_cases hlt : k < n2
    · obtain ⟨b, off, u, v, rfl, hy, e1, e2⟩ := H.out.at k hlt
      have HY := Lib.hid hy
      have hkn : (k : Int) < (n2 : Int) := by omega
      have hk0 : (0 : Int) ≤ (k : Int) := by omega
      clear hy
      cases hq : (u == x) with
      | true =>
        cases hq2 : (v == y) with
        | true =>
          have HA := Lib.hid (any_at (q := fun p => p.1 == x && p.2 == y) HY.out (by simp only [hq, hq2]; rfl))
          go_wp2_with fail
          go_ret
          exact ⟨by rw [HA.out]; rfl, HB.out⟩
        | false =>
          have HA : Hid ((m.take (k + 1)).any (fun p => p.1 == x && p.2 == y) = false) := take_none HP.out HY.out (by simp only [hq, hq2]; rfl)
          go_wp2_with fail
          exact ⟨⟨k + 1, by omega, by go_num, HA, trivial⟩, by simp [intOf]; omega⟩
      | false =>
        have HA : Hid ((m.take (k + 1)).any (fun p => p.1 == x && p.2 == y) = false) := take_none HP.out HY.out (by simp only [hq]; rfl)
        go_wp2_with fail
        exact ⟨⟨k + 1, by omega, by go_num, HA, trivial⟩, by simp [intOf]; omega⟩
    · obtain rfl : k = n2 := by omega
      have hkn : ¬ (k : Int) < (k : Int) := by omega
      have HA : Hid (m.any (fun p => p.1 == x && p.2 == y) = false) := by have := HP.out; rwa [List.take_of_length_le (by rw [HL.out]; exact Nat.le_refl _)] at this
      go_wp2_with fail
      go_ret
      exact ⟨by rw [HA.out]; rfl, HB.out⟩
end Go.Proofs.Ythcjembekadijaa.LawH
