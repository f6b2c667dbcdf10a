/- Phases in the world: slices of names with lists of numbers, two cells each; how such a slice comes in as an argument. -/
import Derived.Test.YtbdplgcdnpcnfaaExactOrderPhasesSaidPartad
import Derived.ChangeSlices
import Derived.Test.YtbdplgcdnpcnfaaExactOrderPhasesSaidPartaa
namespace Go.Proofs.Ytbdplgcdnpcnfaa.Ph
open Go.ChangeShapes Go.WideShapes Go.RowKit Go.Deep Pairs Rec Keep GivesI RecOpen
abbrev Pt := ByteArray × List Int
def At (w : World) (b off : Nat) (x : Pt) : Prop :=
  w.cell? ⟨b, off, none⟩ = some (.string x.1) ∧ ∃ p k c, w.cell? ⟨b, off + 1, none⟩ = some (.slice p k c) ∧ HoldsI w p k x.2
def HoldsP (w : World) (a : Option Addr) (n : Nat) (L : List Pt) : Prop :=
  L.length = n ∧ (n = 0 ∨ ∃ b off, a = some ⟨b, off, none⟩ ∧ b < w.heap.size ∧ ∀ i x, L[i]? = some x → At w b (off + i * 2) x)
theorem At.below {w w' : World} {b off : Nat} {x : Pt} (h : At w b off x) (hb : Below w.heap.size w w') (hlt : b < w.heap.size) : At w' b off x := by
  obtain ⟨h1, p, k, c, h2, h3⟩ := h
  exact ⟨(hb.cell (p := ⟨b, off, none⟩) hlt).trans h1, p, k, c, (hb.cell (p := ⟨b, off + 1, none⟩) hlt).trans h2, h3.below hb⟩
theorem HoldsP.below {w w' : World} {a : Option Addr} {n : Nat} {L : List Pt} (h : HoldsP w a n L) (hb : Below w.heap.size w w') : HoldsP w' a n L := by
  obtain ⟨h1, h2⟩ := h
  refine ⟨h1, ?_⟩
  rcases h2 with h2 | ⟨b, off, ha, hbw, hc⟩
  · exact .inl h2
  · exact .inr ⟨b, off, ha, Nat.lt_of_lt_of_le hbw hb.size, fun i x hi => (hc i x hi).below hb hbw⟩
theorem HoldsP.at {w : World} {a : Option Addr} {n : Nat} {L : List Pt} (h : HoldsP w a n L) (k : Nat) (hk : k < n) :
    ∃ (b off : Nat) (s : ByteArray) (M : List Int) (p : Option Addr) (j c : Nat), a = some ⟨b, off, none⟩ ∧ L[k]? = some (s, M) ∧ w.cell? ⟨b, off + k * 2, none⟩ = some (.string s) ∧ w.cell? ⟨b, off + k * 2 + 1, none⟩ = some (.slice p j c) ∧ HoldsI w p j M := by
  obtain ⟨h1, h2⟩ := h
  rcases h2 with h2 | ⟨b, off, ha, hbw, hc⟩
  · omega
  · have hl : k < L.length := by omega
    obtain ⟨e1, p, j, c, e2, e3⟩ := hc k L[k] (List.getElem?_eq_getElem hl)
    exact ⟨b, off, L[k].1, L[k].2, p, j, c, ha, List.getElem?_eq_getElem hl, e1, e2, e3⟩
theorem HoldsP.take {w : World} {a : Option Addr} {n : Nat} {L : List Pt} (h : HoldsP w a n L) (k : Nat) (hk : k ≤ n) : HoldsP w a k (L.take k) := by
  obtain ⟨h1, h2⟩ := h
  refine ⟨by rw [List.length_take]; omega, ?_⟩
  rcases h2 with h2 | ⟨b, off, ha, hbw, hc⟩
  · exact .inl (by omega)
  · refine .inr ⟨b, off, ha, hbw, fun i x hi => ?_⟩
    have hik : i < k := by have := (List.getElem?_eq_some_iff.1 hi).1; rw [List.length_take] at this; omega
    rw [List.getElem?_take_of_lt hik] at hi
    exact hc i x hi
/-- How great the parts are: no longer than z. -/
def Sm (L : List Pt) (z : Nat) : Prop := ∀ x ∈ L, x.1.size ≤ z ∧ x.2.length ≤ z

section
variable {H : Type} {enc : TypeId × Value → H} {w : World} {base : Nat} {spare : Nat → Bool} {held : Bool}
theorem open_row {t e : TypeId} {fuel : Nat} {v : Value} {x : DataW H × List MemPlace} (ht : Try.prog.underlying t = some (.slice e)) (he : Try.prog.underlying e = some (.int .i64)) (ce : Try.prog.cellsOf e = 1)
    (h : DataW.trod enc Try.prog w base spare held fuel t [v] = some x) : ∃ (p : Option Addr) (j c : Nat) (M : List Int), v = .slice p j c ∧ j ≤ 9223372036854775807 ∧ HoldsI w p j M := by
  rcases open_ints ht he ce h with ⟨hcs, _⟩ | ⟨a, len, cap, zs, hcs, _, hl, hm, hz, _, hc, _⟩
  · obtain rfl : v = .slice none 0 0 := by simpa using hcs
    exact ⟨none, 0, 0, [], rfl, by omega, rfl, .inl rfl⟩
  · obtain rfl : v = .slice (some a) len cap := by simpa using hcs
    unfold maxLen at hm
    have hlm : len ≤ zs.length := by rw [hz]; split <;> omega
    refine ⟨some a, len, cap, zs.take len, rfl, by omega, by rw [List.length_take]; omega, ?_⟩
    by_cases h0 : len = 0
    · exact .inl h0
    · right
      obtain ⟨b, off, spot⟩ := a
      have c0 := hc 0 (by omega)
      have hspot : spot = none := by simpa [Addr.add] using World.cell?_spot c0
      subst hspot
      refine ⟨b, off, rfl, ?_, fun i x hi => ?_⟩
      · have := cell_lt c0
        rw [add_block] at this
        exact this
      · have hil : i < len := by have := (List.getElem?_eq_some_iff.1 hi).1; rw [List.length_take] at this; omega
        have e := hc i (by omega)
        rw [add_eq] at e
        rw [List.getElem?_take_of_lt hil] at hi
        rw [e, List.getD_eq_getElem?_getD, hi]
        rfl
/-- A slice of phases, as a cell. -/
theorem open_phases {t e u : TypeId} {f0 f1 : Field} {fuel : Nat} {v : Value} {x : DataW H × List MemPlace} (ht : Try.prog.underlying t = some (.slice e)) (he : Try.prog.underlying e = some (.struct #[f0, f1]))
    (ce : Try.prog.cellsOf e = 2) (o0 : f0.offset = 0) (o1 : f1.offset = 1) (c0 : Try.prog.cellsOf f0.type = 1) (c1 : Try.prog.cellsOf f1.type = 1) (t0 : Try.prog.underlying f0.type = some .string) (t1 : Try.prog.underlying f1.type = some (.slice u))
    (tu : Try.prog.underlying u = some (.int .i64)) (cu : Try.prog.cellsOf u = 1)
    (h : DataW.trod enc Try.prog w base spare held fuel t [v] = some x) : ∃ (a : Option Addr) (n c : Nat) (L : List Pt), v = .slice a n c ∧ n ≤ 9223372036854775807 ∧ HoldsP w a n L ∧ Sm L 9223372036854775807 := by
  rcases open_slice_pairs ht he ce o0 o1 c0 c1 h with ⟨hcs, _⟩ | ⟨a, len, cap, m, k, V0, V1, D0, D1, P0, P1, hcs, _, hl, hm, hmm, _, hi⟩
  · obtain rfl : v = .slice none 0 0 := by simpa using hcs
    exact ⟨none, 0, 0, [], rfl, by omega, ⟨rfl, .inl rfl⟩, fun x hx => by simp at hx⟩
  · obtain rfl : v = .slice (some a) len cap := by simpa using hcs
    unfold maxLen at hm
    have hlm : len ≤ m := by rw [hmm]; split <;> omega
    have hval : ∀ i, i < m → ∃ q : Pt, (w.cell? (a.add (i * 2)) = some (.string q.1) ∧ ∃ p k c, w.cell? (a.add (i * 2 + 1)) = some (.slice p k c) ∧ HoldsI w p k q.2) ∧ q.1.size ≤ 9223372036854775807 ∧ q.2.length ≤ 9223372036854775807 := by
      intro i him
      obtain ⟨h0, h1, h2, h3⟩ := hi i him
      obtain ⟨s, hs, _, hsz⟩ := DataW.trod_string t0 h2
      obtain ⟨p, j, c, M, hv, hj, hM⟩ := open_row t1 tu cu h3
      simp only [List.cons.injEq, and_true] at hs
      unfold maxLen at hsz
      exact ⟨(s, M), ⟨by rw [h0, hs], p, j, c, by rw [h1, hv], hM⟩, by omega, by have := hM.1; simp only; omega⟩
    have hall : ∀ n, n ≤ m → ∃ l : List Pt, l.length = n ∧ Sm l 9223372036854775807 ∧ ∀ i q, l[i]? = some q → (w.cell? (a.add (i * 2)) = some (.string q.1) ∧ ∃ p k c, w.cell? (a.add (i * 2 + 1)) = some (.slice p k c) ∧ HoldsI w p k q.2) := by
      intro n
      induction n with
      | zero => exact fun _ => ⟨[], rfl, fun x hx => by simp at hx, fun i p hp => by simp at hp⟩
      | succ n ih =>
        intro hn
        obtain ⟨l, hl, hs, hp⟩ := ih (by omega)
        obtain ⟨p, h1, h2⟩ := hval n (by omega)
        refine ⟨l ++ [p], by simp [hl], fun x hx => ?_, fun i q hq => ?_⟩
        · rcases List.mem_append.1 hx with hx | hx
          · exact hs x hx
          · obtain rfl : x = p := by simpa using hx
            exact h2
        by_cases hin : i < n
        · rw [List.getElem?_append_left (by omega)] at hq
          exact hp i q hq
        · have hle : i < (l ++ [p]).length := (List.getElem?_eq_some_iff.1 hq).1
          have hi' : i = n := by simp [hl] at hle; omega
          subst hi'
          rw [List.getElem?_append_right (by omega), hl, Nat.sub_self] at hq
          obtain rfl : p = q := by simpa using hq
          exact h1
    obtain ⟨l, hll, hS, hp⟩ := hall len hlm
    refine ⟨some a, len, cap, l, rfl, by omega, ⟨hll, ?_⟩, hS⟩
    by_cases h0 : len = 0
    · exact .inl h0
    · right
      obtain ⟨b, off, spot⟩ := a
      have hc := (hp 0 (l[0]'(by omega)) (List.getElem?_eq_getElem (by omega))).1
      have hspot : spot = none := by simpa [Addr.add] using World.cell?_spot hc
      subst hspot
      refine ⟨b, off, rfl, ?_, fun i p hi => ?_⟩
      · have := cell_lt hc
        rw [add_block] at this
        exact this
      · have e := hp i p hi
        rw [add_eq, add_eq] at e
        exact e
end
end Go.Proofs.Ytbdplgcdnpcnfaa.Ph
/- The model's l2Find: the place of a number among the contexts, or -1. -/
namespace Go.Proofs.Ytbdplgcdnpcnfaa.Find2
open Go.RowKit Pairs

def isAt (l : List (Int × Int)) (n : Int) : Option Nat := l.findIdx? (fun p => p.1 == n)
def find (l : List (Int × Int)) (n : Int) : Int := match isAt l n with | some i => (i : Int) | none => -1
theorem isAt_here {l : List (Int × Int)} {n y : Int} {k : Nat} (h : isAt (l.take k) n = none) (hk : l[k]? = some (n, y)) : isAt l n = some k := by
  unfold isAt at *
  have hl : k < l.length := (List.getElem?_eq_some_iff.1 hk).1
  rw [List.findIdx?_eq_none_iff] at h
  rw [List.findIdx?_eq_some_iff_getElem]
  refine ⟨hl, ?_, ?_⟩
  · have e := (List.getElem?_eq_some_iff.1 hk).2
    simp [e]
  · intro j hj
    have := h (l[j]) (by
      rw [List.mem_take_iff_getElem]
      exact ⟨j, by omega, rfl⟩)
    simpa using this
theorem isAt_next {l : List (Int × Int)} {n x y : Int} {k : Nat} (h : isAt (l.take k) n = none) (hk : l[k]? = some (x, y)) (hne : x ≠ n) : isAt (l.take (k + 1)) n = none := by
  unfold isAt at *
  rw [List.take_add_one, hk, List.findIdx?_append, h]
  simp [hne]
theorem find_some {l : List (Int × Int)} {n : Int} {k : Nat} (h : isAt l n = some k) : find l n = (k : Int) := by unfold find; rw [h]
theorem find_none {l : List (Int × Int)} {n : Int} (h : isAt l n = none) : find l n = -1 := by unfold find; rw [h]

set_option maxHeartbeats 400000 in
theorem l2Find_any (a1 a2 : Option Addr) (n1 c1 n2 c2 : Nat) (l : List (Int × Int)) (n : Int) (w : World) (hz : n1 ≤ 9223372036854775806) (h : Holds w a1 n1 l) :
    Calls Try.prog 41 #[.agg #[.slice a1 n1 c1, .slice a2 n2 c2], .int .i64 n] w fun e w' => e = .returned (.int .i64 (find l n)) ∧ Below w.heap.size w w' := by
  have hb := below_alloc w (.cells #[.slice a1 n1 c1, .slice a2 n2 c2] 33)
  have hf := box_first w (.slice a1 n1 c1) (.slice a2 n2 c2) 33
  have hH := h.below hb
  have HH := Lib.hid hH
  clear hH
  go_enter Try.func41, Try.ntmps41
  go_wp2
  generalize w.alloc (.cells #[.slice a1 n1 c1, .slice a2 n2 c2] 33) = W at *
  go_loop [5] (fun i => ∃ k : Nat, k ≤ n1 ∧ i = .int .i64 k ∧ Hid (isAt (l.take k) n = none)) (fun i => n1 - (intOf i).toNat)
  case atStart => exact ⟨0, Nat.zero_le _, rfl, by simp [Hid, isAt]⟩
  case round =>
    obtain ⟨k, hk, rfl, HM⟩ := hrel
    by_cases hlt : k < n1
    · obtain ⟨b, off, x, y, rfl, hx, e1, e2⟩ := HH.out.at k hlt
      have HX := Lib.hid hx
      clear hx h
      have hi : (k : Int) < (n1 : Int) := by omega
      by_cases heq : x = n
      · subst heq
        have hr := find_some (isAt_here HM.out HX.out)
        have HR := Lib.hid hr
        clear hr
        go_wp2
        go_ret
        exact ⟨by rw [HR.out]; rfl, hb⟩
      · have hn := isAt_next HM.out HX.out heq
        have HN := Lib.hid hn
        clear hn
        go_wp2
        go_round
        case rel => exact ⟨k + 1, by omega, by go_num, HN⟩
        case measure => simp [intOf]; omega
    · have hr : find l n = -1 := find_none (by
        have h1 := HM.out
        rw [List.take_of_length_le (by rw [HH.out.1]; omega)] at h1
        exact h1)
      have HR := Lib.hid hr
      clear hr
      have hi : ¬ (k : Int) < (n1 : Int) := by omega
      go_wp2
      go_ret
      exact ⟨by rw [HR.out]; rfl, hb⟩
end Go.Proofs.Ytbdplgcdnpcnfaa.Find2
