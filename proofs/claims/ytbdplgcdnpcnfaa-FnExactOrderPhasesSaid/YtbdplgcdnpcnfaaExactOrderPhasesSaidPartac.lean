/- The law file's eqRecord: two records that hold the same are equal. -/
import Derived.Test.YtbdplgcdnpcnfaaExactOrderPhasesSaidPartaa
import Derived.Deep.SlicePairs
import Derived.ChangeArms
namespace Go.Proofs.Ytbdplgcdnpcnfaa.RecEq
open Go.RowKit Pairs Rec

theorem boxes2 (w : World) (u1 v1 u2 v2 : Value) (t1 t2 : TypeId) :
    ((w.alloc (.cells #[u1, v1] t1)).alloc (.cells #[u2, v2] t2)).heap.size = w.heap.size + 2 ∧
    ((w.alloc (.cells #[u1, v1] t1)).alloc (.cells #[u2, v2] t2)).cell? ⟨w.heap.size, 0, none⟩ = some u1 ∧
    ((w.alloc (.cells #[u1, v1] t1)).alloc (.cells #[u2, v2] t2)).cell? ⟨w.heap.size, 1, none⟩ = some v1 ∧
    ((w.alloc (.cells #[u1, v1] t1)).alloc (.cells #[u2, v2] t2)).cell? ⟨w.heap.size + 1, 0, none⟩ = some u2 ∧
    ((w.alloc (.cells #[u1, v1] t1)).alloc (.cells #[u2, v2] t2)).cell? ⟨w.heap.size + 1, 1, none⟩ = some v2 ∧
    Below w.heap.size w ((w.alloc (.cells #[u1, v1] t1)).alloc (.cells #[u2, v2] t2)) := by
  have e : ∀ (w : World) (o : Obj), (w.alloc o).heap = w.heap.push o := fun _ _ => rfl
  have i0 : ((w.alloc (.cells #[u1, v1] t1)).alloc (.cells #[u2, v2] t2)).heap[w.heap.size]? = some (.cells #[u1, v1] t1) := by
    rw [e, e, Array.getElem?_push, if_neg (by simp), Array.getElem?_push, if_pos rfl]
  have i1 : ((w.alloc (.cells #[u1, v1] t1)).alloc (.cells #[u2, v2] t2)).heap[w.heap.size + 1]? = some (.cells #[u2, v2] t2) := by
    rw [e, e, Array.getElem?_push, if_pos (by simp)]
  refine ⟨by rw [e, e]; simp, ?_, ?_, ?_, ?_, below_alloc2 _ _ _⟩
  · unfold World.cell?; rw [i0]; rfl
  · unfold World.cell?; rw [i0]; rfl
  · unfold World.cell?; rw [i1]; rfl
  · unfold World.cell?; rw [i1]; rfl

set_option maxHeartbeats 1000000 in
theorem eqRecord_same (a1 a2 b1 b2 : Option Addr) (n1 n2 c1 c2 d1 d2 : Nat) (l1 l2 : List (Int × Int)) (h1 : n1 ≤ 1048576) (h2 : n2 ≤ 1048576) (w : World) (A1 : Holds w a1 n1 l1) (A2 : Holds w a2 n2 l2) (B1 : Holds w b1 n1 l1) (B2 : Holds w b2 n2 l2) :
    Calls Try.prog 14 #[.agg #[.slice a1 n1 c1, .slice a2 n2 c2], .agg #[.slice b1 n1 d1, .slice b2 n2 d2]] w fun e w' => e = .returned (.bool true) ∧ Below w.heap.size w w' := by
  obtain ⟨hs, x1, x2, y1, y2, hb0⟩ := boxes2 w (.slice a1 n1 c1) (.slice a2 n2 c2) (.slice b1 n1 d1) (.slice b2 n2 d2) 33 33
  have HA1 := Lib.hid (A1.below hb0)
  have HA2 := Lib.hid (A2.below hb0)
  have HB1 := Lib.hid (B1.below hb0)
  have HB2 := Lib.hid (B2.below hb0)
  have HS := Lib.hid hs
  clear A1 A2 B1 B2 hs
  go_enter Try.func14, Try.ntmps14
  go_wp2_with fail
  generalize (w.alloc (.cells #[.slice a1 n1 c1, .slice a2 n2 c2] 33)).alloc (.cells #[.slice b1 n1 d1, .slice b2 n2 d2] 33) = W at *
  refine (eqContextS_same a1 b1 n1 c1 d1 l1 h1 W HA1.out HB1.out).mono ?_
  rintro e w2 ⟨rfl, bb⟩
  have hs := HS.out
  have k2 := (bb.cell (p := ⟨w.heap.size, 1, none⟩) (by show w.heap.size < _; omega)).trans x2
  have k4 := (bb.cell (p := ⟨w.heap.size + 1, 1, none⟩) (by show w.heap.size + 1 < _; omega)).trans y2
  have HA3 := Lib.hid (HA2.out.below bb)
  have HB3 := Lib.hid (HB2.out.below bb)
  have b3 := hb0.trans (bb.mono hb0.size)
  clear x1 x2 y1 y2 bb hb0 hs
  go_wp2_with fail
  refine (eqRelationS_same a2 b2 n2 c2 d2 l2 h2 w2 HA3.out HB3.out).mono ?_
  rintro e w3 ⟨rfl, b4⟩
  have b5 := b3.trans (b4.mono b3.size)
  clear b3 b4 k2 k4
  go_wp2_with fail
  go_ret
  exact ⟨rfl, b5⟩
end Go.Proofs.Ytbdplgcdnpcnfaa.RecEq
/- A record that comes in as an argument: its two slices, and the pairs that they hold. -/
namespace Go.Proofs.Ytbdplgcdnpcnfaa.RecOpen
open Go.ChangeShapes Go.WideShapes Go.RowKit Go.Deep Pairs

theorem add_eq (b off i : Nat) : (⟨b, off, none⟩ : Addr).add i = ⟨b, off + i, none⟩ := by
  unfold Addr.add
  by_cases h : i = 0
  · subst h; simp
  · simp [h]
theorem add_block (x : Addr) (i : Nat) : (x.add i).block = x.block := by
  unfold Addr.add
  split <;> rfl
theorem cell_lt {w : World} {a : Addr} {v : Value} (h : w.cell? a = some v) : a.block < w.heap.size := by
  cases hb : w.heap[a.block]? with
  | none => simp [World.cell?, hb] at h
  | some o => exact (Array.getElem?_eq_some_iff.1 hb).1

section
variable {H : Type} {enc : TypeId × Value → H} {w : World} {base : Nat} {spare : Nat → Bool} {held : Bool}
/-- A slice of pairs of ints, as a cell. -/
theorem open_pairs {t e : TypeId} {f0 f1 : Field} {fuel : Nat} {v : Value} {x : DataW H × List MemPlace} (ht : Try.prog.underlying t = some (.slice e)) (he : Try.prog.underlying e = some (.struct #[f0, f1]))
    (ce : Try.prog.cellsOf e = 2) (o0 : f0.offset = 0) (o1 : f1.offset = 1) (c0 : Try.prog.cellsOf f0.type = 1) (c1 : Try.prog.cellsOf f1.type = 1) (t0 : Try.prog.underlying f0.type = some (.int .i64)) (t1 : Try.prog.underlying f1.type = some (.int .i64))
    (h : DataW.trod enc Try.prog w base spare held fuel t [v] = some x) : ∃ (a : Option Addr) (n c : Nat) (l : List (Int × Int)), v = .slice a n c ∧ n ≤ 9223372036854775807 ∧ Holds w a n l := by
  rcases open_slice_pairs ht he ce o0 o1 c0 c1 h with ⟨hcs, _⟩ | ⟨a, len, cap, m, k, V0, V1, D0, D1, P0, P1, hcs, _, hl, hm, hmm, _, hi⟩
  · obtain rfl : v = .slice none 0 0 := by simpa using hcs
    exact ⟨none, 0, 0, [], rfl, by omega, rfl, .inl rfl⟩
  · obtain rfl : v = .slice (some a) len cap := by simpa using hcs
    unfold maxLen at hm
    have hlm : len ≤ m := by rw [hmm]; split <;> omega
    have hval : ∀ i, i < m → ∃ p : Int × Int, w.cell? (a.add (i * 2)) = some (.int .i64 p.1) ∧ w.cell? (a.add (i * 2 + 1)) = some (.int .i64 p.2) := by
      intro i him
      obtain ⟨h0, h1, h2, h3⟩ := hi i him
      obtain ⟨p, hp, _⟩ := DataW.trod_int t0 h2
      obtain ⟨q, hq, _⟩ := DataW.trod_int t1 h3
      simp only [List.cons.injEq, and_true] at hp hq
      exact ⟨(p, q), by rw [h0, hp], by rw [h1, hq]⟩
    have hall : ∀ n, n ≤ m → ∃ l : List (Int × Int), l.length = n ∧ ∀ i p, l[i]? = some p → w.cell? (a.add (i * 2)) = some (.int .i64 p.1) ∧ w.cell? (a.add (i * 2 + 1)) = some (.int .i64 p.2) := by
      intro n
      induction n with
      | zero => exact fun _ => ⟨[], rfl, fun i p hp => by simp at hp⟩
      | succ n ih =>
        intro hn
        obtain ⟨l, hl, hp⟩ := ih (by omega)
        obtain ⟨p, h1, h2⟩ := hval n (by omega)
        refine ⟨l ++ [p], by simp [hl], fun i q hq => ?_⟩
        by_cases hin : i < n
        · rw [List.getElem?_append_left (by omega)] at hq
          exact hp i q hq
        · have hle : i < (l ++ [p]).length := (List.getElem?_eq_some_iff.1 hq).1
          have hi' : i = n := by simp [hl] at hle; omega
          subst hi'
          rw [List.getElem?_append_right (by omega), hl, Nat.sub_self] at hq
          obtain rfl : p = q := by simpa using hq
          exact ⟨h1, h2⟩
    obtain ⟨l, hll, hp⟩ := hall len hlm
    refine ⟨some a, len, cap, l, rfl, by omega, hll, ?_⟩
    by_cases h0 : len = 0
    · exact .inl h0
    · right
      obtain ⟨b, off, spot⟩ := a
      have hc := (hp 0 (l[0]'(by omega)) (List.getElem?_eq_getElem (by omega))).1
      have hspot : spot = none := by simpa [Addr.add] using World.cell?_spot hc
      subst hspot
      refine ⟨b, off, rfl, ?_, fun i p hi => ?_⟩
      · have := cell_lt hc
        rw [add_block] at this
        exact this
      · have e := hp i p hi
        rw [add_eq, add_eq] at e
        exact e
end
end Go.Proofs.Ytbdplgcdnpcnfaa.RecOpen
