/- A queue of ints: a slice somewhere in a row of its own; append to it; its head. The map that a search fills. -/
import Derived.Test.YtmjhgjlnpnkmkaaLows
import Derived.ArgAppend
import Derived.Maps.OwnSet
namespace Go.Proofs.Ytmjhgjlnpnkmkaa.Queue
open Go.RowKit Go.Maps Pairs Chain Find2 Lows
def QRow (w : World) (B : Nat) (v : Value) (q : List Int) : Prop :=
  ∃ b off cap cur, v = .slice (some ⟨b, off, none⟩) q.length cap ∧ B ≤ b ∧ w.heap[b]? = some (.cells cur 3 (0, 0)) ∧ q.length ≤ cap ∧ off + cap ≤ cur.size ∧ ∀ j x, q[j]? = some x → cur[off + j]? = some (.int .i64 x)
theorem QRow.kept {w w' : World} {B : Nat} {v : Value} {q : List Int} {row : Option Nat} (h : QRow w B v q) (hg : w.grownBy w' row) (hne : row ≠ v.ownBlock) : QRow w' B v q := by
  obtain ⟨b, off, cap, cur, rfl, hB, hh, r⟩ := h
  exact ⟨b, off, cap, cur, rfl, hB, (hg.block b (Array.getElem?_eq_some_iff.1 hh).1 (fun e => hne e.symm)).trans hh, r⟩
theorem QRow.below {w w' : World} {B : Nat} {v : Value} {q : List Int} (h : QRow w B v q) (hb : Below w.heap.size w w') : QRow w' B v q := by
  obtain ⟨b, off, cap, cur, rfl, hB, hh, r⟩ := h
  exact ⟨b, off, cap, cur, rfl, hB, (hb.block b (Array.getElem?_eq_some_iff.1 hh).1).trans hh, r⟩
theorem QRow.lt {w : World} {B : Nat} {v : Value} {q : List Int} (h : QRow w B v q) : ∀ j, v.ownBlock = some j → B ≤ j ∧ j < w.heap.size := by
  obtain ⟨b, off, cap, cur, rfl, hB, hh, r⟩ := h
  intro j hj
  have e : b = j := Option.some.inj hj
  subst e
  exact ⟨hB, (Array.getElem?_eq_some_iff.1 hh).1⟩
theorem QRow.form {w : World} {B : Nat} {v : Value} {q : List Int} (h : QRow w B v q) : ∃ b off cap, v = .slice (some ⟨b, off, none⟩) q.length cap ∧ q.length ≤ cap ∧ ∀ j x, q[j]? = some x → w.cell? ⟨b, off + j, none⟩ = some (.int .i64 x) := by
  obtain ⟨b, off, cap, cur, rfl, hB, hh, hle, hsz, hc⟩ := h
  refine ⟨b, off, cap, rfl, hle, fun j x hj => ?_⟩
  simp only [World.cell?, hh]
  exact hc j x hj
theorem QRow.tail {w : World} {B b off cap : Nat} {x : Int} {q : List Int} (h : QRow w B (.slice (some ⟨b, off, none⟩) (x :: q).length cap) (x :: q)) : QRow w B (.slice (some ⟨b, off + 1, none⟩) q.length (cap - 1)) q := by
  obtain ⟨b', off', cap', cur, hv, hB, hh, hle, hsz, hc⟩ := h
  injection hv with hv _ hcap
  injection hv with hv
  injection hv with hv1 hv2
  subst hv1 hv2 hcap
  have : q.length + 1 ≤ cap := by simpa using hle
  refine ⟨b, off + 1, cap - 1, cur, rfl, hB, hh, by omega, by omega, fun j y hj => ?_⟩
  have := hc (j + 1) y (by simpa using hj)
  rw [show off + 1 + j = off + (j + 1) by omega]
  exact this
theorem QRow.last {w : World} {B b off : Nat} {x : Int} {q : List Int} (h : QRow w B (.slice (some ⟨b, off, none⟩) (x :: q).length 1) (x :: q)) : q = [] ∧ QRow w B (.slice (some ⟨b, off, none⟩) 0 0) q := by
  obtain ⟨b', off', cap', cur, hv, hB, hh, hle, hsz, hc⟩ := h
  injection hv with hv _ hcap
  injection hv with hv
  injection hv with hv1 hv2
  subst hv1 hv2 hcap
  have hq : q = [] := by simpa using hle
  subst hq
  exact ⟨rfl, b, off, 0, cur, rfl, hB, hh, Nat.le_refl _, by omega, fun j y hj => by simp at hj⟩
theorem QRow.one {w : World} {B : Nat} {x : Int} (hB : B ≤ w.heap.size) : QRow (w.alloc (.cells #[.int .i64 x] 3)) B (.slice (some ⟨w.heap.size, 0, none⟩) 1 1) [x] :=
  ⟨w.heap.size, 0, 1, #[.int .i64 x], rfl, hB, heap_alloc_new w _, Nat.le_refl _, Nat.le_refl _, fun j y hj => by
    match j, hj with
    | 0, hj =>
      simp at hj
      subst hj
      rfl⟩
theorem QRow.ofRow {w : World} {B B' : Nat} {v : Value} {q : List Int} (h : w.ownsRow B' 3 1 v q.length (q.map (Value.int .i64))) (hB : B ≤ B') (hq : 0 < q.length) : QRow w B v q := by
  rcases h.2 with ⟨_, h0⟩ | ⟨g, cap, cur, hv, hg, hh, hle, _, hsz, htake⟩
  · omega
  · refine ⟨g, 0, cap, cur, hv, by omega, hh, hle, by omega, fun j x hj => ?_⟩
    have h1 : (q.map (Value.int .i64))[j]? = some (.int .i64 x) := by rw [List.getElem?_map, hj]; rfl
    have hjl := (List.getElem?_eq_some_iff.1 hj).1
    rw [← htake, List.getElem?_take_of_lt (by omega)] at h1
    rw [Nat.zero_add]
    simpa using h1
theorem one_cells (q : List Int) : ∀ u ∈ q.map (Value.int .i64), u.oneCell' = true := by
  intro u hu
  obtain ⟨x, _, rfl⟩ := List.mem_map.1 hu
  rfl
theorem wpList_append_q {w : World} {ops : Array Oper} {rest : List Oper} {o : Oper} {a : Act} {Q : Exit → Act → World → Prop} {i : TypeInfo} (hi : Try.prog.info? 3 = some i) (h3 : i.zero = some (.int .i64 0)) (h4 : i.size = 1) (h5 : i.bytes = 8)
    (hg : o.guard = none) (s x : Operand) (hop : o.op = Op.call { callee := Callee.builtin Builtin.append, args := #[s, x], argTypes := #[40, 40] })
    (B : Nat) (v : Value) (q : List Int) (hs : a.eval s = v) (hq : QRow w B v q) (z : Int) (ad : Addr) (c : Nat) (hx : a.eval x = .slice (some ad) 1 c) (hc : ∀ j u, [Value.int .i64 z][j]? = some u → w.cell? (ad.add j) = some u)
    (hlen : q.length ≤ 100000) (hB : B ≤ w.heap.size) (hK : ∀ v' w', QRow w' B v' (q ++ [z]) → w.grownBy w' v.ownBlock → wpList Try.prog ops Q rest (a.put o.dst v') w') :
    wpList Try.prog ops Q (o :: rest) a w := by
  obtain ⟨b, off, cap, cur, rfl, hBb, hh, hle, hsz, hcur⟩ := hq
  have hblt := (Array.getElem?_eq_some_iff.1 hh).1
  refine wpList_append_arg w hg s x 40 hop 3 i (.int .i64 0) 1 8 Try.underlying40 hi h3 h4 h5 rfl (by decide) b off q.length cap (q.map (Value.int .i64)) hs (by simp) ?_ ad 1 c [.int .i64 z] hx rfl hc (by simp [Value.oneCell']) ?_ (by unfold maxLen; omega) (by omega) ?_ ?_
  · intro j u hj
    rw [List.getElem?_map, Option.map_eq_some_iff] at hj
    obtain ⟨y, hy, rfl⟩ := hj
    simp only [World.cell?, hh]
    exact hcur j y hy
  · intro hr j hj
    have hj0 : j = 0 := by simpa using hj
    subst hj0
    have hin : off + q.length * 1 + 0 < cur.size := by omega
    refine ⟨?_, ?_⟩
    · simp only [World.cell?, hh]
      rw [Array.getElem?_eq_getElem hin]
      rfl
    · simp only [World.frozen?, hh]
      rfl
  · intro hr
    have hs2 := heap_setCell_same w b (off + q.length) cur _ (.int .i64 z) hh
    refine hK _ _ ⟨b, off, cap, cur.setIfInBounds (off + q.length) (.int .i64 z), by rw [List.length_append]; rfl, hBb, ?_, by simpa using hr, ?_, ?_⟩ ⟨rfl, rfl, rfl, by simp [World.setCells], fun k _ hk => ?_⟩
    · show (w.setCell ⟨b, off + q.length * 1, none⟩ (.int .i64 z)).heap[b]? = _
      rw [Nat.mul_one]
      exact hs2
    · simpa using hsz
    · intro j y hj
      by_cases e : j = q.length
      · subst e
        have hin : off + q.length < cur.size := by omega
        have hj2 : z = y := by simpa using hj
        rw [← hj2]
        simp [hin]
      · have hjl : j < q.length := by have := (List.getElem?_eq_some_iff.1 hj).1; simp at this; omega
        rw [List.getElem?_append_left hjl] at hj
        rw [Array.getElem?_setIfInBounds_ne (by omega)]
        exact hcur j y hj
    · show (w.setCell ⟨b, off + q.length * 1, none⟩ (.int .i64 z)).heap[k]? = _
      exact heap_setCell_other w ⟨b, off + q.length * 1, none⟩ k _ (fun e => hk (by rw [e]; rfl))
  · intro hg2 v' w' hown hgr
    refine hK v' w' (QRow.ofRow (B' := w.heap.size) ?_ hB (by simp)) ⟨hgr.os, hgr.tape, hgr.output, hgr.size, fun k hk _ => hgr.block k hk (by simp)⟩
    rw [List.length_append, List.map_append]
    exact hown
/-- The map of what has been found. -/
def mapOf (pv : Ps) : Dat := pv.foldl (fun D p => D.put (.int .i64 p.1) (.lit (.int .i64 p.2))) (.map [])
theorem mapOf_snoc (pv : Ps) (x h : Int) : mapOf (pv ++ [(x, h)]) = (mapOf pv).put (.int .i64 x) (.lit (.int .i64 h)) := by unfold mapOf; rw [List.foldl_append]; rfl
theorem has_fold (x : Int) : ∀ (pv : Ps) (D : Dat), IsMap D → has (pv.foldl (fun D p => D.put (.int .i64 p.1) (.lit (.int .i64 p.2))) D) (.int .i64 x) = (has D (.int .i64 x) || pv.any (fun p => p.1 == x)) ∧ IsMap (pv.foldl (fun D p => D.put (.int .i64 p.1) (.lit (.int .i64 p.2))) D)
  | [], D, hD => by simp [hD]
  | p :: pv, D, hD => by
    obtain ⟨h1, h2⟩ := has_fold x pv (D.put (.int .i64 p.1) (.lit (.int .i64 p.2))) (hD.put _ _)
    refine ⟨?_, h2⟩
    rw [List.foldl_cons, h1, List.any_cons]
    by_cases e : p.1 = x
    · subst e
      rw [has_put_same hD (show WideAt.IsKeyLit (.int .i64 p.1) from trivial)]
      simp
    · rw [has_put_other (by intro h; injection h with _ h; exact e h.symm)]
      have : (p.1 == x) = false := by simpa using e
      rw [this, Bool.false_or]
theorem has_mapOf (pv : Ps) (x : Int) : has (mapOf pv) (.int .i64 x) = (isAt pv x).isSome := by
  have := (has_fold x pv (.map []) ⟨[], rfl⟩).1
  unfold mapOf
  rw [this]
  unfold isAt
  rw [List.findIdx?_isSome]
  rfl
def Prev (w : World) (g : Nat) (pv : Ps) : Prop := w.ownsMap Try.prog 3 (plainElem Try.prog 3) g pv.length (mapOf pv)
theorem Prev.kept {w w' : World} {g : Nat} {pv : Ps} {row : Option Nat} (h : Prev w g pv) (hg : w.grownBy w' row) (hne : some g ≠ row) : Prev w' g pv := World.ownsMap.kept h hg hne
theorem Prev.below {w w' : World} {g : Nat} {pv : Ps} (h : Prev w g pv) (hb : Below w.heap.size w w') : Prev w' g pv := World.ownsMap.kept h (grown_none hb) (by simp)
theorem Prev.ne {w : World} {g B : Nat} {pv : Ps} {v : Value} {q : List Int} (h : Prev w g pv) (hq : QRow w B v q) : some g ≠ v.ownBlock := by
  obtain ⟨b, off, cap, cur, rfl, hB, hh, r⟩ := hq
  obtain ⟨es, clock, hb, _⟩ := h
  intro e
  have e2 : g = b := Option.some.inj e
  subst e2
  rw [hh] at hb
  cases hb
theorem zeroI (w : World) : (zeroValue 3).run Try.prog w = .ok (.int .i64 0) w := by kernel_rfl
end Go.Proofs.Ytmjhgjlnpnkmkaa.Queue
