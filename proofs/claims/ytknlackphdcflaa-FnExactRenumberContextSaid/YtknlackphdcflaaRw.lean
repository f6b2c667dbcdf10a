/- A row of relations under way: what is kept stands ahead; from some place on it is as it was. -/
import Derived.Test.YtknlackphdcflaaDelF
import Derived.Test.YtknlackphdcflaaSwapM
import Derived.Laws.AppendOwn
import Derived.Test.YtknlackphdcflaaRemC
import Derived.Test.YtknlackphdcflaaSrc
namespace Go.Proofs.Ytknlackphdcflaa.Rw
open Go.RowKit Pairs Rec RecEq Keep Row2 Copy Two
open RemC (own_of_take)
def Rw (w wr : World) (g n : Nat) (P : List (Int × Int)) (j : Nat) (m : List (Int × Int)) : Prop :=
  ∃ ys : List Value, wr.heap[g]? = some (.cells ys.toArray 44) ∧ ys.length = n * 2 ∧ P.length ≤ n ∧ (∀ t, t < P.length * 2 → ys[t]? = (flat P)[t]?) ∧ (∀ t, j * 2 ≤ t → t < m.length * 2 → ys[t]? = (flat m)[t]?) ∧ Kept (fun b => b = g) w wr
variable {w wr wq : World} {g n j : Nat} {P m : List (Int × Int)}
theorem Rw.start (h : w.heap[g]? = some (.cells (flat m).toArray 44)) (hl : m.length = n) : Rw w w g n [] 0 m :=
  ⟨flat m, h, by rw [flat_len, hl], by simp, fun t ht => by simp at ht, fun _ _ _ => rfl, Kept.refl _ w⟩
theorem Rw.kept (h : Rw w wr g n P j m) : Kept (fun b => b = g) w wr := by obtain ⟨_, _, _, _, _, _, h⟩ := h; exact h
theorem Rw.lt (h : Rw w wr g n P j m) : g < wr.heap.size := by obtain ⟨_, h, _⟩ := h; exact (Array.getElem?_eq_some_iff.1 h).1
theorem Rw.below (h : Rw w wr g n P j m) (hb : Below wr.heap.size wr wq) : Rw w wq g n P j m := by
  obtain ⟨ys, h1, h2, h3, h4, h5, h6⟩ := h
  exact ⟨ys, (hb.block g (Array.getElem?_eq_some_iff.1 h1).1).trans h1, h2, h3, h4, h5, h6.trans (Kept.of hb)⟩
theorem Rw.mono (h : Rw w wr g n P j m) {j' : Nat} (hj : j ≤ j') : Rw w wr g n P j' m := by
  obtain ⟨ys, h1, h2, h3, h4, h5, h6⟩ := h
  exact ⟨ys, h1, h2, h3, h4, fun t ht => h5 t (by omega), h6⟩
theorem Rw.cells (h : Rw w wr g n P j m) {k : Nat} (hk : j ≤ k) {x y : Int} (hx : m[k]? = some (x, y)) : wr.cell? ⟨g, k * 2, none⟩ = some (.int .i64 x) ∧ wr.cell? ⟨g, k * 2 + 1, none⟩ = some (.int .i64 y) := by
  obtain ⟨ys, h1, _, _, _, h5, _⟩ := h
  have e := flat_get m k x y hx
  have hkl := (List.getElem?_eq_some_iff.1 hx).1
  constructor
  · simp only [World.cell?, h1, List.getElem?_toArray]
    rw [h5 _ (by omega) (by omega), e.1]
    rfl
  · simp only [World.cell?, h1, List.getElem?_toArray]
    rw [h5 _ (by omega) (by omega), e.2]
    rfl
theorem Rw.there (h : Rw w wr g n P j m) {t : Nat} (ht : t < n * 2) : (∃ v, wr.cell? ⟨g, t, none⟩ = some v) ∧ wr.frozen? ⟨g, t, none⟩ = false := by
  obtain ⟨ys, h1, h2, _⟩ := h
  refine ⟨⟨ys[t], ?_⟩, ?_⟩
  · simp only [World.cell?, h1, List.getElem?_toArray]
    rw [List.getElem?_eq_getElem (by omega)]
    rfl
  · simp only [World.frozen?, h1]
    rfl
theorem Rw.put2 (h : Rw w wr g n P j m) {j' : Nat} (hj : j ≤ j') (hf : P.length < j') (hn : P.length < n) (x y : Int) :
    Rw w ((wr.setCell ⟨g, P.length * 2, none⟩ (.int .i64 x)).setCell ⟨g, P.length * 2 + 1, none⟩ (.int .i64 y)) g n (P ++ [(x, y)]) j' m := by
  obtain ⟨ys, h1, h2, h3, h4, h5, h6⟩ := h
  have s1 := heap_setCell_same wr g (P.length * 2) ys.toArray _ (.int .i64 x) h1
  have s2 := heap_setCell_same (wr.setCell ⟨g, P.length * 2, none⟩ (.int .i64 x)) g (P.length * 2 + 1) _ _ (.int .i64 y) s1
  refine ⟨(ys.set (P.length * 2) (.int .i64 x)).set (P.length * 2 + 1) (.int .i64 y), ?_, by simpa using h2, by simp; omega, ?_, ?_, (h6.setCell (g := g) rfl _).setCell (g := g) rfl _⟩
  · rw [s2]
    simp
  · intro t ht
    rw [List.length_append, List.length_singleton] at ht
    rw [flat_app]
    have hl : (flat P).length = P.length * 2 := flat_len P
    by_cases e1 : t = P.length * 2 + 1
    · subst e1
      rw [List.getElem?_set_self (by simp; omega), List.getElem?_append_right (by omega), hl, show P.length * 2 + 1 - P.length * 2 = 1 by omega]
      rfl
    · rw [List.getElem?_set_ne (by omega)]
      by_cases e2 : t = P.length * 2
      · subst e2
        rw [List.getElem?_set_self (by omega), List.getElem?_append_right (by omega), hl, Nat.sub_self]
        rfl
      · rw [List.getElem?_set_ne (by omega), List.getElem?_append_left (by omega)]
        exact h4 t (by omega)
  · intro t ht htm
    rw [List.getElem?_set_ne (by omega), List.getElem?_set_ne (by omega)]
    exact h5 t (by omega) htm
/-- An append where there is room. -/
theorem Rw.append (h : Rw w wr g n P j m) {j' f : Nat} (hj : j ≤ j') (hP : P.length = f) (hf : f < j') (hn : f < n) {x y : Int} {k : Nat} {T : TypeId} (hp : wr.heap[k]? = some (.cells #[.int .i64 x, .int .i64 y] T)) (ty : TypeId) :
    ∃ w', (Builtin.append_ #[30, 30] ty #[.slice (some ⟨g, 0, none⟩) f n, .slice (some ⟨k, 0, none⟩) 1 1]).run Try.prog wr = .ok (.slice (some ⟨g, 0, none⟩) (f + 1) n) w' ∧ Rw w w' g n (P ++ [(x, y)]) j' m ∧ (∀ b, b ≠ g → w'.heap[b]? = wr.heap[b]?) ∧ w'.heap.size = wr.heap.size := by
  obtain ⟨i, hi, _, hsz, _⟩ := info_parts infoRelation
  obtain ⟨ys, h1, h2, h3, h4, h5, h6⟩ := h
  have hrun := run_append_room (P := Try.prog) wr 30 ty 44 i Try.underlying30 hi g f n ys.toArray h1 ⟨k, 0, none⟩ 1 1 [.int .i64 x, .int .i64 y] (by rw [hsz]; rfl) (World.news_of_block hp) (by intro v hv; simp at hv; rcases hv with rfl | rfl <;> rfl) (by omega) (by rw [hsz]; simp; omega)
  rw [hsz] at hrun
  refine ⟨_, hrun, ⟨ys.take (f * 2) ++ [.int .i64 x, .int .i64 y] ++ ys.drop (f * 2 + 2), setRow_heap wr g _ _ _ _ h1, ?_, by simp; omega, ?_, ?_, ?_⟩, fun b hb => setRow_other wr g b _ hb, by unfold World.setRow; simp⟩
  · simp; omega
  · intro t ht
    rw [List.length_append, List.length_singleton] at ht
    rw [flat_app, List.append_assoc]
    have hl : (flat P).length = f * 2 := by rw [flat_len, hP]
    by_cases e2 : t < f * 2
    · rw [List.getElem?_append_left (by simp; omega), List.getElem?_append_left (by omega), List.getElem?_take_of_lt e2]
      exact h4 t (by omega)
    · have hlt : (ys.take (f * 2)).length = f * 2 := by rw [List.length_take]; omega
      rw [List.getElem?_append_right (l₁ := ys.take (f * 2)) (by omega), List.getElem?_append_right (l₁ := flat P) (by omega), hlt, hl, List.getElem?_append_left (by simp; omega)]
      rfl
  · intro t ht htm
    have hlt : (ys.take (f * 2)).length = f * 2 := by rw [List.length_take]; omega
    rw [List.append_assoc, List.getElem?_append_right (l₁ := ys.take (f * 2)) (by omega), hlt, List.getElem?_append_right (l₁ := [Value.int .i64 x, Value.int .i64 y]) (by simp; omega), List.getElem?_drop]
    rw [show f * 2 + 2 + (t - f * 2 - [Value.int .i64 x, Value.int .i64 y].length) = t by simp; omega]
    exact h5 t (by omega) htm
  · exact h6.trans ⟨rfl, rfl, rfl, by unfold World.setRow; simp, fun b _ hb => setRow_other wr g b _ hb⟩
theorem Rw.owns {B k : Nat} (h : Rw w wr g n P j m) (hP : P.length = k) (hz : n ≤ 1048576) (hB : B ≤ g) : wr.ownsRow B 44 2 (.slice (some ⟨g, 0, none⟩) k n) k (flat P) := by
  obtain ⟨ys, h1, h2, h3, h4, _, _⟩ := h
  refine own_of_take h1 h2 hP (by omega) hz ?_ hB
  apply List.ext_getElem?
  intro t
  by_cases ht : t < P.length * 2
  · rw [List.getElem?_take_of_lt (by omega)]
    exact h4 t ht
  · rw [List.getElem?_eq_none (by rw [List.length_take]; omega), List.getElem?_eq_none (by rw [flat_len]; omega)]
/-- What stands ahead, taken for the row that is worked on. -/
theorem Rw.again (h : Rw w wr g n P j m) {k : Nat} (hk : k ≤ P.length) : Rw wr wr g n (P.take k) k P := by
  obtain ⟨ys, h1, h2, h3, h4, _, _⟩ := h
  refine ⟨ys, h1, h2, by rw [List.length_take]; omega, fun t ht => ?_, fun t _ ht => h4 t ht, Kept.refl _ _⟩
  rw [List.length_take] at ht
  rw [h4 t (by omega), PSrc.flat_take, List.getElem?_take_of_lt (by omega)]
theorem Rw.again0 (h : Rw w wr g n P j m) : Rw wr wr g n [] 0 P := by
  have := h.again (k := 0) (Nat.zero_le _)
  simpa using this
theorem Rw.rebase {w0 : World} (h : Rw w wr g n P j m) (hk : Kept (fun b => b = g) w0 w) : Rw w0 wr g n P j m := by
  obtain ⟨ys, h1, h2, h3, h4, h5, h6⟩ := h
  exact ⟨ys, h1, h2, h3, h4, h5, hk.trans h6⟩
theorem Rw.fill {k : Nat} (h0 : Rw w wr g n [] 0 m) (hk : k ≤ m.length) (hn : m.length ≤ n) : Rw w wr g n (m.take k) k m := by
  obtain ⟨ys, h1, h2, _, _, h5, h6⟩ := h0
  refine ⟨ys, h1, h2, by rw [List.length_take]; omega, fun t ht => ?_, fun t _ ht => h5 t (by omega) ht, h6⟩
  rw [List.length_take] at ht
  rw [h5 t (by omega) (by omega), PSrc.flat_take, List.getElem?_take_of_lt (by omega)]
/-- The rest of the row, cleared. -/
theorem Rw.clear (h : Rw w wr g n P j m) {f k : Nat} (hP : P.length = f) (hk : f + k ≤ n) : Rw w (wr.setCells g (f * 2) (DelF.zl k)) g n P n [] := by
  obtain ⟨ys, h1, h2, h3, h4, _, h6⟩ := h
  refine ⟨splice ys (f * 2) (DelF.zl k), ?_, ?_, h3, ?_, fun t _ ht => by simp at ht, DelC.kept_setCells h6 (g := g) rfl _⟩
  · rw [DelC.setCells_row h1 (by rw [DelF.zl_len]; omega) (DelF.zl_one _)]
    exact setRow_heap _ _ _ _ _ _ h1
  · rw [length_splice _ _ _ (by rw [DelF.zl_len]; omega), h2]
  · intro t ht
    unfold splice
    rw [List.getElem?_append_left (by rw [List.length_take]; omega), List.getElem?_take_of_lt (by omega)]
    exact h4 t ht
end Go.Proofs.Ytknlackphdcflaa.Rw
