/- The program's reducedOver: the weights that a function gives to the years of an interval, reduced. -/
import Derived.Test.YtfbgekhkbbhggaaRdI
import Derived.Test.YtfbgekhkbbhggaaYr
import Derived.Maps.AppendAt
import Derived.Test.YtfbgekhkbbhggaaQsl
namespace Go.Proofs.Ytfbgekhkbbhggaa.OvI
open Go Go.RowKit Go.Shelf Pairs Rec Keep GivesI DvM DvG DvI Di ShI RdM RdI Yr AppI
attribute [local go_sem] Oper.semAt_some
set_option linter.unusedVariables false
theorem others_below {W W' : World} (h : Below W.heap.size W W') : KeepsOthers W W' :=
  ⟨h.size, fun k o hk _ => (h.block k (Array.getElem?_eq_some_iff.1 hk).1).trans hk⟩
theorem others_grown {W W' : World} {row : Option Nat} (h : W.grownBy W' row) (hr : ∀ k, row = some k → ∃ o : Obj, W.heap[k]? = some o ∧ o.isCells = true) : KeepsOthers W W' :=
  ⟨h.size, fun k o hk hc => (h.block k (Array.getElem?_eq_some_iff.1 hk).1 (fun e => by
    obtain ⟨o', ho, hc'⟩ := hr k e.symm
    rw [hk] at ho
    injection ho with ho
    rw [ho, hc'] at hc
    cases hc)).trans hk⟩
/-- A list that grows, told in a box. -/
structure Rw (V : World) (B e4 : Nat) (p : Option Addr) (d : Nat) (L : List Int) : Prop where
  box : Boxed V e4 41 (.slice p L.length d)
  own : V.ownsRow B 3 1 (.slice p L.length d) L.length (ints L)
  ne : (Value.slice p L.length d).ownBlock ≠ some e4
  n5 : (Value.slice p L.length d).ownBlock ≠ some (e4 + 1)
theorem own_grown {V V' : World} {B n s : Nat} {T : TypeId} {v : Value} {xs : List Value} {row : Option Nat} (h : V.ownsRow B T s v n xs) (hg : V.grownBy V' row) (hne : ∀ k, v.ownBlock = some k → some k ≠ row) : V'.ownsRow B T s v n xs := by
  obtain ⟨h1, h2⟩ := h
  refine ⟨h1, ?_⟩
  rcases h2 with h2 | ⟨g, cap, cur, hv, hb, hh, r⟩
  · exact .inl h2
  · exact .inr ⟨g, cap, cur, hv, hb, (hg.block g (Array.getElem?_eq_some_iff.1 hh).1 (hne g (by rw [hv]; rfl))).trans hh, r⟩
theorem own_cells {V : World} {B n s : Nat} {T : TypeId} {v : Value} {xs : List Value} (h : V.ownsRow B T s v n xs) : ∀ k, v.ownBlock = some k → ∃ o : Obj, V.heap[k]? = some o ∧ o.isCells = true := by
  intro k hk
  rcases h.2 with ⟨hv, _⟩ | ⟨g, cap, cur, hv, _, hh, _⟩
  · subst hv
    cases hk
  · subst hv
    have : g = k := by simpa [Value.ownBlock] using hk
    subst this
    exact ⟨_, hh, rfl⟩
theorem own_cap {V : World} {B n d : Nat} {T : TypeId} {p : Option Addr} {xs : List Value} (h : V.ownsRow B T 1 (.slice p n d) n xs) : n ≤ d := by
  rcases h.2 with ⟨hv, h0⟩ | ⟨g, cap, cur, hv, _, _, hle, _⟩
  · omega
  · injection hv with _ _ h3
    omega
theorem Rw.grown {V V' : World} {B e4 d : Nat} {p : Option Addr} {L : List Int} {row : Option Nat} (h : Rw V B e4 p d L) (hg : V.grownBy V' row) (hr : ∀ r, row = some r → ∃ o : Obj, V.heap[r]? = some o ∧ o.isCells = false) : Rw V' B e4 p d L := by
  refine ⟨h.box.kept hg (fun e => ?_), own_grown h.own hg (fun k hk e => ?_), h.ne, h.n5⟩
  · obtain ⟨o, ho, hc⟩ := hr e4 e.symm
    have := h.box
    unfold Boxed at this
    rw [this] at ho
    injection ho with ho
    rw [← ho] at hc
    cases hc
  · obtain ⟨o, ho, hc⟩ := hr k e.symm
    obtain ⟨o', ho', hc'⟩ := own_cells h.own k hk
    rw [ho] at ho'
    injection ho' with ho'
    rw [ho', hc'] at hc
    cases hc
theorem Rw.below {V V' : World} {B e4 d : Nat} {p : Option Addr} {L : List Int} (h : Rw V B e4 p d L) (b : Below V.heap.size V V') : Rw V' B e4 p d L :=
  ⟨(b.block _ h.box.lt).trans h.box, ownsRow_below h.own b, h.ne, h.n5⟩
theorem new_int (w : World) (x : Value) (t : TypeId) : ∀ j u, [x][j]? = some u → (w.alloc (.cells #[x] t)).cell? ((⟨w.heap.size, 0, none⟩ : Addr).add j) = some u := by
  intro j u hj
  match j, hj with
  | 0, hj =>
    simp at hj
    subst hj
    rw [show ((⟨w.heap.size, 0, none⟩ : Addr).add 0) = ⟨w.heap.size, 0, none⟩ from by rw [Addr.add_lit], World.cell?_alloc_mark]
    rfl
/-- One number more. -/
theorem Rw.app {V : World} {B e4 d : Nat} {p : Option Addr} {L : List Int} (h : Rw V B e4 p d L) (hB : B ≤ V.heap.size) (hl : L.length < 1048576) (h5 : e4 + 1 < V.heap.size) (z : Int) (ty : TypeId) :
    ∃ (g cap : Nat) (V' : World), (Builtin.append_ #[41, 41] ty #[.slice p L.length d, .slice (some ⟨V.heap.size, 0, none⟩) 1 1]).run Try.prog (V.alloc (.cells #[.int .i64 z] 3)) = .ok (.slice (some ⟨g, 0, none⟩) (L.length + 1) cap) V' ∧
      Boxed V' e4 41 (.slice p L.length d) ∧ Rw (V'.setCell ⟨e4, 0, none⟩ (.slice (some ⟨g, 0, none⟩) (L.length + 1) cap)) B e4 (some ⟨g, 0, none⟩) cap (L ++ [z]) ∧
      (V.alloc (.cells #[.int .i64 z] 3)).grownBy V' (Value.slice p L.length d).ownBlock := by
  obtain ⟨i0, hi, hy0, hy1, hy2⟩ := info_parts IntT.infoI
  have ha := h.below (below_alloc V (.cells #[.int .i64 z] 3))
  obtain ⟨g, cap, V', hr, hown, hgrow, hat, hlt⟩ := run_append_lies (P := Try.prog) (V.alloc (.cells #[.int .i64 z] 3)) 41 ty B 3 i0 (.int .i64 0) 1 8 Try.underlying41 hi hy0 hy1 hy2 rfl (by decide) (.slice p L.length d) L.length (ints L) ha.own ⟨V.heap.size, 0, none⟩ 1 1 [.int .i64 z] rfl (new_int V _ _) (by simp [Value.oneCell']) (by omega) (by unfold maxLen; omega) (by omega) (by simp; omega) (V.heap.size + 1) (by simp)
  have hbx : Boxed V' e4 41 (.slice p L.length d) := ha.box.kept hgrow (fun e => h.ne e.symm)
  have hg4 : g ≠ e4 := by
    rcases hat with e | e
    · intro e2
      exact h.ne (by rw [e, e2])
    · have := h.box.lt
      omega
  have hg5 : g ≠ e4 + 1 := by
    rcases hat with e | e
    · intro e2
      exact h.n5 (by rw [e, e2])
    · omega
  refine ⟨g, cap, V', hr, hbx, ⟨?_, ?_, ?_, ?_⟩, hgrow⟩
  · rw [show (L ++ [z]).length = L.length + 1 by simp]
    exact hbx.set _
  · rw [show (L ++ [z]).length = L.length + 1 by simp, show ints (L ++ [z]) = ints L ++ [.int .i64 z] by unfold ints; rw [List.map_append]; rfl]
    exact own_grown hown (grownBy_setCell' V' e4 _) (fun k hk e => by
      have : g = k := by simpa [Value.ownBlock] using hk
      injection e with e
      omega)
  · intro e
    have : g = e4 := by simpa [Value.ownBlock] using e
    omega
  · intro e
    have : g = e4 + 1 := by simpa [Value.ownBlock] using e
    omega
theorem bx_eq' {W W' : World} {g : Nat} {u v : Value} (h : Bx W g u v) (e : W'.heap[g]? = W.heap[g]?) (hs : W.heap.size ≤ W'.heap.size) : Bx W' g u v := by
  refine ⟨?_, ?_, ?_, ?_, Nat.lt_of_lt_of_le h.lt hs⟩
  · unfold World.cell?; rw [e]; exact h.c0
  · unfold World.cell?; rw [e]; exact h.c1
  · unfold World.frozen?; rw [e]; exact h.f0
  · unfold World.frozen?; rw [e]; exact h.f1
theorem resO (T : Array Value) (b : Nat) (u v : Value) (k : Bool) (W : World) (h1 : Bx W b u v) (h4 : T[4]?.getD undef = .pointer (some ⟨b, 0, none⟩)) (h5 : T[5]?.getD undef = .bool k) :
    (results Try.f90 T).run Try.prog W = .ok (.tuple #[.agg #[u, v], .bool k]) W := by
  have c1 := h1.c0
  have c2 := h1.c1
  simp [results, Try.results90, go_sem, h4, h5, c1, c2]
/-- What lies of a round's surroundings. -/
structure En (V : World) (e : Nat) (x t : Int) (fn : FuncId) (bs : Array Value) : Prop where
  iv : V.heap[e]? = some (.cells #[.int .i64 x, .int .i64 t] 86 (0, 0))
  cl : V.heap[e + 1]? = some (.cells #[.func (.func fn) #[] bs] 88 (0, 0))
  rs : Bx V (e + 1 + 1) (.int .i64 0) (.slice none 0 0)
  sz : e + 6 ≤ V.heap.size
theorem bx_grown {W W' : World} {g : Nat} {u v : Value} {row : Option Nat} (h : Bx W g u v) (hg : W.grownBy W' row) (hne : some g ≠ row) : Bx W' g u v := by
  have e := hg.block g h.lt hne
  refine ⟨?_, ?_, ?_, ?_, Nat.lt_of_lt_of_le h.lt hg.size⟩
  · unfold World.cell?; rw [e]; exact h.c0
  · unfold World.cell?; rw [e]; exact h.c1
  · unfold World.frozen?; rw [e]; exact h.f0
  · unfold World.frozen?; rw [e]; exact h.f1
theorem bx_set {V : World} {g : Nat} {u v : Value} (h : Bx V g u v) {p : Addr} (hne : g ≠ p.block) (z : Value) : Bx (V.setCell p z) g u v := by
  have e : (V.setCell p z).heap[g]? = V.heap[g]? := Below.heap_setCell _ _ _ _ hne
  refine ⟨?_, ?_, ?_, ?_, by simpa [World.setCell] using h.lt⟩
  · unfold World.cell?; rw [e]; exact h.c0
  · unfold World.cell?; rw [e]; exact h.c1
  · unfold World.frozen?; rw [e]; exact h.f0
  · unfold World.frozen?; rw [e]; exact h.f1
theorem En.grown {V V' : World} {e : Nat} {x t : Int} {fn : FuncId} {bs : Array Value} {row : Option Nat} (h : En V e x t fn bs) (hg : V.grownBy V' row) (hr : ∀ r, row = some r → e + 3 ≤ r) : En V' e x t fn bs := by
  have hne : ∀ k, k < e + 3 → some k ≠ row := fun k hk q => by have := hr k q.symm; omega
  exact ⟨(hg.block _ (Array.getElem?_eq_some_iff.1 h.iv).1 (hne _ (by omega))).trans h.iv, (hg.block _ (Array.getElem?_eq_some_iff.1 h.cl).1 (hne _ (by omega))).trans h.cl, bx_grown h.rs hg (hne _ (by omega)), Nat.le_trans h.sz hg.size⟩
theorem En.set {V : World} {e : Nat} {x t : Int} {fn : FuncId} {bs : Array Value} (h : En V e x t fn bs) (u : Value) : En (V.setCell ⟨e + 4, 0, none⟩ u) e x t fn bs :=
  ⟨(Below.heap_setCell _ _ _ _ (by show e ≠ e + 4; omega)).trans h.iv, (Below.heap_setCell _ _ _ _ (by show e + 1 ≠ e + 4; omega)).trans h.cl, bx_set h.rs (by show e + 1 + 1 ≠ e + 4; omega) u, by simpa [World.setCell] using h.sz⟩
theorem En.below {V V' : World} {e : Nat} {x t : Int} {fn : FuncId} {bs : Array Value} (h : En V e x t fn bs) (b : Below V.heap.size V V') : En V' e x t fn bs :=
  ⟨(b.block _ (Array.getElem?_eq_some_iff.1 h.iv).1).trans h.iv, (b.block _ (Array.getElem?_eq_some_iff.1 h.cl).1).trans h.cl, h.rs.below b, Nat.le_trans h.sz b.size⟩
theorem five (w : World) (o1 o2 o3 o4 o5 : Obj) : (((((w.alloc o1).alloc o2).alloc o3).alloc o4).alloc o5).heap.size = w.heap.size + 5 ∧ (((((w.alloc o1).alloc o2).alloc o3).alloc o4).alloc o5).heap[w.heap.size]? = some o1 ∧
    (((((w.alloc o1).alloc o2).alloc o3).alloc o4).alloc o5).heap[w.heap.size + 1]? = some o2 ∧ (((((w.alloc o1).alloc o2).alloc o3).alloc o4).alloc o5).heap[w.heap.size + 2]? = some o3 ∧
    (((((w.alloc o1).alloc o2).alloc o3).alloc o4).alloc o5).heap[w.heap.size + 3]? = some o4 ∧ (((((w.alloc o1).alloc o2).alloc o3).alloc o4).alloc o5).heap[w.heap.size + 4]? = some o5 ∧ Below w.heap.size w (((((w.alloc o1).alloc o2).alloc o3).alloc o4).alloc o5) := by
  have e : ∀ (w : World) (o : Obj), (w.alloc o).heap = w.heap.push o := fun _ _ => rfl
  refine ⟨by simp only [e]; simp, ?_, ?_, ?_, ?_, ?_, ?_⟩
  · simp only [e, Array.getElem?_push, Array.size_push]
    rw [if_neg (by omega), if_neg (by omega), if_neg (by omega), if_neg (by omega), if_pos trivial]
  · simp only [e, Array.getElem?_push, Array.size_push]
    rw [if_neg (by omega), if_neg (by omega), if_neg (by omega), if_pos trivial]
  · simp only [e, Array.getElem?_push, Array.size_push]
    rw [if_neg (by omega), if_neg (by omega), if_pos trivial]
  · simp only [e, Array.getElem?_push, Array.size_push]
    rw [if_neg (by omega), if_pos trivial]
  · simp only [e, Array.getElem?_push, Array.size_push]
    rw [if_pos trivial]
  · exact ((((below_alloc w o1).alloc (by simp) o2).alloc (by simp; omega) o3).alloc (by simp; omega) o4).alloc (by simp; omega) o5
theorem yearsOf_b (f t : Int) (w : World) :
    Calls Try.prog 92 #[.agg #[.int .i64 f, .int .i64 t]] w fun e w' => e = .returned (.func (.func 120) #[] #[.pointer (some ⟨w.heap.size, 0, none⟩)]) ∧ Below w.heap.size w w' ∧ w'.cell? ⟨w.heap.size, 0, none⟩ = some (.int .i64 f) ∧ w'.cell? ⟨w.heap.size, 1, none⟩ = some (.int .i64 t) :=
  (yearsOf_any f t w).mono fun e w' ⟨he, hw⟩ => ⟨he, by rw [hw]; exact below_alloc w _, by rw [hw]; exact box_first _ _ _ _, by rw [hw]; exact box_second _ _ _ _⟩
structure Cq (e : Nat) (v1 v2 : Value) where
  u : World
  h1 : u.cell? ⟨e + 1, 0, none⟩ = some v1
  h2 : u.cell? ⟨e + 1 + 1 + 1 + 1, 0, none⟩ = some v2
theorem rowH_app {P : Program} {ops : Array Oper} {S : World → Prop} {l n : Nat} {Q : Exit → Act → World → Prop} {o : Oper} {rest : List Oper} {a : Act} {w w9 : World} {v1 v2 v9 : Value} (hgd : o.guard = none) (s x : Operand) (t : TypeId)
    (ho : o.op = .call { callee := .builtin .append, args := #[s, x], argTypes := #[t, t] }) (hs : a.eval s = v1) (hx : a.eval x = v2) (hr : (Builtin.append_ #[t, t] o.type #[v1, v2]).run P w = .ok v9 w9)
    (h : (rest ≠ [] → S w9) ∧ Qsl.rowH P ops Q S l n rest (a.put o.dst v9) w9) : Qsl.rowH P ops Q S l n (o :: rest) a w := by
  have hw : Region.wanted o (yielded ops a.tmps) = true := by simp [Region.wanted, hgd]
  unfold Qsl.rowH
  rw [if_pos hw]
  refine ⟨fun _ _ => trivial, ?_⟩
  rw [Oper.semAt_eq _ _ _ (fun c => by rw [ho]; intro e; cases e)]
  unfold execOp
  simp only [ho, resolve, invoke, builtin, Sem.run_bind, Sem.run_pure, Result.andThen_ok, List.map_toArray, List.map_cons, List.map_nil, hs, hx, hr]
  exact h
set_option maxRecDepth 100000 in
set_option maxHeartbeats 8000000 in
theorem over_any (fn : FuncId) (bs : Array Value) (g : Int → Int) (x t : Int) (w : World) (hx : -100000 ≤ x ∧ x ≤ 100000) (ht : -100000 ≤ t ∧ t ≤ 100000) (hg : ∀ y, 0 ≤ g y ∧ g y ≤ 4611686018427387904)
    (hcall : ∀ (args : Array Value) (W : World), (callFunc fn args).run Try.prog W = .ok (.enter fn args) W)
    (hf : ∀ y wr, x ≤ y → y ≤ t → Below w.heap.size w wr → Calls Try.prog fn (#[.int .i64 y] ++ bs) wr fun e w' => e = .returned (.int .i64 (g y)) ∧ Below wr.heap.size wr w') :
    Calls Try.prog 90 #[.agg #[.int .i64 x, .int .i64 t], .func (.func fn) #[] bs] w (ResZ (red x ((yrs x t).map g)).isSome ((red x ((yrs x t).map g)).getD (0, [])).1 ((red x ((yrs x t).map g)).getD (0, [])).2 w) := by
  have HF := Lib.hid hf
  have HC := Lib.hid hcall
  have HG := Lib.hid hg
  clear hf hcall hg
  obtain ⟨hs, k0, k1, k2, k3, k4, hb0⟩ := five w (.cells #[.int .i64 x, .int .i64 t] 86) (.cells #[.func (.func fn) #[] bs] 88) (.cells #[.int .i64 0, .slice none 0 0] 50) (.cells #[] 3) (.cells #[.slice (some ⟨w.heap.size + 1 + 1 + 1, 0, none⟩) 0 0] 41)
  have f0 : (((((w.alloc (.cells #[.int .i64 x, .int .i64 t] 86)).alloc (.cells #[.func (.func fn) #[] bs] 88)).alloc (.cells #[.int .i64 0, .slice none 0 0] 50)).alloc (.cells #[] 3)).alloc (.cells #[.slice (some ⟨w.heap.size + 1 + 1 + 1, 0, none⟩) 0 0] 41)).cell? ⟨w.heap.size, 0, none⟩ = some (.int .i64 x) := by unfold World.cell?; rw [k0]; rfl
  have f1 : (((((w.alloc (.cells #[.int .i64 x, .int .i64 t] 86)).alloc (.cells #[.func (.func fn) #[] bs] 88)).alloc (.cells #[.int .i64 0, .slice none 0 0] 50)).alloc (.cells #[] 3)).alloc (.cells #[.slice (some ⟨w.heap.size + 1 + 1 + 1, 0, none⟩) 0 0] 41)).cell? ⟨w.heap.size, 1, none⟩ = some (.int .i64 t) := by unfold World.cell?; rw [k0]; rfl
  refine (callsIn_wide (n := 8)).1 ?_
  refine callsIn_of_wp_marks Try.func90 rfl trivial ?_ rfl
  simp only [Try.ntmps90, List.size_toArray, List.length_cons, List.length_nil, Nat.reduceAdd, Nat.reduceSub, Array.replicate_succ, Array.replicate_zero, List.push_toArray, List.append_toArray, List.nil_append, List.cons_append]
  gi_wp2
  refine ⟨trivial, ?_⟩
  refine (callsIn_wide.2 (yearsOf_b x t _)).mono ?_
  rintro e w1 ⟨rfl, b1, y0, y1⟩
  rw [hs] at y0 y1
  generalize ((((w.alloc (.cells #[.int .i64 x, .int .i64 t] 86)).alloc (.cells #[.func (.func fn) #[] bs] 88)).alloc (.cells #[.int .i64 0, .slice none 0 0] 50)).alloc (.cells #[] 3)).alloc (.cells #[.slice (some ⟨w.heap.size + 1 + 1 + 1, 0, none⟩) 0 0] 41) = W5 at *
  have hz1 : w.heap.size + 6 ≤ w1.heap.size := World.block_lt_of_cell? w1 _ y0
  have HEN : Hid (En w1 w.heap.size x t fn bs) := by
    refine ⟨(b1.block _ (by omega)).trans k0, (b1.block _ (by omega)).trans k1, ?_, hz1⟩
    have e := (b1.block _ (by omega)).trans k2
    refine ⟨?_, ?_, ?_, ?_, by omega⟩
    · unfold World.cell?; rw [e]; rfl
    · unfold World.cell?; rw [e]; rfl
    · unfold World.frozen?; rw [e]; rfl
    · unfold World.frozen?; rw [e]; rfl
  have HRW : Hid (Rw w1 (w.heap.size + 3) (w.heap.size + 4) (some ⟨w.heap.size + 3, 0, none⟩) 0 []) :=
    ⟨(b1.block _ (by omega)).trans k4, ⟨rfl, .inr ⟨w.heap.size + 3, 0, #[], rfl, Nat.le_refl _, (b1.block _ (by omega)).trans k3, Nat.le_refl _, by unfold maxLen; omega, rfl, rfl⟩⟩, by simp [Value.ownBlock], by simp [Value.ownBlock]⟩
  have HB := Lib.hid (hb0.trans (b1.mono hb0.size))
  have S6 := Lib.hid hz1
  have HS5 := Lib.hid hs
  clear k0 k1 k2 k3 k4 f0 f1 hb0 b1 hs
  gi_wp2
  refine wpIn_rangeFunc_ownF (α := Yx x t) rfl (by decide) (gf := 120) (lb := #[.pointer (some ⟨w.heap.size + 5, 0, none⟩)]) ?_ trivial (enters_of Try.func120 (by kernel_rfl) rfl)
    (yr_stops 7 (by omega) x t (by omega) (by omega) (w.heap.size + 5) w1 y0 y1) (fun h k => h.trans k) (fun W l0 o o' hl ho hc _ => kpC_b W l0 o o' hl (by omega)) (Below.refl _ _) (fun _ => rfl)
    (fun pre V => En V w.heap.size x t fn bs ∧ (∃ p d, Rw V (w.heap.size + 3) (w.heap.size + 4) p d ((pre.map (·.1)).map g)) ∧ Below w.heap.size w V)
    (fun _ _ _ => False)
    ?own (fun _ _ _ _ _ hs _ _ => hs) ⟨HEN.out, ⟨_, _, HRW.out⟩, HB.out⟩ ?a1 ?assign ?body ?done ?stop
  · show Value.func (.func 120) #[] #[.pointer (some ⟨W5.heap.size, 0, none⟩)] = _
    rw [HS5.out]
  case own =>
    intro pre V V' row hs' hgw hr
    obtain ⟨h1, ⟨p, d, h2⟩, h3⟩ := hs'
    exact ⟨h1.grown hgw (fun r e => by have := (hr r e).1; have := S6.out; omega), ⟨p, d, h2.grown hgw (fun r e => (hr r e).2)⟩, h3.grown hgw h3.size (fun k hk => by have := (hr k hk).1; have := S6.out; omega)⟩
  case assign =>
    intro l0 y V K hK
    gi_wp2
    exact hK
  case stop =>
    rintro D c pre V _ _ h _
    exact h.elim
  case body =>
    rintro l0 pre ⟨y, hy⟩ V ⟨hen, ⟨p, d, hrw⟩, hbel⟩ hlen
    have hyb := yrs_mem.1 hy
    rw [yrs_len] at hlen
    have hll : ((pre.map (·.1)).map g).length < 1048576 := by rw [List.length_map, List.length_map]; omega
    obtain ⟨L, hL⟩ : ∃ L, L = (pre.map (·.1)).map g := ⟨_, rfl⟩
    rw [← hL] at hrw hll
    have HL := Lib.hid (show ((pre ++ [(⟨y, hy⟩ : Yx x t)]).map (·.1)).map g = L ++ [g y] by rw [hL]; simp)
    clear hL
    have hbd : Below V.heap.size V V.drew := (Below.refl V.heap.size V).drew
    have HCA := Lib.hid (HF.out y V.drew hyb.1 hyb.2 (hbel.trans (hbd.mono hbel.size)))
    have c3 : V.cell? ⟨w.heap.size + 1, 0, none⟩ = some (.func (.func fn) #[] bs) := by unfold World.cell?; rw [hen.cl]; rfl
    have c6 : V.cell? ⟨w.heap.size + 1 + 1 + 1 + 1, 0, none⟩ = some (.slice p L.length d) := hrw.box.cell
    have HI := Lib.hid (And.intro hen (And.intro hrw hbel))
    have HBD := Lib.hid hbd
    have HLL := Lib.hid hll
    have hmx : Try.prog.follows .mixedOrders = true := by kernel_rfl
    clear hen hrw hbel hbd hll
    have k1 : ∀ q : Cq w.heap.size (.func (.func fn) #[] bs) (.slice p L.length d), q.u.cell? ⟨w.heap.size + 1, 0, none⟩ = some (.func (.func fn) #[] bs) := fun q => q.h1
    have k2 : ∀ q : Cq w.heap.size (.func (.func fn) #[] bs) (.slice p L.length d), q.u.cell? ⟨w.heap.size + 1 + 1 + 1 + 1, 0, none⟩ = some (.slice p L.length d) := fun q => q.h2
    haveI hne : Nonempty (Cq w.heap.size (.func (.func fn) #[] bs) (.slice p L.length d)) := ⟨⟨V.drew, c3, c6⟩⟩
    gi_wp2
    refine Qsl.region_held (l := l0) 3 (fun w' => ∃ q : Cq w.heap.size (.func (.func fn) #[] bs) (.slice p L.length d), w' = q.u) (by kernel_rfl) (by kernel_rfl) (fun _ _ _ _ h => h) ⟨⟨V.drew, c3, c6⟩, rfl⟩ ?_
    simp only [List.take_succ_cons, List.take_zero, List.drop_succ_cons, List.drop_zero]
    repeat (go_big_quiet_step (fail))
    refine wpQuiet_nil ?_
    clear k1 k2
    refine Qsl.rowH_step (by rfl) ?_
    gi_wp2
    refine ⟨trivial, ?_⟩
    rw [HC.out]
    refine ⟨(fun h => by cases h), ?_⟩
    refine (CallsIn.inRound l0 (callsIn_wide.2 HCA.out)).mono ?_
    rintro e V2 ⟨rfl, b2⟩
    have b02 : Below V.heap.size V V2 := HBD.out.trans (b2.mono HBD.out.size)
    have r2 := HI.out.2.1.below b02
    have n2 := HI.out.1.below b02
    have d3 : V2.cell? ⟨w.heap.size + 1, 0, none⟩ = some (.func (.func fn) #[] bs) := by unfold World.cell?; rw [n2.cl]; rfl
    have r2c := r2.box.cell
    have R2 := Lib.hid r2
    have N2 := Lib.hid n2
    have B02 := Lib.hid b02
    clear r2 n2 b02 b2
    gi_wp2
    refine ⟨fun _ => ⟨⟨V2, d3, r2c⟩, rfl⟩, ?_⟩
    have r2 := R2.out
    have n2 := N2.out
    have b02 := B02.out
    refine Qsl.rowH_step (by rfl) ?_
    gi_wp2
    have ba := below_alloc V2 (.cells #[.int .i64 (g y)] 3)
    have n3 := n2.below ba
    have d3a : (V2.alloc (.cells #[.int .i64 (g y)] 3)).cell? ⟨w.heap.size + 1, 0, none⟩ = some (.func (.func fn) #[] bs) := by unfold World.cell?; rw [n3.cl]; rfl
    refine ⟨fun _ => ⟨⟨V2.alloc (.cells #[.int .i64 (g y)] 3), d3a, (r2.below ba).box.cell⟩, rfl⟩, ?_⟩
    have hsz2 : w.heap.size + 3 ≤ V2.heap.size := by have h1 := n2.sz; omega
    obtain ⟨g9, cap9, V9, hr9, hb9, hrw9, hgrow9⟩ := r2.app hsz2 HLL.out (by have h1 := n2.sz; omega) (g y) 41
    have hob := fun k hk => (own_bd r2.own k hk).1
    have n9 := n3.grown hgrow9 hob
    have d9 : V9.cell? ⟨w.heap.size + 1, 0, none⟩ = some (.func (.func fn) #[] bs) := by unfold World.cell?; rw [n9.cl]; rfl
    refine rowH_app rfl _ _ 41 rfl rfl rfl hr9 ⟨fun _ => ⟨⟨V9, d9, hb9.cell⟩, rfl⟩, ?_⟩
    have e6 : V9.cell? ⟨w.heap.size + 1 + 1 + 1 + 1, 0, none⟩ = some (.slice p L.length d) := hb9.cell
    have e7 : V9.frozen? ⟨w.heap.size + 1 + 1 + 1 + 1, 0, none⟩ = false := hb9.frozen
    have hbel9 : Below w.heap.size w V9 := (HI.out.2.2.trans ((b02.trans (ba.mono b02.size)).mono HI.out.2.2.size)).grown hgrow9 (by have h1 := HI.out.2.2.size; have h2 := b02.size; simp; omega) (fun k hk => by have := hob k hk; omega)
    have HZ := Lib.hid (And.intro n9 (And.intro hrw9 (And.intro hbel9 (And.intro hgrow9 (And.intro b02 ba)))))
    have HOB := Lib.hid hob
    clear n9 hrw9 hbel9 hgrow9 b02 ba n3 d3a n2 d3 r2 hr9 hb9 hob d9
    refine Qsl.rowH_step (by rfl) ?_
    gi_wp2
    refine ⟨fun h => absurd rfl h, ?_⟩
    refine Qsl.rowH_nil ?_
    gi_wp2
    obtain ⟨n9, hrw9, hbel9, hgrow9, b02, ba⟩ := HZ.out
    have h1 := HI.out.1.sz
    have h2 := b02.size
    have hne5 : (Value.slice p L.length d).ownBlock ≠ some (w.heap.size + 5) := HI.out.2.1.n5
    have hsz2 : (V2.alloc (.cells #[.int .i64 (g y)] 3)).heap.size = V2.heap.size + 1 := by simp
    have HSZ : V.heap.size ≤ (V9.setCell ⟨w.heap.size + 1 + 1 + 1 + 1, 0, none⟩ (.slice (some ⟨g9, 0, none⟩) (L.length + 1) cap9)).heap.size := by
      have h3 := hgrow9.size
      have h4 : (V9.setCell ⟨w.heap.size + 1 + 1 + 1 + 1, 0, none⟩ (.slice (some ⟨g9, 0, none⟩) (L.length + 1) cap9)).heap.size = V9.heap.size := by simp [World.setCell]
      omega
    refine ⟨(((others_below b02).trans (others_below ba)).trans (others_grown hgrow9 fun k hk => own_cells ((HI.out.2.1.below b02).below ba).own k hk)).trans (KeepsOthers.setCell _ _ _), ⟨HSZ, ?_⟩, ?_⟩
    · refine (Below.heap_setCell _ _ _ _ (by show w.heap.size + 5 ≠ w.heap.size + 4; omega)).trans ?_
      refine (hgrow9.block _ (by omega) (fun e => hne5 e.symm)).trans ?_
      exact (ba.block _ (by omega)).trans (b02.block _ (by omega))
    · refine ⟨n9.set _, ⟨_, _, by rw [HL.out]; exact hrw9⟩, hbel9.setCell (p := ⟨w.heap.size + 4, 0, none⟩) (by show w.heap.size ≤ w.heap.size + 4; omega) _⟩
  case done =>
    rintro D xs V hD hS ⟨hen, ⟨p, d, hrw⟩, hbel⟩ hK
    rw [hS] at hrw
    obtain ⟨L, hL⟩ : ∃ L, L = (yrs x t).map g := ⟨_, rfl⟩
    rw [← hL] at hrw
    have hll : L.length ≤ 1048576 := by rw [hL, List.length_map, yrs_len]; omega
    have hcap := own_cap hrw.own
    have c2 : V.cell? ⟨w.heap.size, 0, none⟩ = some (.int .i64 x) := by unfold World.cell?; rw [hen.iv]; rfl
    have c6 : V.cell? ⟨w.heap.size + 1 + 1 + 1 + 1, 0, none⟩ = some (.slice p L.length d) := hrw.box.cell
    have HI := Lib.hid (And.intro hen (And.intro hrw (And.intro hbel (And.intro hK hD))))
    have HM := Lib.hid hL
    clear hen hrw hbel hK hL hS hD
    have HPB := Lib.hid (show ∀ z ∈ L, 0 ≤ z ∧ z ≤ 4611686018427387904 by
      intro z hz
      rw [HM.out] at hz
      obtain ⟨y, _, rfl⟩ := List.mem_map.1 hz
      exact HG.out y)
    gi_wp2
    refine ⟨trivial, ?_⟩
    refine (callsIn_wide.2 (reduced_any x p L.length d L V hll (by omega) hcap (holds_own HI.out.2.1.own) HPB.out)).mono ?_
    rintro e V2 ⟨p2, k2, d2, rfl, o2, hk2, b2⟩
    have r2 := HI.out.1.rs.below b2
    have y0 := r2.c0
    have y1 := r2.c1
    have y2 := r2.f0
    have y3 := r2.f1
    have HR := Lib.hid (And.intro r2 (And.intro o2 b2))
    have HK2 := Lib.hid hk2
    clear r2 o2 b2 hk2
    have HNM := Lib.hid (show (red x L).isSome = (red x ((yrs x t).map g)).isSome ∧ (red x L).getD (0, []) = (red x ((yrs x t).map g)).getD (0, []) by rw [← HM.out]; exact ⟨rfl, rfl⟩)
    obtain ⟨zz, hzz⟩ : ∃ zz, zz = ((red x L).getD (0, [])).1 := ⟨_, rfl⟩
    obtain ⟨bb, hbb⟩ : ∃ bb, bb = (red x L).isSome := ⟨_, rfl⟩
    rw [← hzz, ← hbb]
    have HZZ := Lib.hid hzz
    have HBB := Lib.hid hbb
    clear hzz hbb
    gi_wp2
    obtain ⟨r2, o2, b2⟩ := HR.out
    obtain ⟨hen, hrw, hbel, hK, hD⟩ := HI.out
    have hz := HI.out.1.sz
    have hDz : w.heap.size + 6 ≤ D := by have h2 := S6.out; omega
    have hDV : D < V.heap.size := (Array.getElem?_eq_some_iff.1 hK).1
    have hK4 : ((V2.setCell ⟨w.heap.size + 1 + 1, 0, none⟩ (.int .i64 zz)).setCell ⟨w.heap.size + 1 + 1, 1, none⟩ (.slice p2 k2 d2)).heap[D]? = some (.deferred (some [])) :=
      (Below.heap_setCell _ _ _ _ (by show D ≠ w.heap.size + 1 + 1; omega)).trans ((Below.heap_setCell _ _ _ _ (by show D ≠ w.heap.size + 1 + 1; omega)).trans ((b2.block _ hDV).trans hK))
    have hBx := bx_put r2 (.int .i64 zz) (.slice p2 k2 d2)
    have O2 := ownsRow_setCell_below (ownsRow_setCell_below o2 (a := ⟨w.heap.size + 1 + 1, 0, none⟩) (by show w.heap.size + 1 + 1 < _; omega) (.int .i64 zz)) (a := ⟨w.heap.size + 1 + 1, 1, none⟩) (by show w.heap.size + 1 + 1 < _; omega) (.slice p2 k2 d2)
    have hbb : Below w.heap.size w ((V2.setCell ⟨w.heap.size + 1 + 1, 0, none⟩ (.int .i64 zz)).setCell ⟨w.heap.size + 1 + 1, 1, none⟩ (.slice p2 k2 d2)) :=
      ((hbel.trans (b2.mono hbel.size)).setCell (p := ⟨w.heap.size + 1 + 1, 0, none⟩) (by show w.heap.size ≤ w.heap.size + 1 + 1; omega) _).setCell (p := ⟨w.heap.size + 1 + 1, 1, none⟩) (by show w.heap.size ≤ w.heap.size + 1 + 1; omega) _
    refine ⟨by simp, .inl ⟨_, _, rfl, run_takeDeferred hK4, ?_⟩⟩
    have hB5 := bx_eq' hBx (W' := (((V2.setCell ⟨w.heap.size + 1 + 1, 0, none⟩ (.int .i64 zz)).setCell ⟨w.heap.size + 1 + 1, 1, none⟩ (.slice p2 k2 d2)).putObj D (.deferred none))) (World.putObj_heap_other (by omega)) (by simp)
    refine ⟨_, resO _ (w.heap.size + 2) (.int .i64 zz) (.slice p2 k2 d2) bb _ hB5 rfl rfl, ?_⟩
    refine ⟨p2, k2, d2, by rw [HZZ.out, HBB.out, HNM.out.1, HNM.out.2], ?_, HK2.out, hbb.trans (belowK_b (w := w) (Nat.le_refl _) _ D _ _ (by omega) hK4 rfl rfl)⟩
    rw [← HNM.out.2]
    exact ownsRow_base (ownsRow_putObj O2 _ hK4 rfl) (by omega)
end Go.Proofs.Ytfbgekhkbbhggaa.OvI
