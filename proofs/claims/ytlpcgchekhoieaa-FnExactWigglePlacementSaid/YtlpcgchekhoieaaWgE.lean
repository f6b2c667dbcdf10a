/- WigglePlacement: what lies about its walk. -/
import Derived.Test.YtlpcgchekhoieaaWgD
import Derived.Test.YtlpcgchekhoieaaYwI
namespace Go.Proofs.Ytlpcgchekhoieaa.WgE
open Go Go.RowKit Go.Shelf Pairs Rec Keep GivesI Cu CvM CvI PtM Sw Di ShI RdM Yr OvI YwI WgM WgD Qsp
attribute [local go_sem] Oper.semAt_some
set_option linter.unusedVariables false
def Says (f : FuncId) : Prop := ∀ (a : Option Addr) (n : Nat) (L : List Dt) (am : Option Addr) (nm : Nat) (ms : List (Int × Int)) (ag : Option Addr) (ng : Nat) (gs : List Int) (w : World), n ≤ 1048576 → HoldsD w a n L → nm ≤ 1048576 → Holds w am nm ms → ng ≤ 1048576 → HoldsI w ag ng gs →
  Calls Try.prog f #[.slice a n n, .slice am nm nm, .slice ag ng ng] w (ResZ (wgP L ms gs).isSome ((wgP L ms gs).getD (0, [])).1 ((wgP L ms gs).getD (0, [])).2 w)
theorem resW (T : Array Value) (b c : Nat) (u v : Value) (k : Bool) (W : World) (h1 : Bx W b u v) (h2 : W.cell? ⟨c, 0, none⟩ = some (.bool k)) (h6 : T[6]?.getD undef = .pointer (some ⟨b, 0, none⟩)) (h7 : T[7]?.getD undef = .pointer (some ⟨c, 0, none⟩)) :
    (results Try.f48 T).run Try.prog W = .ok (.tuple #[.agg #[u, v], .bool k]) W := by
  have c1 := h1.c0
  have c2 := h1.c1
  simp [results, Try.results48, go_sem, h6, h7, c1, c2, h2]
structure EnW (V : World) (e : Nat) (s1 s2 : Value) : Prop where
  c0 : V.heap[e]? = some (.cells #[s1] 25 (0, 0))
  c1 : V.heap[e + 1]? = some (.cells #[s2] 54 (0, 0))
  rs : Bx V (e + 2) (.int .i64 0) (.slice none 0 0)
  rb : Boxed V (e + 3) 4 (.bool false)
theorem EnW.sz {V : World} {e : Nat} {s1 s2 : Value} (h : EnW V e s1 s2) : e + 4 ≤ V.heap.size := h.rb.lt
theorem EnW.below {V V' : World} {e : Nat} {s1 s2 : Value} (h : EnW V e s1 s2) (b : Below V.heap.size V V') : EnW V' e s1 s2 := by
  have hs := h.sz
  exact ⟨(b.block _ (by omega)).trans h.c0, (b.block _ (by omega)).trans h.c1, h.rs.below b, (b.block _ (by omega)).trans h.rb⟩
theorem EnW.grown {V V' : World} {e : Nat} {s1 s2 : Value} {row : Option Nat} (h : EnW V e s1 s2) (hg : V.grownBy V' row) (hr : ∀ r, row = some r → e + 4 ≤ r) : EnW V' e s1 s2 := by
  have hs := h.sz
  have hne : ∀ k, k < e + 4 → some k ≠ row := fun k hk e2 => by have := hr k e2.symm; omega
  exact ⟨(hg.block _ (by omega) (hne _ (by omega))).trans h.c0, (hg.block _ (by omega) (hne _ (by omega))).trans h.c1, bx_grown h.rs hg (hne _ (by omega)), h.rb.kept hg (hne _ (by omega))⟩
theorem EnW.set {V : World} {e : Nat} {s1 s2 : Value} (h : EnW V e s1 s2) {g : Nat} (hg : e + 4 ≤ g) (u : Value) : EnW (V.setCell ⟨g, 0, none⟩ u) e s1 s2 :=
  ⟨(Below.heap_setCell _ _ _ _ (by show e ≠ g; omega)).trans h.c0, (Below.heap_setCell _ _ _ _ (by show e + 1 ≠ g; omega)).trans h.c1, bx_set h.rs (by show e + 2 ≠ g; omega) u, (Below.heap_setCell _ _ _ _ (by show e + 3 ≠ g; omega)).trans h.rb⟩
theorem six_grown {V V' : World} {g : Nat} {f : Nat → Int} {row : Option Nat} (h : Six V g f) (hg : V.grownBy V' row) (hne : some g ≠ row) : Six V' g f := by
  have e := hg.block g h.lt hne
  refine ⟨fun i hi => ?_, fun i hi => ?_, Nat.lt_of_lt_of_le h.lt hg.size⟩
  · exact (World.cell?_of_block (w := V) (w' := V') (a := ⟨g, i, none⟩) e).trans (h.c i hi)
  · unfold World.frozen?
    have := h.fz i hi
    unfold World.frozen? at this
    rw [e]
    exact this
/-- The weights of the years so far. -/
def pl (L : List Dt) (ms : List (Int × Int)) (gs : List Int) {x t : Int} (pre : List (Yx x t)) : List Int := (pre.map (·.1)).map (pwt L ms gs)
def Fi (L : List Dt) (ms : List (Int × Int)) (gs : List Int) {x t : Int} (pre : List (Yx x t)) : Prop := ∀ y ∈ pre.map (·.1), fine L ms gs y = true
theorem pl_app (L : List Dt) (ms : List (Int × Int)) (gs : List Int) {x t : Int} (pre : List (Yx x t)) (y : Yx x t) : pl L ms gs (pre ++ [y]) = pl L ms gs pre ++ [pwt L ms gs y.1] := by
  unfold pl
  rw [List.map_append, List.map_append]
  rfl
theorem pl_done {L : List Dt} {ms : List (Int × Int)} {gs : List Int} {x t : Int} {xs : List (Yx x t)} (h : xs.map (·.1) = yrs x t) : pl L ms gs xs = (yrs x t).map (pwt L ms gs) := by unfold pl; rw [h]
theorem fi_done {L : List Dt} {ms : List (Int × Int)} {gs : List Int} {x t : Int} {xs : List (Yx x t)} (h : xs.map (·.1) = yrs x t) (hf : Fi L ms gs xs) : ∀ y ∈ yrs x t, fine L ms gs y = true := by intro y hy; rw [← h] at hy; exact hf y hy
theorem pl_len (L : List Dt) (ms : List (Int × Int)) (gs : List Int) {x t : Int} (pre : List (Yx x t)) : (pl L ms gs pre).length = pre.length := by unfold pl; rw [List.length_map, List.length_map]
theorem fi_app {L : List Dt} {ms : List (Int × Int)} {gs : List Int} {x t : Int} {pre : List (Yx x t)} {y : Yx x t} (h : Fi L ms gs pre) (hy : fine L ms gs y.1 = true) : Fi L ms gs (pre ++ [y]) := by
  intro z hz
  rw [List.map_append] at hz
  rcases List.mem_append.1 hz with hz | hz
  · exact h z hz
  · obtain rfl : z = y.1 := by simpa using hz
    exact hy
theorem two1 (w : World) (s1 s2 : Value) :
    EnW ((((w.alloc (.cells #[s1] 25)).alloc (.cells #[s2] 54)).alloc (.cells #[.int .i64 0, .slice none 0 0] 42)).alloc (.cells #[.bool false] 4)) w.heap.size s1 s2 ∧
    Below w.heap.size w ((((w.alloc (.cells #[s1] 25)).alloc (.cells #[s2] 54)).alloc (.cells #[.int .i64 0, .slice none 0 0] 42)).alloc (.cells #[.bool false] 4)) := by
  obtain ⟨hs, k0, k1, k2, k3, k4, hb⟩ := five w (.cells #[s1] 25) (.cells #[s2] 54) (.cells #[.int .i64 0, .slice none 0 0] 42) (.cells #[.bool false] 4) (.cells #[] 3)
  have e : ∀ (w : World) (o : Obj), (w.alloc o).heap = w.heap.push o := fun _ _ => rfl
  have hs4 : ((((w.alloc (.cells #[s1] 25)).alloc (.cells #[s2] 54)).alloc (.cells #[.int .i64 0, .slice none 0 0] 42)).alloc (.cells #[.bool false] 4)).heap.size = w.heap.size + 4 := by simp
  have hb5 := below_alloc ((((w.alloc (.cells #[s1] 25)).alloc (.cells #[s2] 54)).alloc (.cells #[.int .i64 0, .slice none 0 0] 42)).alloc (.cells #[.bool false] 4)) (.cells #[] 3)
  have q0 := (hb5.block w.heap.size (by omega)).symm.trans k0
  have q1 := (hb5.block (w.heap.size + 1) (by omega)).symm.trans k1
  have q2 := (hb5.block (w.heap.size + 2) (by omega)).symm.trans k2
  have q3 := (hb5.block (w.heap.size + 3) (by omega)).symm.trans k3
  refine ⟨⟨q0, q1, ⟨?_, ?_, ?_, ?_, by omega⟩, q3⟩, (below_alloc3 _ _ _ _).alloc (by simp; omega) _⟩
  · unfold World.cell?; rw [q2]; rfl
  · unfold World.cell?; rw [q2]; rfl
  · unfold World.frozen?; rw [q2]; rfl
  · unfold World.frozen?; rw [q2]; rfl
theorem below_res {n₀ : Nat} {w W : World} {e : Nat} {u v b : Value} (h : Below n₀ w W) (he : n₀ ≤ e) : Below n₀ w (((W.setCell ⟨e + 2, 0, none⟩ u).setCell ⟨e + 2, 1, none⟩ v).setCell ⟨e + 3, 0, none⟩ b) :=
  ((h.setCell (p := ⟨e + 2, 0, none⟩) (by show n₀ ≤ e + 2; omega) _).setCell (p := ⟨e + 2, 1, none⟩) (by show n₀ ≤ e + 2; omega) _).setCell (p := ⟨e + 3, 0, none⟩) (by show n₀ ≤ e + 3; omega) _
/-- The results, stored. -/
theorem res_put {W : World} {e : Nat} (hb : Bx W (e + 2) (.int .i64 0) (.slice none 0 0)) (hk : Boxed W (e + 3) 4 (.bool false)) (u v : Value) (k : Bool) :
    Bx (((W.setCell ⟨e + 2, 0, none⟩ u).setCell ⟨e + 2, 1, none⟩ v).setCell ⟨e + 3, 0, none⟩ (.bool k)) (e + 2) u v ∧ Boxed (((W.setCell ⟨e + 2, 0, none⟩ u).setCell ⟨e + 2, 1, none⟩ v).setCell ⟨e + 3, 0, none⟩ (.bool k)) (e + 3) 4 (.bool k) := by
  have h1 := bx_put hb u v
  have h2 : Boxed ((W.setCell ⟨e + 2, 0, none⟩ u).setCell ⟨e + 2, 1, none⟩ v) (e + 3) 4 (.bool false) := (Below.heap_setCell _ _ _ _ (by show e + 3 ≠ e + 2; omega)).trans ((Below.heap_setCell _ _ _ _ (by show e + 3 ≠ e + 2; omega)).trans hk)
  exact ⟨bx_set h1 (by show e + 2 ≠ e + 3; omega) _, h2.set _⟩
/-- The box of the distances, the row and its box. -/
theorem three_d (w : World) (D : Nat → Int) :
    Six (((w.alloc (.cells #[.int .i64 (D 0), .int .i64 (D 1), .int .i64 (D 2), .int .i64 (D 3), .int .i64 (D 4), .int .i64 (D 5)] 103)).alloc (.cells #[] 3)).alloc (.cells #[.slice (some ⟨w.heap.size + 1, 0, none⟩) 0 0] 32)) w.heap.size D ∧
    (((w.alloc (.cells #[.int .i64 (D 0), .int .i64 (D 1), .int .i64 (D 2), .int .i64 (D 3), .int .i64 (D 4), .int .i64 (D 5)] 103)).alloc (.cells #[] 3)).alloc (.cells #[.slice (some ⟨w.heap.size + 1, 0, none⟩) 0 0] 32)).heap[w.heap.size + 1]? = some (.cells #[] 3 (0, 0)) ∧
    (((w.alloc (.cells #[.int .i64 (D 0), .int .i64 (D 1), .int .i64 (D 2), .int .i64 (D 3), .int .i64 (D 4), .int .i64 (D 5)] 103)).alloc (.cells #[] 3)).alloc (.cells #[.slice (some ⟨w.heap.size + 1, 0, none⟩) 0 0] 32)).heap[w.heap.size + 2]? = some (.cells #[.slice (some ⟨w.heap.size + 1, 0, none⟩) 0 0] 32 (0, 0)) ∧
    (((w.alloc (.cells #[.int .i64 (D 0), .int .i64 (D 1), .int .i64 (D 2), .int .i64 (D 3), .int .i64 (D 4), .int .i64 (D 5)] 103)).alloc (.cells #[] 3)).alloc (.cells #[.slice (some ⟨w.heap.size + 1, 0, none⟩) 0 0] 32)).heap.size = w.heap.size + 3 ∧
    Below w.heap.size w (((w.alloc (.cells #[.int .i64 (D 0), .int .i64 (D 1), .int .i64 (D 2), .int .i64 (D 3), .int .i64 (D 4), .int .i64 (D 5)] 103)).alloc (.cells #[] 3)).alloc (.cells #[.slice (some ⟨w.heap.size + 1, 0, none⟩) 0 0] 32)) := by
  have e : ∀ (w : World) (o : Obj), (w.alloc o).heap = w.heap.push o := fun _ _ => rfl
  have s0 := six_new w (D 0) (D 1) (D 2) (D 3) (D 4) (D 5) 103 D ⟨rfl, rfl, rfl, rfl, rfl, rfl⟩
  refine ⟨(s0.below (below_alloc _ _)).below (below_alloc _ _), ?_, ?_, by simp only [e]; simp, below_alloc3 _ _ _ _⟩
  · simp only [e, Array.getElem?_push, Array.size_push]
    rw [if_neg (by omega), if_pos trivial]
  · simp only [e, Array.getElem?_push, Array.size_push]
    rw [if_pos trivial]
/-- A measurement told in a box. -/
theorem box_m (w : World) (A E : Int) :
    (w.alloc (.cells #[.int .i64 A, .int .i64 E] 45)).cell? ⟨w.heap.size, 0, none⟩ = some (.int .i64 A) ∧ (w.alloc (.cells #[.int .i64 A, .int .i64 E] 45)).cell? ⟨w.heap.size, 1, none⟩ = some (.int .i64 E) ∧ Below w.heap.size w (w.alloc (.cells #[.int .i64 A, .int .i64 E] 45)) :=
  ⟨box_first w _ _ _, box_second w _ _ _, below_alloc w _⟩
/-- What a round keeps. -/
structure Rd (V : World) (w : World) (m bq : Nat) (s1 s2 : Value) (D : Nat → Int) (X : List Int) : Prop where
  en : EnW V w.heap.size s1 s2
  six : Six V m D
  rv : ∃ p d, Rv V (m + 1) (m + 2) bq p d X
  bel : Below w.heap.size w V
  lt : bq < V.heap.size
  e4 : w.heap.size + 4 ≤ m
  mq : m + 3 ≤ bq
theorem Rd.below {V V' w : World} {m bq : Nat} {s1 s2 : Value} {D : Nat → Int} {X : List Int} (h : Rd V w m bq s1 s2 D X) (b : Below V.heap.size V V') : Rd V' w m bq s1 s2 D X := by
  obtain ⟨h1, h2, ⟨p, d, h3⟩, h4, h5, h6, h7⟩ := h
  exact ⟨h1.below b, h2.below b, ⟨p, d, h3.below b⟩, h4.trans (b.mono h4.size), Nat.lt_of_lt_of_le h5 b.size, h6, h7⟩
theorem Rd.grown {V V' w : World} {m bq : Nat} {s1 s2 : Value} {D : Nat → Int} {X : List Int} {row : Option Nat} (h : Rd V w m bq s1 s2 D X) (hg : V.grownBy V' row) (hr : ∀ r, row = some r → bq ≤ r ∧ ∃ o : Obj, V.heap[r]? = some o ∧ o.isCells = false) : Rd V' w m bq s1 s2 D X := by
  obtain ⟨h1, h2, ⟨p, d, h3⟩, h4, h5, h6, h7⟩ := h
  refine ⟨h1.grown hg (fun r e => by have := (hr r e).1; omega), six_grown h2 hg (fun e => by have := (hr _ e.symm).1; omega), ⟨p, d, h3.grown hg (fun r e => (hr r e).2)⟩, h4.grown hg h4.size (fun k hk => by have := (hr k hk).1; omega), Nat.lt_of_lt_of_le h5 hg.size, h6, h7⟩
theorem EnW.zero {W : World} {e : Nat} {s1 s2 : Value} (h : EnW W e s1 s2) : EnW (((W.setCell ⟨e + 2, 0, none⟩ (.int .i64 0)).setCell ⟨e + 2, 1, none⟩ (.slice none 0 0)).setCell ⟨e + 3, 0, none⟩ (.bool false)) e s1 s2 := by
  obtain ⟨h1, h2⟩ := res_put h.rs h.rb (.int .i64 0) (.slice none 0 0) false
  have hn : ∀ (k : Nat) (o : Obj), k < e + 2 → W.heap[k]? = some o → (((W.setCell ⟨e + 2, 0, none⟩ (.int .i64 0)).setCell ⟨e + 2, 1, none⟩ (.slice none 0 0)).setCell ⟨e + 3, 0, none⟩ (.bool false)).heap[k]? = some o := fun k o hk ho =>
    (Below.heap_setCell _ _ _ _ (by show k ≠ e + 3; omega)).trans ((Below.heap_setCell _ _ _ _ (by show k ≠ e + 2; omega)).trans ((Below.heap_setCell _ _ _ _ (by show k ≠ e + 2; omega)).trans ho))
  exact ⟨hn e _ (by omega) h.c0, hn (e + 1) _ (by omega) h.c1, h1, h2⟩
/-- One weight more. -/
theorem Rd.app {V w : World} {m bq : Nat} {s1 s2 : Value} {D : Nat → Int} {X : List Int} (h : Rd V w m bq s1 s2 D X) (hl : X.length < 1048576) (z : Int) (ty : TypeId) :
    ∃ (p : Option Addr) (d g cap : Nat) (V' : World), V.cell? ⟨m + 2, 0, none⟩ = some (.slice p X.length d) ∧
      (Builtin.append_ #[32, 32] ty #[.slice p X.length d, .slice (some ⟨V.heap.size, 0, none⟩) 1 1]).run Try.prog (V.alloc (.cells #[.int .i64 z] 3)) = .ok (.slice (some ⟨g, 0, none⟩) (X.length + 1) cap) V' ∧
      V'.cell? ⟨m + 2, 0, none⟩ = some (.slice p X.length d) ∧ V'.frozen? ⟨m + 2, 0, none⟩ = false ∧
      Rd (V'.setCell ⟨m + 2, 0, none⟩ (.slice (some ⟨g, 0, none⟩) (X.length + 1) cap)) w m bq s1 s2 D (X ++ [z]) ∧
      KeepsOthers V (V'.setCell ⟨m + 2, 0, none⟩ (.slice (some ⟨g, 0, none⟩) (X.length + 1) cap)) ∧ KpC bq V (V'.setCell ⟨m + 2, 0, none⟩ (.slice (some ⟨g, 0, none⟩) (X.length + 1) cap)) := by
  obtain ⟨h1, h2, ⟨p, d, h3⟩, h4, h5, h6, h7⟩ := h
  obtain ⟨g, cap, V', hr, hb, hrw, hg⟩ := h3.app (by omega) hl h5 z ty
  have ba := below_alloc V (.cells #[.int .i64 z] 3)
  have hob := fun k hk => (own_bd h3.own k hk).1
  have hs : (V.alloc (.cells #[.int .i64 z] 3)).heap.size = V.heap.size + 1 := by simp
  have hgs := hg.size
  have hs9 : (V'.setCell ⟨m + 2, 0, none⟩ (.slice (some ⟨g, 0, none⟩) (X.length + 1) cap)).heap.size = V'.heap.size := by simp [World.setCell]
  refine ⟨p, d, g, cap, V', h3.box.cell, hr, hb.cell, hb.frozen, ⟨?_, ?_, ⟨_, _, hrw⟩, ?_, by omega, h6, h7⟩, ?_, ⟨by omega, ?_⟩⟩
  · exact ((h1.below ba).grown hg (fun k hk => by have := hob k hk; omega)).set (by omega) _
  · exact (six_grown (h2.below ba) hg (fun e => by have := hob _ e.symm; omega)).off (by omega)
  · exact ((h4.trans (ba.mono h4.size)).grown hg (by have := h4.size; simp; omega) (fun k hk => by have := hob k hk; omega)).setCell (p := ⟨m + 2, 0, none⟩) (by show w.heap.size ≤ m + 2; omega) _
  · exact ((others_below ba).trans (others_grown hg fun k hk => own_cells (h3.below ba).own k hk)).trans (KeepsOthers.setCell _ _ _)
  · refine (Below.heap_setCell _ _ _ _ (by show bq ≠ m + 2; omega)).trans ?_
    exact (hg.block _ (by omega) (fun e => h3.nq e.symm)).trans (ba.block _ (by omega))
end Go.Proofs.Ytlpcgchekhoieaa.WgE
