/- Draws: the cursor's answer is known ahead. -/
import Derived.Test.YthcjembekadijaaOrderSaidPartap
import Derived.Test.YthcjembekadijaaOrderSaidPartay
import Derived.Deep.RegionHeld3
import Derived.Deep.RegionLaw
import Derived.Deep.AppendLies
import Derived.Deep.DeepCutAuto
namespace Go.Proofs.Ythcjembekadijaa.DrwD
open Go.RowKit Cur Pairs Rec Keep Drw
set_option maxHeartbeats 2000000 in
theorem next_det (B : Nat) (a : Option Addr) (len cap k : Nat) (hk : k ≤ 1000000) (w : World) (hA : At w B a len cap k) (hC : Cur.Code w B a len) :
    ∃ r : Int, (0 ≤ r ∧ r ≤ 255) ∧ Calls Try.prog 142 #[.pointer (some ⟨B, 0, none⟩)] w fun e w' => e = .returned (.int .i64 r) ∧ At w' B a len cap (k + 1) ∧ w.grownBy w' (some B) := by
  obtain ⟨seed, hB, hs0, hs1⟩ := hA
  have c0 := cellB hB 0
  have c1 := cellB hB 1
  have c2 := cellB hB 2
  have f1 := frozenB hB 1
  have f2 := frozenB hB 2
  have HB := Lib.hid hB
  simp at c0 c1 c2
  clear hB
  by_cases hlt : k < len
  · obtain ⟨b, off, z, rfl, hbB, hz, hz0, hz1⟩ := hC k hlt
    clear hC
    refine ⟨z, ⟨hz0, hz1⟩, ?_⟩
    have hi : (k : Int) < (len : Int) := by omega
    have hi0 : (0 : Int) ≤ (k : Int) := Int.natCast_nonneg _
    go_enter Try.func142, Try.ntmps142
    go_wp2
    go_quiet (fail)
    go_wp2
    go_quiet (fail)
    rename_i nq0
    go_wp2
    obtain ⟨sd, hsd⟩ : ∃ sd, IntKind.u64.wrap (IntKind.u64.wrap (IntKind.u64.wrap (seed * 6364136223846793005) + z) + 876876) = sd := ⟨_, rfl⟩
    have hbd := u64_bd (IntKind.u64.wrap (IntKind.u64.wrap (seed * 6364136223846793005) + z) + 876876)
    rw [hsd] at hbd ⊢
    obtain ⟨hB2, hg2⟩ := set2 HB.out (nq0 + nq) (.int .i64 ((k : Int) + 1)) (.int .u64 sd)
    obtain ⟨W2, hW2⟩ : ∃ W2, (((w.drewN (nq0 + nq)).setCell ⟨B, 1, none⟩ (.int .i64 ((k : Int) + 1))).setCell ⟨B, 2, none⟩ (.int .u64 sd)) = W2 := ⟨_, rfl⟩
    rw [hW2] at hB2 hg2 ⊢
    clear hsd hW2 c0 c1 c2 f1 f2 hz HB
    have d0 := cellB hB2 0
    have d1 := cellB hB2 1
    simp at d0 d1
    have HB2 := Lib.hid hB2
    clear hB2
    have hle : (k : Int) + 1 ≤ (len : Int) := by omega
    go_quiet (fail)
    go_wp2
    go_ret
    exact ⟨rfl, ⟨sd, by have := HB2.out; simpa using this, hbd.1, hbd.2⟩, grownBy_dr hg2 _⟩
  · clear hC
    have hbd0 := u64_bd (IntKind.u64.wrap (IntKind.u64.wrap (seed * 6364136223846793005)) + 876876)
    obtain ⟨r, hr, hr1⟩ := and255 _ hbd0.1 hbd0.2
    refine ⟨r, ⟨Int.natCast_nonneg _, hr1⟩, ?_⟩
    have HR := Lib.hid hr
    clear hr hbd0
    have hi : ¬ (k : Int) < (len : Int) := by omega
    go_enter Try.func142, Try.ntmps142
    go_wp2
    go_quiet (fail)
    go_wp2
    obtain ⟨sd, hsd⟩ : ∃ sd, IntKind.u64.wrap (IntKind.u64.wrap (IntKind.u64.wrap (seed * 6364136223846793005)) + 876876) = sd := ⟨_, rfl⟩
    have hbd := u64_bd (IntKind.u64.wrap (IntKind.u64.wrap (seed * 6364136223846793005)) + 876876)
    rw [hsd] at hbd ⊢
    have HR2 : Hid (wrap64 (bits BinOp.and IntKind.u64 (sd / 1099511627776) 255) = (r : Int)) := by rw [← hsd]; exact HR.out
    clear HR
    obtain ⟨hB2, hg2⟩ := set2 HB.out nq (.int .i64 ((k : Int) + 1)) (.int .u64 sd)
    obtain ⟨W2, hW2⟩ : ∃ W2, (((w.drewN nq).setCell ⟨B, 1, none⟩ (.int .i64 ((k : Int) + 1))).setCell ⟨B, 2, none⟩ (.int .u64 sd)) = W2 := ⟨_, rfl⟩
    rw [hW2] at hB2 hg2 ⊢
    clear hsd hW2 c0 c1 c2 f1 f2 HB
    have d0 := cellB hB2 0
    have d1 := cellB hB2 1
    have d2 := cellB hB2 2
    simp at d0 d1 d2
    have HB2 := Lib.hid hB2
    clear hB2
    have hle : ¬ (k : Int) + 1 ≤ (len : Int) := by omega
    go_quiet (fail)
    go_wp2
    rw [HR2.out]
    go_ret
    exact ⟨rfl, ⟨sd, by have := HB2.out; simpa using this, hbd.1, hbd.2⟩, grownBy_dr hg2 _⟩
set_option maxHeartbeats 1000000 in
theorem pick_det (B : Nat) (a : Option Addr) (len cap m : Nat) (hm : m ≤ 900000) (n : Int) (h1 : 1 < n) (h2 : n ≤ 200) (w : World) (h : Ok w B a len cap m) :
    ∃ r : Int, (0 ≤ r ∧ r < n) ∧ Calls Try.prog 114 #[.pointer (some ⟨B, 0, none⟩), .int .i64 n] w fun e w' => e = .returned (.int .i64 r) ∧ Ok w' B a len cap (m + 1) ∧ w.grownBy w' (some B) := by
  obtain ⟨k, hk, hA⟩ := h.cur
  obtain ⟨r, ⟨h0, h3⟩, hC⟩ := next_det B a len cap k (by omega) w hA h.code
  have HC := Lib.hid hC
  have HO := Lib.hid h
  clear hC h hA
  refine ⟨r % n, ⟨Int.emod_nonneg _ (by omega), Int.emod_lt_of_pos _ (by omega)⟩, ?_⟩
  go_enter Try.func114, Try.ntmps114
  go_wp2_with fail
  refine HC.out.mono ?_
  rintro e w' ⟨rfl, hA', hg⟩
  go_wp2_with fail
  go_ret
  exact ⟨rfl, ⟨⟨k + 1, by omega, hA'⟩, HO.out.code.keep HO.out.lt hg, HO.out.low⟩, hg⟩
set_option maxHeartbeats 1000000 in
theorem one_det (B : Nat) (a : Option Addr) (len cap m : Nat) (hm : m ≤ 900000) (n : Int) (h1 : 1 < n) (h2 : n ≤ 200) (w : World) (h : Ok w B a len cap m) :
    ∃ r : Bool, Calls Try.prog 53 #[.pointer (some ⟨B, 0, none⟩), .int .i64 n] w fun e w' => e = .returned (.bool r) ∧ Ok w' B a len cap (m + 1) ∧ w.grownBy w' (some B) := by
  obtain ⟨r, ⟨h0, h3⟩, hC⟩ := pick_det B a len cap m hm n h1 h2 w h
  have HC := Lib.hid hC
  clear hC h
  refine ⟨r == 0, ?_⟩
  go_enter Try.func53, Try.ntmps53
  go_wp2_with fail
  refine HC.out.mono ?_
  rintro e w' ⟨rfl, hok, hg⟩
  go_wp2_with fail
  go_ret
  exact ⟨rfl, hok, hg⟩
end Go.Proofs.Ythcjembekadijaa.DrwD
/- Draws: a record that may be invalid. -/
namespace Go.Proofs.Ythcjembekadijaa.DrwR
open Go.RowKit Cur Pairs Rec RecEq Keep Two Drw DrwC DrwD
variable {w wr wq : World} {B : Nat} {a : Option Addr} {len cap M M' gb gx : Nat} {p1 : Option Addr} {n1 d1 : Nat} {p2 : Option Addr} {n2 d2 : Nat} {L1 L2 : List (Int × Int)} {x y : Int} {g : Nat}
theorem setCellX {w : World} {g : Nat} {u v a : Value} {T : TypeId} (h : w.heap[g]? = some (.cells #[u, v] T)) : (w.setCell ⟨g, 0, none⟩ a).heap[g]? = some (.cells #[a, v] T) ∧ (w.setCell ⟨g, 1, none⟩ a).heap[g]? = some (.cells #[u, a] T) := setCell_block h
/-- Rows of two types lie in two blocks. -/
theorem own_types {w : World} {C C' : Nat} {v1 v2 : Value} {n1 n2 b : Nat} {xs ys : List Value} (h : w.ownsRow C 55 2 v1 n1 xs) (h2 : w.ownsRow C' 39 2 v2 n2 ys) (e1 : v1.ownBlock = some b) : v2.ownBlock ≠ some b := by
  intro e
  rcases h.2 with ⟨e0, _⟩ | ⟨g0, cap0, cur, ev, hb, hg, _⟩
  · rw [e0] at e1
    cases e1
  · rw [ev] at e1
    have e3 : g0 = b := by simpa [Value.ownBlock] using e1
    subst e3
    rcases h2.2 with ⟨e0, _⟩ | ⟨g1, cap1, cur1, ev1, hb1, hg1, _⟩
    · rw [e0] at e
      cases e
    · rw [ev1] at e
      have e2 : g1 = g0 := by simpa [Value.ownBlock] using e
      subst e2
      rw [hg] at hg1
      injection hg1 with hg1
      injection hg1 with _ ht _
      exact absurd ht (by decide)
theorem own_frozen {w : World} {C g n d : Nat} {T : TypeId} {xs : List Value} (h : w.ownsRow C T 2 (.slice (some ⟨g, 0, none⟩) n d) n xs) (j : Nat) : w.frozen? ⟨g, j, none⟩ = false := by
  rcases h.2 with ⟨e0, _⟩ | ⟨g0, cap0, cur, ev, hb, hg, _⟩
  · cases e0
  · injection ev with ea _ _
    injection ea with ea
    injection ea with ea _ _
    subst ea
    simp only [World.frozen?, hg]
    rfl
theorem kept_row {X w1 : World} {C e s : Nat} {v : Value} {n : Nat} {xs : List Value} {row : Option Nat} (h : X.ownsRow C e s v n xs) (hg : X.grownBy w1 row) (hne : ∀ b, v.ownBlock = some b → row ≠ some b) : w1.ownsRow C e s v n xs := by
  refine World.ownsRow.kept (w := X) h hg ?_
  cases hv : v.ownBlock with
  | none => exact .inl rfl
  | some b => exact .inr (fun e => hne b hv e.symm)
/-- A relation more. -/
theorem RSt.relApp {X w9 : World} {g9 cap9 : Nat} {u v : Int} (h : RSt w wr B a len cap M gb p1 n1 d1 p2 n2 d2 L1 L2) (hB : B < w.heap.size) (hX : Below wr.heap.size wr X)
    (hown : w9.ownsRow w.heap.size 39 2 (.slice (some ⟨g9, 0, none⟩) (n2 + 1) cap9) (n2 + 1) (flat L2 ++ [.int .i64 u, .int .i64 v])) (hgrow : X.grownBy w9 (Value.slice p2 n2 d2).ownBlock) (hat : (Value.slice p2 n2 d2).ownBlock = some g9 ∨ wr.heap.size ≤ g9) :
    RSt w (w9.setCell ⟨gb, 1, none⟩ (.slice (some ⟨g9, 0, none⟩) (n2 + 1) cap9)) B a len cap M gb p1 n1 d1 (some ⟨g9, 0, none⟩) (n2 + 1) cap9 L1 (L2 ++ [(u, v)]) := by
  have hq := h.below hX
  have hlt := h.cells.2.2.2.2
  have hg9 : g9 ≠ gb := fun e => by
    subst e
    rcases hat with hat | hat
    · exact h.f2 hat
    · omega
  have hfr : ∀ k, (Value.slice p2 n2 d2).ownBlock = some k → w.heap.size ≤ k := fun k hk => (h.rel.lt k hk).1
  have hfb : ∀ k, some gb = some k → w.heap.size ≤ k := fun k e => by injection e with e; have := h.gt; omega
  have hbox := (hgrow.block gb (Nat.lt_of_lt_of_le hlt hX.size) (Ne.symm hq.f2)).trans hq.box
  have sg := setCell_grown (w := w9) (g := gb) (o := 1) (u := .slice (some ⟨g9, 0, none⟩) (n2 + 1) cap9)
  refine ⟨(setCell_block hbox).2, setCell_far (kept_row hq.ctx hgrow (fun b hb => own_types hq.ctx hq.rel hb)) h.f1, ?_, h.f1, fun e => hg9 (by simpa [Value.ownBlock] using e), ok_fresh (ok_fresh hq.ok hB hgrow hfr) hB sg hfb, fresh (fresh hq.gr hgrow hfr) sg hfb, h.gt⟩
  rw [Two.flat_app]
  exact setCell_far hown (fun e => hg9 (by simpa [Value.ownBlock] using e))
/-- What the box holds behind such an append. -/
theorem RSt.after {X w9 : World} (h : RSt w wr B a len cap M gb p1 n1 d1 p2 n2 d2 L1 L2) (hX : Below wr.heap.size wr X) {row : Option Nat} (hgrow : X.grownBy w9 row) (hne : row ≠ some gb) :
    w9.cell? ⟨gb, 0, none⟩ = some (.slice p1 n1 d1) ∧ w9.cell? ⟨gb, 1, none⟩ = some (.slice p2 n2 d2) ∧ w9.frozen? ⟨gb, 0, none⟩ = false ∧ w9.frozen? ⟨gb, 1, none⟩ = false := by
  have hb := (hgrow.block gb (Nat.lt_of_lt_of_le h.cells.2.2.2.2 hX.size) (Ne.symm hne)).trans (h.below hX).box
  exact ⟨by simp [World.cell?, hb], by simp [World.cell?, hb], by simp only [World.frozen?, hb]; rfl, by simp only [World.frozen?, hb]; rfl⟩
/-- A context more. -/
theorem RSt.ctxApp {X w9 : World} {g9 cap9 : Nat} {u v : Int} (h : RSt w wr B a len cap M gb p1 n1 d1 p2 n2 d2 L1 L2) (hB : B < w.heap.size) (hX : Below wr.heap.size wr X)
    (hown : w9.ownsRow w.heap.size 55 2 (.slice (some ⟨g9, 0, none⟩) (n1 + 1) cap9) (n1 + 1) (flat L1 ++ [.int .i64 u, .int .i64 v])) (hgrow : X.grownBy w9 (Value.slice p1 n1 d1).ownBlock) (hat : (Value.slice p1 n1 d1).ownBlock = some g9 ∨ wr.heap.size ≤ g9) :
    RSt w (w9.setCell ⟨gb, 0, none⟩ (.slice (some ⟨g9, 0, none⟩) (n1 + 1) cap9)) B a len cap M gb (some ⟨g9, 0, none⟩) (n1 + 1) cap9 p2 n2 d2 (L1 ++ [(u, v)]) L2 := by
  have hq := h.below hX
  have hlt := h.cells.2.2.2.2
  have hg9 : g9 ≠ gb := fun e => by
    subst e
    rcases hat with hat | hat
    · exact h.f1 hat
    · omega
  have hfr : ∀ k, (Value.slice p1 n1 d1).ownBlock = some k → w.heap.size ≤ k := fun k hk => (h.ctx.lt k hk).1
  have hfb : ∀ k, some gb = some k → w.heap.size ≤ k := fun k e => by injection e with e; have := h.gt; omega
  have hbox := (hgrow.block gb (Nat.lt_of_lt_of_le hlt hX.size) (Ne.symm hq.f1)).trans hq.box
  have sg := setCell_grown (w := w9) (g := gb) (o := 0) (u := .slice (some ⟨g9, 0, none⟩) (n1 + 1) cap9)
  refine ⟨(setCell_block hbox).1, ?_, setCell_far (kept_row hq.rel hgrow (fun b hb e => own_types hq.ctx hq.rel e hb)) h.f2, fun e => hg9 (by simpa [Value.ownBlock] using e), h.f2, ok_fresh (ok_fresh hq.ok hB hgrow hfr) hB sg hfb, fresh (fresh hq.gr hgrow hfr) sg hfb, h.gt⟩
  rw [Two.flat_app]
  exact setCell_far hown (fun e => hg9 (by simpa [Value.ownBlock] using e))
/-- Other contexts in the record's place. -/
theorem RSt.putC (h : RSt w wr B a len cap M gb p1 n1 d1 p2 n2 d2 L1 L2) {q1 : Option Addr} {k1 e1 : Nat} {K1 : List (Int × Int)} (hB : B < w.heap.size) (c : CSt wr wq B a len cap M' (.slice q1 k1 e1) k1 K1) :
    RSt w (wq.setCell ⟨gb, 0, none⟩ (.slice q1 k1 e1)) B a len cap M' gb q1 k1 e1 p2 n2 d2 K1 L2 := by
  have hq := h.step hB c.gr c.ok
  have f1 : (Value.slice q1 k1 e1).ownBlock ≠ some gb := fun e => by have := (c.own.lt gb e).1; have := h.cells.2.2.2.2; omega
  have s1 := setCell_grown (w := wq) (g := gb) (o := 0) (u := .slice q1 k1 e1)
  have hf : ∀ k, some gb = some k → w.heap.size ≤ k := fun k e => by injection e with e; have := h.gt; omega
  exact ⟨(setCell_block hq.box).1, ownsRow_base (setCell_far c.own f1) h.gr.size, setCell_far hq.rel h.f2, f1, h.f2, ok_fresh hq.ok hB s1 hf, fresh hq.gr s1 hf, h.gt⟩
/-- Other relations in the record's place. -/
theorem RSt.putR (h : RSt w wr B a len cap M gb p1 n1 d1 p2 n2 d2 L1 L2) {q2 : Option Addr} {k2 e2 : Nat} {K2 : List (Int × Int)} (hB : B < w.heap.size) (o2 : wr.ownsRow w.heap.size 39 2 (.slice q2 k2 e2) k2 (flat K2)) (f2 : (Value.slice q2 k2 e2).ownBlock ≠ some gb) :
    RSt w (wr.setCell ⟨gb, 1, none⟩ (.slice q2 k2 e2)) B a len cap M gb p1 n1 d1 q2 k2 e2 L1 K2 := by
  have s1 := setCell_grown (w := wr) (g := gb) (o := 1) (u := .slice q2 k2 e2)
  have hf : ∀ k, some gb = some k → w.heap.size ≤ k := fun k e => by injection e with e; have := h.gt; omega
  exact ⟨(setCell_block h.box).2, setCell_far h.ctx h.f1, setCell_far o2 f2, h.f1, f2, ok_fresh h.ok hB s1 hf, fresh h.gr s1 hf, h.gt⟩
theorem flat_take : ∀ (l : List (Int × Int)) (k : Nat), flat (l.take k) = (flat l).take (k * 2)
  | [], k => by simp [flat]
  | p :: l, 0 => by simp [flat]
  | p :: l, k + 1 => by
    rw [List.take_succ_cons, flat_cons, flat_cons, flat_take l k, show (k + 1) * 2 = k * 2 + 1 + 1 by omega]
    simp
/-- One relation less. -/
theorem pop2 {W : World} {C g n d : Nat} {T : TypeId} {l : List (Int × Int)} (hl : l.length = n + 1) (h : W.ownsRow C T 2 (.slice (some ⟨g, 0, none⟩) (n + 1) d) (n + 1) (flat l)) : W.ownsRow C T 2 (.slice (some ⟨g, 0, none⟩) n d) n (flat (l.take n)) := by
  have e : flat l = flat (l.take n) ++ flat (l.drop n) := by rw [← Two.flat_app, List.take_append_drop]
  rw [e] at h
  exact ownsRow_pop (by rw [flat_len, List.length_take, hl]; omega) h
end Go.Proofs.Ythcjembekadijaa.DrwR
namespace Go.Proofs.Ythcjembekadijaa.DrwN
open Go.RowKit Cur Pairs Rec RecEq Keep Two Drw DrwC DrwR DrwD
variable {w wr wq : World} {B : Nat} {a : Option Addr} {len cap M M' gb gx : Nat} {p1 : Option Addr} {n1 d1 : Nat} {p2 : Option Addr} {n2 d2 : Nat} {L1 L2 : List (Int × Int)} {x y : Int} {g : Nat}
/-- A record under way in a box, and a context in another one. -/
structure XSt (w wr : World) (B : Nat) (a : Option Addr) (len cap M gb : Nat) (p1 : Option Addr) (n1 d1 : Nat) (p2 : Option Addr) (n2 d2 : Nat) (L1 L2 : List (Int × Int)) (gx : Nat) (x y : Int) : Prop where
  r : RSt w wr B a len cap M gb p1 n1 d1 p2 n2 d2 L1 L2
  xb : wr.heap[gx]? = some (.cells #[.int .i64 x, .int .i64 y] 55)
  xt : w.heap.size ≤ gx
  xn : gx ≠ gb
  x1 : (Value.slice p1 n1 d1).ownBlock ≠ some gx
  x2 : (Value.slice p2 n2 d2).ownBlock ≠ some gx
theorem XSt.xcells (h : XSt w wr B a len cap M gb p1 n1 d1 p2 n2 d2 L1 L2 gx x y) : wr.cell? ⟨gx, 0, none⟩ = some (.int .i64 x) ∧ wr.cell? ⟨gx, 1, none⟩ = some (.int .i64 y) ∧ wr.frozen? ⟨gx, 0, none⟩ = false ∧ wr.frozen? ⟨gx, 1, none⟩ = false ∧ gx < wr.heap.size := by
  have hb := h.xb
  refine ⟨by simp [World.cell?, hb], by simp [World.cell?, hb], by simp only [World.frozen?, hb]; rfl, by simp only [World.frozen?, hb]; rfl, (Array.getElem?_eq_some_iff.1 hb).1⟩
theorem XSt.up (h : XSt w wr B a len cap M gb p1 n1 d1 p2 n2 d2 L1 L2 gx x y) (hm : M ≤ M') : XSt w wr B a len cap M' gb p1 n1 d1 p2 n2 d2 L1 L2 gx x y := ⟨h.r.up hm, h.xb, h.xt, h.xn, h.x1, h.x2⟩
theorem XSt.step (h : XSt w wr B a len cap M gb p1 n1 d1 p2 n2 d2 L1 L2 gx x y) (hB : B < w.heap.size) (hg : wr.grownBy wq (some B)) (ho : Ok wq B a len cap M') : XSt w wq B a len cap M' gb p1 n1 d1 p2 n2 d2 L1 L2 gx x y :=
  ⟨h.r.step hB hg ho, (hg.block gx h.xcells.2.2.2.2 (fun e => by injection e with e; have := h.xt; omega)).trans h.xb, h.xt, h.xn, h.x1, h.x2⟩
theorem XSt.below (h : XSt w wr B a len cap M gb p1 n1 d1 p2 n2 d2 L1 L2 gx x y) (hb : Below wr.heap.size wr wq) : XSt w wq B a len cap M gb p1 n1 d1 p2 n2 d2 L1 L2 gx x y :=
  ⟨h.r.below hb, (hb.block gx h.xcells.2.2.2.2).trans h.xb, h.xt, h.xn, h.x1, h.x2⟩
/-- A store into the context. -/
theorem XSt.setx (h : XSt w wr B a len cap M gb p1 n1 d1 p2 n2 d2 L1 L2 gx x y) (hB : B < w.heap.size) (z : Int) : XSt w (wr.setCell ⟨gx, 0, none⟩ (.int .i64 z)) B a len cap M gb p1 n1 d1 p2 n2 d2 L1 L2 gx z y ∧ XSt w (wr.setCell ⟨gx, 1, none⟩ (.int .i64 z)) B a len cap M gb p1 n1 d1 p2 n2 d2 L1 L2 gx x z := by
  have hf : ∀ k, some gx = some k → w.heap.size ≤ k := fun k e => by injection e with e; have := h.xt; omega
  have hr : ∀ o, RSt w (wr.setCell ⟨gx, o, none⟩ (.int .i64 z)) B a len cap M gb p1 n1 d1 p2 n2 d2 L1 L2 := fun o =>
    ⟨((setCell_grown (w := wr) (g := gx) (o := o) (u := .int .i64 z)).block gb h.r.cells.2.2.2.2 (fun e => h.xn (by injection e with e; exact e.symm))).trans h.r.box, setCell_far h.r.ctx h.x1, setCell_far h.r.rel h.x2, h.r.f1, h.r.f2, ok_fresh h.r.ok hB setCell_grown hf, fresh h.r.gr setCell_grown hf, h.r.gt⟩
  have hs := setCellX (a := .int .i64 z) h.xb
  exact ⟨⟨hr 0, hs.1, h.xt, h.xn, h.x1, h.x2⟩, ⟨hr 1, hs.2, h.xt, h.xn, h.x1, h.x2⟩⟩
/-- The context takes its place in the record. -/
theorem XSt.back (h : XSt w wr B a len cap M gb (some ⟨g, 0, none⟩) n1 d1 p2 n2 d2 L1 L2 gx x y) (hB : B < w.heap.size) (i : Nat) : RSt w ((wr.setCell ⟨g, i * 2, none⟩ (.int .i64 x)).setCell ⟨g, i * 2 + 1, none⟩ (.int .i64 y)) B a len cap M gb (some ⟨g, 0, none⟩) n1 d1 p2 n2 d2 (L1.set i (x, y)) L2 := by
  have hgg := h.r.ctx.lt g rfl
  have hf : ∀ k, some g = some k → w.heap.size ≤ k := fun k e => by injection e with e; omega
  have hgb : g ≠ gb := fun e => h.r.f1 (by subst e; rfl)
  have s1 := setCell_grown (w := wr) (g := g) (o := i * 2) (u := .int .i64 x)
  have s2 := setCell_grown (w := wr.setCell ⟨g, i * 2, none⟩ (.int .i64 x)) (g := g) (o := i * 2 + 1) (u := .int .i64 y)
  have s3 := gtrans s1 s2
  have hne2 : (Value.slice p2 n2 d2).ownBlock ≠ some g := own_types h.r.ctx h.r.rel rfl
  exact ⟨(s3.block gb h.r.cells.2.2.2.2 (fun e => hgb (by injection e with e; exact e.symm))).trans h.r.box, own_store2 h.r.ctx x y, setCell_far (setCell_far h.r.rel hne2) hne2, h.r.f1, h.r.f2, ok_fresh h.r.ok hB s3 hf, fresh h.r.gr s3 hf, h.r.gt⟩
theorem own_zero {w : World} {C b off n d : Nat} {T : TypeId} {xs : List Value} (h : w.ownsRow C T 2 (.slice (some ⟨b, off, none⟩) n d) n xs) : ∃ g, (⟨b, off, none⟩ : Addr) = ⟨g, 0, none⟩ := by
  rcases h.2 with ⟨e0, _⟩ | ⟨g0, cap0, cur, ev, _⟩
  · cases e0
  · injection ev with ea _ _
    injection ea with ea
    exact ⟨g0, ea⟩
theorem XSt.relApp {X w9 : World} {g9 cap9 : Nat} {u v : Int} (h : XSt w wr B a len cap M gb p1 n1 d1 p2 n2 d2 L1 L2 gx x y) (hB : B < w.heap.size) (hX : Below wr.heap.size wr X)
    (hown : w9.ownsRow w.heap.size 39 2 (.slice (some ⟨g9, 0, none⟩) (n2 + 1) cap9) (n2 + 1) (flat L2 ++ [.int .i64 u, .int .i64 v])) (hgrow : X.grownBy w9 (Value.slice p2 n2 d2).ownBlock) (hat : (Value.slice p2 n2 d2).ownBlock = some g9 ∨ wr.heap.size ≤ g9) :
    XSt w (w9.setCell ⟨gb, 1, none⟩ (.slice (some ⟨g9, 0, none⟩) (n2 + 1) cap9)) B a len cap M gb p1 n1 d1 (some ⟨g9, 0, none⟩) (n2 + 1) cap9 L1 (L2 ++ [(u, v)]) gx x y := by
  have hlt := h.xcells.2.2.2.2
  refine ⟨h.r.relApp hB hX hown hgrow hat, ?_, h.xt, h.xn, h.x1, fun e => ?_⟩
  · rw [heap_setCell_other w9 ⟨gb, 1, none⟩ gx _ h.xn]
    exact (hgrow.block gx (Nat.lt_of_lt_of_le hlt hX.size) (Ne.symm h.x2)).trans (h.below hX).xb
  · have e2 : g9 = gx := by simpa [Value.ownBlock] using e
    subst e2
    rcases hat with hat | hat
    · exact h.x2 hat
    · omega
theorem XSt.new (h : RSt w wr B a len cap M gb p1 n1 d1 p2 n2 d2 L1 L2) (x y : Int) : XSt w (wr.alloc (.cells #[.int .i64 x, .int .i64 y] 55)) B a len cap M gb p1 n1 d1 p2 n2 d2 L1 L2 wr.heap.size x y :=
  ⟨h.below (below_alloc wr _), heap_alloc_new wr _, h.gr.size, fun e => by have := h.cells.2.2.2.2; omega, fun e => by have := (h.ctx.lt _ e).2; omega, fun e => by have := (h.rel.lt _ e).2; omega⟩
set_option maxRecDepth 100000 in
set_option maxHeartbeats 16000000 in
theorem anyRecord_any (B : Nat) (a : Option Addr) (len cap m : Nat) (hm : m ≤ 600000) (w : World) (h : Ok w B a len cap m) :
    Calls Try.prog 55 #[.pointer (some ⟨B, 0, none⟩)] w (RRes 20 40 B a len cap (m + 120) w) := by
  obtain ⟨i1, hi1, hy0, hy1, hy2⟩ := info_parts infoC
  obtain ⟨i2, hi2, hv0, hv1, hv2⟩ := info_parts infoR
  have hB := h.lt
  have HB := Lib.hid hB
  have hok := ok_alloc h (.cells #[.slice none 0 0, .slice none 0 0] 27)
  have hg0 : w.grownBy (w.alloc (.cells #[.slice none 0 0, .slice none 0 0] 27)) (some B) := World.grownBy_alloc w _ _
  have hs0 : (w.alloc (.cells #[.slice none 0 0, .slice none 0 0] 27)).heap.size = w.heap.size + 1 := by simp
  have hrb : (w.alloc (.cells #[.slice none 0 0, .slice none 0 0] 27)).heap[w.heap.size]? = some (.cells #[.slice none 0 0, .slice none 0 0] 27) := heap_alloc_new w _
  have HOK := Lib.hid hok
  have HG0 := Lib.hid hg0
  have HS0 := Lib.hid hs0
  have HRB := Lib.hid hrb
  clear h hok hg0 hs0 hrb
  go_enter Try.func55, Try.ntmps55
  go_wp2_with fail
  generalize w.alloc (.cells #[.slice none 0 0, .slice none 0 0] 27) = W at *
  have HB1 : Hid (B < W.heap.size) := by have := HS0.out; have := HB.out; unfold Hid; omega
  refine (record_any B a len cap m (by omega) W HOK.out).mono ?_
  rintro e w1 ⟨p1, n, d1, p2, n2, d2, L1, L2, rfl, hgot⟩
  have HN := Lib.hid (RSt.new hgot.ctx hgot.rel hgot.ok hgot.gr)
  have hf1 := hgot.few1
  have hf2 := hgot.few2
  clear hgot
  obtain ⟨o1, o2, o3, o4, o5⟩ := HN.out.cells
  obtain ⟨r1, r2, r3, r4, z1, z2⟩ := HN.out.other HRB.out (by have := HB.out; omega) (.slice p1 n d1) (.slice p2 n2 d2)
  by_cases hn0 : n = 0
  · subst hn0
    go_wp2_with fail
    refine bodyPost_ret (v := .agg #[.slice p1 0 d1, .slice p2 n2 d2]) (by simp [results, Try.results55, go_sem, z1, z2]) rfl ?_
    exact ⟨_, _, _, _, _, _, _, _, rfl, (HN.out.up (M' := m + 120) (by omega)).ret HS0.out HG0.out HB.out (by omega) (by omega) _ _⟩
  have hnb : ((n : Int) == 0) = false := by rw [beq_eq_false_iff_ne]; omega
  clear r1 r2 r3 r4 z1 z2
  go_wp2_with fail
  clear o1 o2 o3 o4 o5
  generalize w1.alloc (.cells #[.slice p1 n d1, .slice p2 n2 d2] 27) = V at *
  refine (pick_any B a len cap _ (by omega) n (by omega) V HN.out.ok).mono ?_
  rintro e w3 ⟨ii, rfl, ⟨i, rfl, hi⟩, hok3, hg3⟩
  have hin : i < n := by omega
  have HR3 := Lib.hid (HN.out.step HB1.out hg3 hok3)
  clear hok3 hg3 HN hi
  obtain ⟨o1, o2, o3, o4, o5⟩ := HR3.out.cells
  obtain ⟨b, off, x0, y0, hpe, hx0, e1, e2⟩ := (holds_own HR3.out.ctx).at i hin
  subst hpe
  obtain ⟨gg, hgg⟩ := own_zero HR3.out.ctx
  injection hgg with hg1 hg2
  subst hg1 hg2
  rw [Nat.zero_add] at e1 e2
  have hii : (i : Int) < (n : Int) := by omega
  have hi00 : (0 : Int) ≤ (i : Int) := by omega
  go_wp2_with fail
  clear e1 e2 hx0 o1 o2 o3 o4 o5
  have HX3 := Lib.hid (XSt.new HR3.out x0 y0)
  generalize w3.alloc (.cells #[.int .i64 x0, .int .i64 y0] 55) = V4 at *
  generalize w3.heap.size = gx at *
  refine (pick_small B a len cap _ (by omega) 20 (by omega) (by omega) V4 HX3.out.r.ok).mono ?_
  rintro e w4 ⟨q, rfl, ⟨hq0, hq1⟩, hok4, hg4⟩
  have HX := Lib.hid (HX3.out.step HB1.out hg4 hok4)
  clear hok4 hg4 HX3 HR3
  generalize w1.heap.size = gb at *
  by_cases q0 : q = 0
  · subst q0
    go_wp2_with fail
    have HXa := Lib.hid (HX.out.below (below_alloc w4 (.cells #[.int .i64 0, .int .i64 999, .int .i64 1000, .int .i64 3] 3)))
    have hlc : ∀ i x, ([0, 999, 1000, 3] : List Int)[i]? = some x → (w4.alloc (.cells #[.int .i64 0, .int .i64 999, .int .i64 1000, .int .i64 3] 3)).cell? ⟨w4.heap.size, i, none⟩ = some (.int .i64 x) := list_cells w4 [0, 999, 1000, 3]
    have hlw : w4.heap.size ≠ B := by have h1 := HX.out.r.gr.size; have h2 := HB1.out; omega
    refine (among_ok B a len cap _ (by omega) w4.heap.size 4 [0, 999, 1000, 3] rfl (by omega) (by omega) _ HXa.out.r.ok hlw (by simp) hlc).mono ?_
    rintro e w5 ⟨z, rfl, _, hok5, hg5⟩
    have HX5 := Lib.hid (HXa.out.step HB1.out hg5 hok5)
    obtain ⟨k1, k2, k3, k4, k5⟩ := HX5.out.xcells
    have HX6 := Lib.hid (HX5.out.setx HB1.out z).1
    clear hok5 hg5 hlc HX HXa
    obtain ⟨o1, o2, o3, o4, o5⟩ := HX6.out.r.cells
    obtain ⟨k1, k2, k3, k4, k5⟩ := HX6.out.xcells
    obtain ⟨b', off', x9, y9, hpe', hx9, s1, s2⟩ := (holds_own HX6.out.r.ctx).at i hin
    injection hpe' with hpe'
    injection hpe' with hpe1 hpe2
    subst hpe1 hpe2
    rw [Nat.zero_add] at s1 s2
    have s3 := own_frozen HX6.out.r.ctx (i * 2)
    have s4 := own_frozen HX6.out.r.ctx (i * 2 + 1)
    have HBk := Lib.hid (HX6.out.back HB1.out i)
    obtain ⟨t1, t2, t3, t4, t5⟩ := HBk.out.cells
    obtain ⟨r1, r2, r3, r4, z1, z2⟩ := HBk.out.other HRB.out (by have := HB.out; omega) (.slice (some ⟨b, 0, none⟩) n d1) (.slice p2 n2 d2)
    clear hx9
    go_wp2_with fail
    refine bodyPost_ret (v := .agg #[.slice (some ⟨b, 0, none⟩) n d1, .slice p2 n2 d2]) (by simp [results, Try.results55, go_sem, z1, z2]) rfl ?_
    exact ⟨_, _, _, _, _, _, _, _, rfl, (HBk.out.up (M' := m + 120) (by omega)).ret HS0.out HG0.out HB.out (by omega) (by omega) _ _⟩
  have hb0 : (q == 0) = false := by rw [beq_eq_false_iff_ne]; exact q0
  by_cases q1 : q = 1
  · subst q1
    go_wp2_with fail
    refine (pick_small B a len cap _ (by omega) 6 (by omega) (by omega) _ HX.out.r.ok).mono ?_
    rintro e w5 ⟨z, rfl, _, hok5, hg5⟩
    have HX5 := Lib.hid (HX.out.step HB1.out hg5 hok5)
    obtain ⟨k1, k2, k3, k4, k5⟩ := HX5.out.xcells
    have HX6 := Lib.hid (HX5.out.setx HB1.out z).2
    clear hok5 hg5 HX
    obtain ⟨o1, o2, o3, o4, o5⟩ := HX6.out.r.cells
    obtain ⟨k1, k2, k3, k4, k5⟩ := HX6.out.xcells
    obtain ⟨b', off', x9, y9, hpe', hx9, s1, s2⟩ := (holds_own HX6.out.r.ctx).at i hin
    injection hpe' with hpe'
    injection hpe' with hpe1 hpe2
    subst hpe1 hpe2
    rw [Nat.zero_add] at s1 s2
    have s3 := own_frozen HX6.out.r.ctx (i * 2)
    have s4 := own_frozen HX6.out.r.ctx (i * 2 + 1)
    have HBk := Lib.hid (HX6.out.back HB1.out i)
    obtain ⟨t1, t2, t3, t4, t5⟩ := HBk.out.cells
    obtain ⟨r1, r2, r3, r4, z1, z2⟩ := HBk.out.other HRB.out (by have := HB.out; omega) (.slice (some ⟨b, 0, none⟩) n d1) (.slice p2 n2 d2)
    clear hx9
    go_wp2_with fail
    refine bodyPost_ret (v := .agg #[.slice (some ⟨b, 0, none⟩) n d1, .slice p2 n2 d2]) (by simp [results, Try.results55, go_sem, z1, z2]) rfl ?_
    exact ⟨_, _, _, _, _, _, _, _, rfl, (HBk.out.up (M' := m + 120) (by omega)).ret HS0.out HG0.out HB.out (by omega) (by omega) _ _⟩
  have hb1 : (q == 1) = false := by rw [beq_eq_false_iff_ne]; exact q1
  by_cases q2 : q = 2
  · subst q2
    obtain ⟨o1, o2, o3, o4, o5⟩ := HX.out.r.cells
    obtain ⟨k1, k2, k3, k4, k5⟩ := HX.out.xcells
    have hown := HX.out.r.rel
    have hle := HX.out.r.gr.size
    go_upto_region 34 with (at_builtin; go_loud (refine wpList_append_lies _ rfl _ _ 25 rfl W.heap.size 39 i2 (.agg #[.int .i64 0, .int .i64 0]) 2 16 Try.underlying25 hi2 hv0 hv1 hv2 rfl (by decide) (.slice p2 n2 d2) n2 (flat L2) rfl (hown.alloc _) ⟨w4.heap.size, 0, none⟩ 1 1 [.int .i64 x0, .int .i64 x0] rfl rfl (Elems.cell_two_new _ _ _ _) (by simp [Value.oneCell']) (by decide) (by unfold maxLen; omega) (by omega) (by simp; omega) (w4.heap.size + 1) (by simp) ?_; intro g9 cap9 w9 hown9 hgrow9 hat9 hlt9; obtain ⟨c1, c2, c3, c4⟩ := HX.out.r.after (below_alloc w4 (.cells #[.int .i64 x0, .int .i64 x0] 39)) hgrow9 HX.out.r.f2; have HX6 := Lib.hid (HX.out.relApp HB1.out (below_alloc w4 (.cells #[.int .i64 x0, .int .i64 x0] 39)) hown9 hgrow9 (hat9.imp_right (fun e => by omega)))))
    clear hown9 hgrow9 hat9 hlt9 hown c1 c2 c3 c4 o1 o2 o3 o4 k1 k2 k3 k4
    obtain ⟨o1, o2, o3, o4, o5⟩ := HX6.out.r.cells
    obtain ⟨k1, k2, k3, k4, k5⟩ := HX6.out.xcells
    obtain ⟨b', off', x9, y9, hpe', hx9, s1, s2⟩ := (holds_own HX6.out.r.ctx).at i hin
    injection hpe' with hpe'
    injection hpe' with hpe1 hpe2
    subst hpe1 hpe2
    rw [Nat.zero_add] at s1 s2
    have s3 := own_frozen HX6.out.r.ctx (i * 2)
    have s4 := own_frozen HX6.out.r.ctx (i * 2 + 1)
    have HBk := Lib.hid (HX6.out.back HB1.out i)
    obtain ⟨t1, t2, t3, t4, t5⟩ := HBk.out.cells
    obtain ⟨r1, r2, r3, r4, z1, z2⟩ := HBk.out.other HRB.out (by have := HB.out; omega) (.slice (some ⟨b, 0, none⟩) n d1) (.slice (some ⟨g9, 0, none⟩) (n2 + 1) cap9)
    clear hx9
    go_wp2_with fail
    refine bodyPost_ret (v := .agg #[.slice (some ⟨b, 0, none⟩) n d1, .slice (some ⟨g9, 0, none⟩) (n2 + 1) cap9]) (by simp [results, Try.results55, go_sem, z1, z2]) rfl ?_
    exact ⟨_, _, _, _, _, _, _, _, rfl, (HBk.out.up (M' := m + 120) (by omega)).ret HS0.out HG0.out HB.out (by omega) (by omega) _ _⟩
  have hb2 : (q == 2) = false := by rw [beq_eq_false_iff_ne]; exact q2
  by_cases q3 : q = 3
  · subst q3
    have HD := Lib.hid (HX.out.below ((Below.refl _ _).drew))
    obtain ⟨o1, o2, o3, o4, o5⟩ := HD.out.r.cells
    go_upto_region 14 with fail
    go_region_law (first
      | (go_simp; go_at_call 114; refine (pick_small B a len cap _ (by omega) 9 (by omega) (by omega) w4.drew HD.out.r.ok).mono ?_; rintro e w5 ⟨z1, rfl, _, hok5, hg5⟩; have HX5 := Lib.hid (HD.out.step HB1.out hg5 hok5); obtain ⟨c1, c2, c3, c4, c5⟩ := HX5.out.r.cells; clear hok5 hg5)
      | (go_simp; go_at_call 114; refine (pick_small B a len cap _ (by omega) 9 (by omega) (by omega) w5 HX5.out.r.ok).mono ?_; rintro e w6 ⟨z2, rfl, _, hok6, hg6⟩; have HX6 := Lib.hid (HX5.out.step HB1.out hg6 hok6); obtain ⟨e1, e2, e3, e4, e5⟩ := HX6.out.r.cells; clear hok6 hg6; have hown := HX6.out.r.rel; have hle := HX6.out.r.gr.size)
      | (refine step_append_lies _ (by rfl) _ _ _ (by rfl) W.heap.size 39 i2 _ 2 16 Try.underlying25 hi2 hv0 hv1 hv2 rfl (by omega) (.slice p2 n2 d2) n2 (flat L2) (by rfl) (hown.alloc _) ⟨w6.heap.size, 0, none⟩ 1 1 [.int .i64 z1, .int .i64 z2] (by rfl) (by rfl) (Elems.cell_two_new _ _ _ _) (by simp [Value.oneCell']) (by omega) (by unfold maxLen; omega) (by omega) (by simp; omega) (w6.heap.size + 1) (by simp) ?_; intro g9 cap9 w9 hown9 hgrow9 hat9 hltg9; obtain ⟨y1, y2, y3, y4⟩ := HX6.out.r.after (below_alloc w6 (.cells #[.int .i64 z1, .int .i64 z2] 39)) hgrow9 HX6.out.r.f2; have HX7 := Lib.hid (HX6.out.relApp HB1.out (below_alloc w6 (.cells #[.int .i64 z1, .int .i64 z2] 39)) hown9 hgrow9 (hat9.imp_right (fun e => by omega)))))
    all_goals clear o1 o2 o3 o4 o5 c1 c2 c3 c4 c5 e1 e2 e3 e4 e5 y1 y2 y3 y4 hown9 hgrow9 hat9 hltg9 hown
    all_goals obtain ⟨o1, o2, o3, o4, o5⟩ := HX7.out.r.cells
    all_goals obtain ⟨k1, k2, k3, k4, k5⟩ := HX7.out.xcells
    all_goals obtain ⟨b', off', x9, y9, hpe', hx9, s1, s2⟩ := (holds_own HX7.out.r.ctx).at i hin
    all_goals injection hpe' with hpe'
    all_goals injection hpe' with hpe1 hpe2
    all_goals subst hpe1 hpe2
    all_goals rw [Nat.zero_add] at s1 s2
    all_goals have s3 := own_frozen HX7.out.r.ctx (i * 2)
    all_goals have s4 := own_frozen HX7.out.r.ctx (i * 2 + 1)
    all_goals have HBk := Lib.hid (HX7.out.back HB1.out i)
    all_goals obtain ⟨t1, t2, t3, t4, t5⟩ := HBk.out.cells
    all_goals obtain ⟨r1, r2, r3, r4, z1, z2⟩ := HBk.out.other HRB.out (by have := HB.out; omega) (.slice (some ⟨b, 0, none⟩) n d1) (.slice (some ⟨g9, 0, none⟩) (n2 + 1) cap9)
    all_goals clear hx9
    all_goals go_wp2_with fail
    all_goals refine bodyPost_ret (v := .agg #[.slice (some ⟨b, 0, none⟩) n d1, .slice (some ⟨g9, 0, none⟩) (n2 + 1) cap9]) (by simp [results, Try.results55, go_sem, z1, z2]) rfl ?_
    all_goals exact ⟨_, _, _, _, _, _, _, _, rfl, (HBk.out.up (M' := m + 120) (by omega)).ret HS0.out HG0.out HB.out (by omega) (by omega) _ _⟩
  have hb3 : (q == 3) = false := by rw [beq_eq_false_iff_ne]; exact q3
  by_cases q4 : q = 4
  · subst q4
    have HR0 : Hid (RSt W w4 B a len cap (m + 60 + 1 + 1 + 0) gb (some ⟨b, 0, none⟩) n d1 p2 n2 d2 L1 L2) := HX.out.r
    go_wp2_with fail
    go_loopw [6] (fun s6 wr => ∃ (k N : Nat) (p3 : Option Addr) (d3 : Nat) (L3 : List (Int × Int)), k ≤ 12 ∧ s6 = .int .i64 k ∧ N ≤ 20 ∧ Hid (RSt W wr B a len cap (m + 60 + 1 + 1 + k) gb p3 N d3 p2 n2 d2 L3 L2)) (fun s6 _ => 12 - (intOf s6).toNat)
    case atStart => exact ⟨0, n, _, _, _, by omega, rfl, by omega, HR0⟩
    case round =>
      clear HR0 HX
      obtain ⟨k, N, p3, d3, L3, hk, rfl, hN, HR⟩ := hrel
      have HD := Lib.hid (HR.out.below ((Below.refl _ _).drew))
      obtain ⟨o1, o2, o3, o4, o5⟩ := HD.out.cells
      obtain ⟨z, ⟨hz0, hz1⟩, hC⟩ := pick_det B a len cap _ (by omega) 2 (by omega) (by omega) wr.drew HD.out.ok
      have HC := Lib.hid hC
      have hwz : IntKind.i64.wrap (10 + z) = 10 + z := by rw [IntKind.wrap_i64]; omega
      clear hC
      go_upto_region 17 with fail
      go_cut [75] (fun s75 wx => s75 = .bool (decide ((N : Int) < 10 + z ∧ k < 12)) ∧ Hid (RSt W wx B a len cap (m + 60 + 1 + 1 + k + 1) gb p3 N d3 p2 n2 d2 L3 L2))
      case first =>
        by_cases hc : (N : Int) < 10 + z
        · have hd : decide ((N : Int) < IntKind.i64.wrap (10 + z)) = true := by rw [hwz]; simpa using hc
          by_cases hk12 : k < 12
          · have hkl : (k : Int) < 12 := by omega
            have hdd : decide ((N : Int) < 10 + z ∧ k < 12) = true := decide_eq_true ⟨hc, hk12⟩
            have HDD := Lib.hid hdd
            clear hdd
            go_region_held3 (fun X => X.cell? ⟨gb, 0, none⟩ = some (.slice p3 N d3)) (first | exact c1 | exact o1)
            (first
            | (go_at_call 114; refine HC.out.mono ?_; rintro e w5 ⟨rfl, hok5, hg5⟩; have HR5 := Lib.hid (HD.out.step HB1.out hg5 hok5); obtain ⟨c1, c2, c3, c4, c5⟩ := HR5.out.cells; clear hok5 hg5)
            | fail)
            all_goals go_wp2_with fail
            all_goals go_meet
            all_goals exact ⟨by first | (rw [HDD.out]; done) | (rw [HDD.out]; simp; omega) | (rw [HDD.out]; simp; intros; omega), HR5⟩
          · have hkl : ¬ (k : Int) < 12 := by omega
            have hdd : decide ((N : Int) < 10 + z ∧ k < 12) = false := decide_eq_false (fun h => hk12 h.2)
            have HDD := Lib.hid hdd
            clear hdd
            go_region_held3 (fun X => X.cell? ⟨gb, 0, none⟩ = some (.slice p3 N d3)) (first | exact c1 | exact o1)
            (first
            | (go_at_call 114; refine HC.out.mono ?_; rintro e w5 ⟨rfl, hok5, hg5⟩; have HR5 := Lib.hid (HD.out.step HB1.out hg5 hok5); obtain ⟨c1, c2, c3, c4, c5⟩ := HR5.out.cells; clear hok5 hg5)
            | fail)
            all_goals go_wp2_with fail
            all_goals go_meet
            all_goals exact ⟨by first | (rw [HDD.out]; done) | (rw [HDD.out]; simp; omega) | (rw [HDD.out]; simp; intros; omega), HR5⟩
        · have hd : decide ((N : Int) < IntKind.i64.wrap (10 + z)) = false := by rw [hwz]; simpa using hc
          have hd2 : decide ((N : Int) < 10 + z) = false := by simpa using hc
          have hdd : decide ((N : Int) < 10 + z ∧ k < 12) = false := decide_eq_false (fun h => hc h.1)
          have HDD := Lib.hid hdd
          clear hdd
          clear hc
          first
            | (go_region_law (first
                | (go_simp; go_at_call 114; refine HC.out.mono ?_; rintro e w5 ⟨rfl, hok5, hg5⟩; have HR5 := Lib.hid (HD.out.step HB1.out hg5 hok5); obtain ⟨c1, c2, c3, c4, c5⟩ := HR5.out.cells; clear hok5 hg5)))
            | fail
          all_goals go_wp2_with fail
          all_goals go_meet
          all_goals exact ⟨by first | (rw [HDD.out]; done) | (rw [HDD.out]; simp; omega) | (rw [HDD.out]; simp; intros; omega), HR5⟩
      case rest =>
        obtain ⟨rfl, HR5⟩ := hcut
        clear o1 o2 o3 o4 o5 HC hwz HD HR
        by_cases hc : (N : Int) < 10 + z ∧ k < 12
        · rw [decide_eq_true hc]
          obtain ⟨hc1, hk12⟩ := hc
          have hown := HR5.out.ctx
          have hle := HR5.out.gr.size
          obtain ⟨c1, c2, c3, c4, c5⟩ := HR5.out.cells
          go_upto_region 18 with (at_builtin; go_loud (refine wpList_append_lies _ rfl _ _ 24 rfl W.heap.size 55 i1 (.agg #[.int .i64 0, .int .i64 0]) 2 16 Try.underlying24 hi1 hy0 hy1 hy2 rfl (by decide) (.slice p3 N d3) N (flat L3) rfl (hown.alloc _) ⟨wc.heap.size, 0, none⟩ 1 1 [.int .i64 (100 + (k : Int)), .int .i64 1] rfl rfl (Elems.cell_two_new _ _ _ _) (by simp [Value.oneCell']) (by decide) (by unfold maxLen; omega) (by omega) (by simp; omega) (wc.heap.size + 1) (by simp) ?_; intro g9 cap9 w9 hown9 hgrow9 hat9 hlt9; obtain ⟨y1, y2, y3, y4⟩ := HR5.out.after (below_alloc wc (.cells #[.int .i64 (100 + (k : Int)), .int .i64 1] 55)) hgrow9 HR5.out.f1; have HR7 := Lib.hid (HR5.out.ctxApp HB1.out (below_alloc wc (.cells #[.int .i64 (100 + (k : Int)), .int .i64 1] 55)) hown9 hgrow9 (hat9.imp_right (fun e => by omega)))))
          clear hown9 hgrow9 hat9 hlt9 hown c1 c2 c3 c4 y1 y2 y3 y4
          go_wp2_with fail
          exact ⟨⟨k + 1, N + 1, _, _, _, by omega, by go_num, by omega, HR7⟩, by simp [intOf]; omega⟩
        · rw [decide_eq_false hc]
          obtain ⟨t1, t2, t3, t4, t5⟩ := HR5.out.cells
          obtain ⟨r1, r2, r3, r4, z1, z2⟩ := HR5.out.other HRB.out (by have := HB.out; omega) (.slice p3 N d3) (.slice p2 n2 d2)
          go_wp2_with fail
          refine bodyPost_ret (v := .agg #[.slice p3 N d3, .slice p2 n2 d2]) (by simp [results, Try.results55, go_sem, z1, z2]) rfl ?_
          exact ⟨_, _, _, _, _, _, _, _, rfl, (HR5.out.up (M' := m + 120) (by omega)).ret HS0.out HG0.out HB.out (by omega) (by omega) _ _⟩
  have hb4 : (q == 4) = false := by rw [beq_eq_false_iff_ne]; exact q4
  by_cases q5 : q = 5
  · subst q5
    go_wp2_with fail
    refine (some_any B a len cap _ (by omega) 7 (by omega) w4 HX.out.r.ok).mono ?_
    rintro e w5 ⟨p5, d5, K, rfl, hc5⟩
    have HQ := Lib.hid (HX.out.r.step HB1.out hc5.gr hc5.ok)
    have HR6 := Lib.hid (HX.out.r.putC HB1.out hc5)
    obtain ⟨o1, o2, o3, o4, o5⟩ := HQ.out.cells
    obtain ⟨g5, off5, x5, y5, hp5, _, _, _⟩ := (holds_own HR6.out.ctx).at 0 (by omega)
    subst hp5
    obtain ⟨gz, hgz⟩ := own_zero HR6.out.ctx
    injection hgz with hz1 hz2
    subst hz1 hz2
    clear hc5 HX
    go_upto_region 23 with fail
    clear o1 o2 o3 o4 o5 HQ
    generalize w5.setCell ⟨gb, 0, none⟩ (.slice (some ⟨g5, 0, none⟩) 7 d5) = w6 at *
    have HE := Lib.hid (HR6.out.below (below_alloc w6 (.cells #[] 39)))
    have HR7 := Lib.hid (HE.out.putR (K2 := []) HB1.out (ownsRow_base (Elems.empty_own w6) HR6.out.gr.size) (fun e => by have e2 : w6.heap.size = gb := (by simpa [Value.ownBlock] using e); have := HR6.out.cells.2.2.2.2; omega))
    obtain ⟨o1, o2, o3, o4, o5⟩ := HR6.out.cells
    obtain ⟨c1, c2, c3, c4, c5⟩ := HE.out.cells
    go_upto_region 24 with fail
    rw [World.setCell_alloc_past _ gb 1 _ o5] at HR7
    clear o1 o2 o3 o4 o5 c1 c2 c3 c4 c5 HE HR6
    generalize (w6.setCell ⟨gb, 1, none⟩ (.slice (some ⟨w6.heap.size, 0, none⟩) 0 0)).alloc (.cells #[] 39) = w7 at *
    go_wp2_with fail
    go_loopw [7] (fun s7 wr => ∃ (A N : Nat) (p3 : Option Addr) (d3 : Nat) (L3 : List (Int × Int)), A ≤ 7 ∧ s7 = .int .i64 A ∧ (N = 25 ∧ 25 ≤ 6 * A ∨ N ≤ 25 ∧ N = 6 * A) ∧ Hid (L3.length = N) ∧ Hid (RSt W wr B a len cap (m + 60 + 1 + 1 + 0 + 2 * 7) gb (some ⟨g5, 0, none⟩) 7 d5 p3 N d3 K L3)) (fun s7 _ => 7 - (intOf s7).toNat)
    case atStart => exact ⟨0, 0, _, _, [], by omega, rfl, .inr ⟨by omega, rfl⟩, rfl, HR7⟩
    case round =>
      clear HR7
      obtain ⟨A, N, p3, d3, L3, hA, rfl, hN, HL3, HR⟩ := hrel
      by_cases hA7 : A < 7
      · have hAi : (A : Int) < 7 := by omega
        have hA0 : (0 : Int) ≤ (A : Int) := by omega
        go_wp2_with fail
        go_loopw [8] (fun s8 wr => ∃ (k N : Nat) (p3 : Option Addr) (d3 : Nat) (L3 : List (Int × Int)), k ≤ 7 ∧ s8 = .int .i64 k ∧ (N = 25 ∧ (A < k ∧ 26 ≤ 6 * A + k ∨ k ≤ A ∧ 25 ≤ 6 * A + k) ∨ N ≤ 25 ∧ (A < k ∧ N + 1 = 6 * A + k ∨ k ≤ A ∧ N = 6 * A + k)) ∧ Hid (L3.length = N) ∧ Hid (RSt W wr B a len cap (m + 60 + 1 + 1 + 0 + 2 * 7) gb (some ⟨g5, 0, none⟩) 7 d5 p3 N d3 K L3)) (fun s8 _ => 7 - (intOf s8).toNat)
        case atStart => exact ⟨0, N, p3, d3, L3, by omega, rfl, by omega, HL3, HR⟩
        case round =>
          clear HR HL3 hN
          obtain ⟨k, N, p3, d3, L3, hk, rfl, hN, HL3, HR⟩ := hrel
          obtain ⟨o1, o2, o3, o4, o5⟩ := HR.out.cells
          by_cases hk7 : k < 7
          · have hki : (k : Int) < 7 := by omega
            have hk0 : (0 : Int) ≤ (k : Int) := by omega
            by_cases hN25 : N < 25
            · have hNi : (N : Int) < 25 := by omega
              by_cases hak : A = k
              · subst hak
                have hne : ((A : Int) != (A : Int)) = false := by simp
                go_wp2_with fail
                exact ⟨⟨A + 1, N, p3, d3, L3, by omega, by go_num, by omega, HL3, HR⟩, by simp [intOf]; omega⟩
              · have hne : ((A : Int) != (k : Int)) = true := by rw [bne_iff_ne]; omega
                have HD := Lib.hid (HR.out.below ((Below.refl _ _).drew))
                obtain ⟨b1, off1, xa, ya, q1, _, e1, _⟩ := (holds_own HD.out.ctx).at A hA7
                obtain ⟨b2, off2, xb, yb, q2, _, e2, _⟩ := (holds_own HD.out.ctx).at k hk7
                injection q1 with q1
                injection q1 with q11 q12
                subst q11 q12
                injection q2 with q2
                injection q2 with q21 q22
                subst q21 q22
                rw [Nat.zero_add] at e1 e2
                obtain ⟨c1, c2, c3, c4, c5⟩ := HD.out.cells
                have hown := HD.out.rel
                have hle := HR.out.gr.size
                go_upto_region 31 with fail
                go_region_law (first | (refine step_append_lies _ (by rfl) _ _ _ (by rfl) W.heap.size 39 i2 _ 2 16 Try.underlying25 hi2 hv0 hv1 hv2 rfl (by omega) (.slice p3 N d3) N (flat L3) (by rfl) (hown.alloc _) ⟨wr.drew.heap.size, 0, none⟩ 1 1 [.int .i64 xa, .int .i64 xb] (by rfl) (by rfl) (Elems.cell_two_new _ _ _ _) (by simp [Value.oneCell']) (by omega) (by unfold maxLen; omega) (by omega) (by simp; omega) (wr.drew.heap.size + 1) (by simp) ?_; intro g9 cap9 w9 hown9 hgrow9 hat9 hltg9; obtain ⟨y1, y2, y3, y4⟩ := HD.out.after (below_alloc wr.drew (.cells #[.int .i64 xa, .int .i64 xb] 39)) hgrow9 HD.out.f2; have HR8 := Lib.hid (HD.out.relApp HB1.out (below_alloc wr.drew (.cells #[.int .i64 xa, .int .i64 xb] 39)) hown9 hgrow9 (hat9.imp_right (fun e => by omega)))))
                all_goals clear o1 o2 o3 o4 o5 c1 c2 c3 c4 c5 y1 y2 y3 y4 hown9 hgrow9 hat9 hltg9 hown e1 e2
                all_goals have HL8 : Hid ((L3 ++ [(xa, xb)]).length = N + 1) := by have := HL3.out; unfold Hid; simp; omega
                all_goals go_wp2_with fail
                all_goals exact ⟨⟨k + 1, N + 1, _, _, _, by omega, by go_num, by omega, HL8, HR8⟩, by simp [intOf]; omega⟩
            · have hNi : ¬ (N : Int) < 25 := by omega
              go_wp2_with fail
              exact ⟨⟨A + 1, N, p3, d3, L3, by omega, by go_num, by omega, HL3, HR⟩, by simp [intOf]; omega⟩
          · have hki : ¬ (k : Int) < 7 := by omega
            go_wp2_with fail
            exact ⟨⟨A + 1, N, p3, d3, L3, by omega, by go_num, by omega, HL3, HR⟩, by simp [intOf]; omega⟩
      · have hAi : ¬ (A : Int) < 7 := by omega
        obtain rfl : N = 25 := by omega
        obtain ⟨g3, off3, x3, y3, hp3, _, _, _⟩ := (holds_own HR.out.rel).at 0 (by omega)
        subst hp3
        obtain ⟨gz, hgz⟩ := own_zero HR.out.rel
        injection hgz with hz1 hz2
        subst hz1 hz2
        have hc2 := HR.out.cap2
        have HD := Lib.hid (HR.out.below ((Below.refl _ _).drew))
        obtain ⟨o1, o2, o3, o4, o5⟩ := HD.out.cells
        obtain ⟨z, ⟨hz0, hz1⟩, hC⟩ := pick_det B a len cap _ (by omega) 2 (by omega) (by omega) wr.drew HD.out.ok
        have HC := Lib.hid hC
        clear hC
        go_upto_region 32 with fail
        have hz : z = 0 ∨ z = 1 := by omega
        have h24 : 24 ≤ d3 := by omega
        have h25 : 25 ≤ d3 := by omega
        have h24i : (24 : Int) ≤ (d3 : Int) := by omega
        have h25i : (25 : Int) ≤ (d3 : Int) := by omega
        have hw24 : IntKind.i64.wrap 24 = 24 := by rw [IntKind.wrap_i64]; omega
        have hw25 : IntKind.i64.wrap 25 = 25 := by rw [IntKind.wrap_i64]; omega
        rcases hz with rfl | rfl
        · go_region_law (first
            | (go_simp; go_at_call 114; refine HC.out.mono ?_; rintro e w5 ⟨rfl, hok5, hg5⟩; have HR5 := Lib.hid (HD.out.step HB1.out hg5 hok5); obtain ⟨c1, c2, c3, c4, c5⟩ := HR5.out.cells; clear hok5 hg5))
          all_goals clear o1 o2 o3 o4 o5 c1 c2 c3 c4 c5
          all_goals have HR8 := Lib.hid (HR5.out.putR HB1.out (pop2 HL3.out HR5.out.rel) HR5.out.f2)
          all_goals obtain ⟨t1, t2, t3, t4, t5⟩ := HR8.out.cells
          all_goals obtain ⟨r1, r2, r3, r4, z1, z2⟩ := HR8.out.other HRB.out (by have := HB.out; omega) (.slice (some ⟨g5, 0, none⟩) 7 d5) (.slice (some ⟨g3, 0, none⟩) 24 d3)
          all_goals go_wp2_with fail
          all_goals refine bodyPost_ret (v := .agg #[.slice (some ⟨g5, 0, none⟩) 7 d5, .slice (some ⟨g3, 0, none⟩) 24 d3]) (by simp [results, Try.results55, go_sem, z1, z2]) rfl ?_
          all_goals exact ⟨_, _, _, _, _, _, _, _, rfl, (HR8.out.up (M' := m + 120) (by omega)).ret HS0.out HG0.out HB.out (by omega) (by omega) _ _⟩

        · go_region_law (first
            | (go_simp; go_at_call 114; refine HC.out.mono ?_; rintro e w5 ⟨rfl, hok5, hg5⟩; have HR5 := Lib.hid (HD.out.step HB1.out hg5 hok5); obtain ⟨c1, c2, c3, c4, c5⟩ := HR5.out.cells; clear hok5 hg5))
          all_goals clear o1 o2 o3 o4 o5 c1 c2 c3 c4 c5
          all_goals have HR8 := Lib.hid (HR5.out.putR HB1.out HR5.out.rel HR5.out.f2)
          all_goals obtain ⟨t1, t2, t3, t4, t5⟩ := HR8.out.cells
          all_goals obtain ⟨r1, r2, r3, r4, z1, z2⟩ := HR8.out.other HRB.out (by have := HB.out; omega) (.slice (some ⟨g5, 0, none⟩) 7 d5) (.slice (some ⟨g3, 0, none⟩) 25 d3)
          all_goals go_wp2_with fail
          all_goals refine bodyPost_ret (v := .agg #[.slice (some ⟨g5, 0, none⟩) 7 d5, .slice (some ⟨g3, 0, none⟩) 25 d3]) (by simp [results, Try.results55, go_sem, z1, z2]) rfl ?_
          all_goals exact ⟨_, _, _, _, _, _, _, _, rfl, (HR8.out.up (M' := m + 120) (by omega)).ret HS0.out HG0.out HB.out (by omega) (by omega) _ _⟩
  have hb5 : (q == 5) = false := by rw [beq_eq_false_iff_ne]; exact q5
  obtain ⟨o1, o2, o3, o4, o5⟩ := HX.out.r.cells
  obtain ⟨k1, k2, k3, k4, k5⟩ := HX.out.xcells
  obtain ⟨b', off', x9, y9, hpe', hx9, s1, s2⟩ := (holds_own HX.out.r.ctx).at i hin
  injection hpe' with hpe'
  injection hpe' with hpe1 hpe2
  subst hpe1 hpe2
  rw [Nat.zero_add] at s1 s2
  have s3 := own_frozen HX.out.r.ctx (i * 2)
  have s4 := own_frozen HX.out.r.ctx (i * 2 + 1)
  have HBk := Lib.hid (HX.out.back HB1.out i)
  obtain ⟨t1, t2, t3, t4, t5⟩ := HBk.out.cells
  obtain ⟨r1, r2, r3, r4, z1, z2⟩ := HBk.out.other HRB.out (by have := HB.out; omega) (.slice (some ⟨b, 0, none⟩) n d1) (.slice p2 n2 d2)
  clear hx9
  go_wp2_with fail
  refine bodyPost_ret (v := .agg #[.slice (some ⟨b, 0, none⟩) n d1, .slice p2 n2 d2]) (by simp [results, Try.results55, go_sem, z1, z2]) rfl ?_
  exact ⟨_, _, _, _, _, _, _, _, rfl, (HBk.out.up (M' := m + 120) (by omega)).ret HS0.out HG0.out HB.out (by omega) (by omega) _ _⟩
end Go.Proofs.Ythcjembekadijaa.DrwN
