/- The program's FirstConflict. -/
import Derived.Test.YtmjhgjlnpnkmkaaFcM
import Derived.Test.YtmjhgjlnpnkmkaaIvI
import Derived.Test.YtmjhgjlnpnkmkaaLpF
import Derived.Test.YtmjhgjlnpnkmkaaEvP
import Derived.Test.YtmjhgjlnpnkmkaaQsh
import Derived.Sort.CutIn
namespace Go.Proofs.Ytmjhgjlnpnkmkaa.FcI
open Go.RowKit Go.Shelf Pairs Rec RecEq Chain Find2 GoodM Keep GivesI Order Idx Da DaT DaG EvM EvP IvM IvI LpM LpI LpF FcM Qsp Qsh
attribute [local go_sem] Oper.semAt_some
set_option linter.unusedVariables false
def Says4 (f : FuncId) : Prop := ∀ (a1 a2 p : Option Addr) (n1 c1 n2 c2 np cp : Nat) (l m : List (Int × Int)) (L : List Dt) (w : World), n1 ≤ 1048576 → n2 ≤ 1048576 → np ≤ 1048576 → Holds w a1 n1 l → Holds w a2 n2 m → HoldsD w p np L →
    Calls Try.prog f #[.agg #[.slice a1 n1 c1, .slice a2 n2 c2], .slice p np cp] w fun e w' => e = .returned (.tuple #[.int .i64 (fcP l m L).1, .int .i64 (fcP l m L).2.1, .bool (fcP l m L).2.2.1, .bool (fcP l m L).2.2.2]) ∧ Below w.heap.size w w'
/-- A record's box and four boxes for results. -/
theorem boxes5 (w : World) (u v a b c d : Value) (t t1 t2 t3 t4 : TypeId) : ∃ W, (((((w.alloc (.cells #[u, v] t)).alloc (.cells #[a] t1)).alloc (.cells #[b] t2)).alloc (.cells #[c] t3)).alloc (.cells #[d] t4)) = W ∧ W.heap.size = w.heap.size + 5 ∧
    W.heap[w.heap.size]? = some (.cells #[u, v] t) ∧ W.heap[w.heap.size + 1]? = some (.cells #[a] t1) ∧ W.heap[w.heap.size + 2]? = some (.cells #[b] t2) ∧ W.heap[w.heap.size + 3]? = some (.cells #[c] t3) ∧ W.heap[w.heap.size + 4]? = some (.cells #[d] t4) ∧ Below w.heap.size w W := by
  have new : ∀ (w : World) (o : Obj) (k : Nat), k = w.heap.size → (w.alloc o).heap[k]? = some o := fun w o k h => by
    subst h
    show (w.heap.push o)[w.heap.size]? = _
    rw [Array.getElem?_push, if_pos rfl]
  have old : ∀ (w : World) (o : Obj) (k : Nat), k < w.heap.size → (w.alloc o).heap[k]? = w.heap[k]? := fun w o k h => Below.heap_alloc w o k h
  refine ⟨_, rfl, by simp, ?_, ?_, ?_, ?_, ?_, ?_⟩
  · rw [old _ _ _ (by simp <;> omega), old _ _ _ (by simp <;> omega), old _ _ _ (by simp <;> omega), old _ _ _ (by simp), new _ _ _ rfl]
  · rw [old _ _ _ (by simp <;> omega), old _ _ _ (by simp <;> omega), old _ _ _ (by simp), new _ _ _ (by simp)]
  · rw [old _ _ _ (by simp <;> omega), old _ _ _ (by simp), new _ _ _ (by simp)]
  · rw [old _ _ _ (by simp), new _ _ _ (by simp)]
  · rw [new _ _ _ (by simp)]
  · exact ((((Below.refl _ w).alloc (Nat.le_refl _) _).alloc (by simp) _).alloc (by simp <;> omega) _).alloc (by simp <;> omega) _ |>.alloc (by simp <;> omega) _
structure B4v (W : World) (b : Nat) (v1 v2 v3 v4 : Value) : Prop where
  one : Boxed W (b + 1) 3 v1
  two : Boxed W (b + 1 + 1) 3 v2
  three : Boxed W (b + 1 + 1 + 1) 4 v3
  four : Boxed W (b + 1 + 1 + 1 + 1) 4 v4
abbrev B4 (W : World) (b : Nat) (x y : Int) (u v : Bool) : Prop := B4v W b (.int .i64 x) (.int .i64 y) (.bool u) (.bool v)
theorem B4v.s1 {W : World} {b : Nat} {v1 v2 v3 v4 : Value} (h : B4v W b v1 v2 v3 v4) (u : Value) : B4v (W.setCell ⟨b + 1, 0, none⟩ u) b u v2 v3 v4 := ⟨h.one.set _, h.two.other (by omega) _, h.three.other (by omega) _, h.four.other (by omega) _⟩
theorem B4v.s2 {W : World} {b : Nat} {v1 v2 v3 v4 : Value} (h : B4v W b v1 v2 v3 v4) (u : Value) : B4v (W.setCell ⟨b + 1 + 1, 0, none⟩ u) b v1 u v3 v4 := ⟨h.one.other (by omega) _, h.two.set _, h.three.other (by omega) _, h.four.other (by omega) _⟩
theorem B4v.s3 {W : World} {b : Nat} {v1 v2 v3 v4 : Value} (h : B4v W b v1 v2 v3 v4) (u : Value) : B4v (W.setCell ⟨b + 1 + 1 + 1, 0, none⟩ u) b v1 v2 u v4 := ⟨h.one.other (by omega) _, h.two.other (by omega) _, h.three.set _, h.four.other (by omega) _⟩
theorem B4v.s4 {W : World} {b : Nat} {v1 v2 v3 v4 : Value} (h : B4v W b v1 v2 v3 v4) (u : Value) : B4v (W.setCell ⟨b + 1 + 1 + 1 + 1, 0, none⟩ u) b v1 v2 v3 u := ⟨h.one.other (by omega) _, h.two.other (by omega) _, h.three.other (by omega) _, h.four.set _⟩
theorem B4v.set {W : World} {b : Nat} {v1 v2 v3 v4 : Value} {x' y' : Int} {u' v' : Bool} (h : B4v W b v1 v2 v3 v4) :
    B4 ((((W.setCell ⟨b + 1, 0, none⟩ (.int .i64 x')).setCell ⟨b + 1 + 1, 0, none⟩ (.int .i64 y')).setCell ⟨b + 1 + 1 + 1, 0, none⟩ (.bool u')).setCell ⟨b + 1 + 1 + 1 + 1, 0, none⟩ (.bool v')) b x' y' u' v' :=
  (((h.s1 _).s2 _).s3 _).s4 _
theorem B4v.below {W W' : World} {b : Nat} {v1 v2 v3 v4 : Value} (h : B4v W b v1 v2 v3 v4) (hb : Below W.heap.size W W') : B4v W' b v1 v2 v3 v4 :=
  ⟨(hb.block _ h.one.lt).trans h.one, (hb.block _ h.two.lt).trans h.two, (hb.block _ h.three.lt).trans h.three, (hb.block _ h.four.lt).trans h.four⟩
/-- A world of the class: some draws, some new blocks, some writes into the four boxes. -/
structure Gw where
  d : Nat
  os : Array Obj
  ws : List (Fin 4 × Value)
instance : Inhabited Gw := ⟨⟨0, #[], []⟩⟩
def puts (b : Nat) (W : World) (ws : List (Fin 4 × Value)) : World := ws.foldl (fun X u => X.setCell ⟨b + 1 + u.1.val, 0, none⟩ u.2) W
def optW (W : World) (b : Nat) (q : Gw) : World := puts b (Sort.grow (redrawn W q.d) q.os) q.ws
theorem puts_cell {b : Nat} {p : Addr} {v : Value} (h1 : p.block ≤ b ∨ b + 1 + 3 < p.block) : ∀ (ws : List (Fin 4 × Value)) (W : World), W.cell? p = some v → (puts b W ws).cell? p = some v
  | [], W, h => h
  | u :: ws, W, h => puts_cell h1 ws _ (by
      have := u.1.isLt
      rw [World.cell?_setCell_far _ _ _ _ (by show b + 1 + u.1.val ≠ p.block; omega)]
      exact h)
theorem optW_cell {W : World} {b k o : Nat} {v : Value} (h : W.cell? ⟨k, o, none⟩ = some v) (hk : k ≤ b ∨ b + 1 + 3 < k) (q : Gw) : (optW W b q).cell? ⟨k, o, none⟩ = some v :=
  puts_cell hk _ _ (cell_regrown h q.d q.os)
theorem puts_b4 {b : Nat} : ∀ (ws : List (Fin 4 × Value)) (W : World) (v1 v2 v3 v4 : Value), B4v W b v1 v2 v3 v4 → ∃ u1 u2 u3 u4, B4v (puts b W ws) b u1 u2 u3 u4
  | [], W, _, _, _, _, h => ⟨_, _, _, _, h⟩
  | (⟨0, _⟩, x) :: ws, W, _, _, _, _, h => puts_b4 ws _ _ _ _ _ (h.s1 x)
  | (⟨1, _⟩, x) :: ws, W, _, _, _, _, h => puts_b4 ws _ _ _ _ _ (h.s2 x)
  | (⟨2, _⟩, x) :: ws, W, _, _, _, _, h => puts_b4 ws _ _ _ _ _ (h.s3 x)
  | (⟨3, _⟩, x) :: ws, W, _, _, _, _, h => puts_b4 ws _ _ _ _ _ (h.s4 x)
theorem puts_below {n₀ b : Nat} {w : World} (hb : n₀ ≤ b) : ∀ (ws : List (Fin 4 × Value)) (W : World), Below n₀ w W → Below n₀ w (puts b W ws)
  | [], W, h => h
  | u :: ws, W, h => puts_below hb ws _ (h.setCell (p := ⟨b + 1 + u.1.val, 0, none⟩) (by show n₀ ≤ b + 1 + u.1.val; omega) _)
theorem puts_others {b : Nat} {w : World} : ∀ (ws : List (Fin 4 × Value)) (W : World), KeepsOthers w W → KeepsOthers w (puts b W ws)
  | [], W, h => h
  | u :: ws, W, h => puts_others ws _ (h.trans (KeepsOthers.setCell _ _ _))
theorem put_one {W : World} {b d : Nat} {os : Array Obj} {ws : List (Fin 4 × Value)} (k : Fin 4) (v : Value) : optW W b ⟨d, os, ws ++ [(k, v)]⟩ = (optW W b ⟨d, os, ws⟩).setCell ⟨b + 1 + k.val, 0, none⟩ v := by
  unfold optW puts
  rw [List.foldl_append]
  rfl
theorem B4v.putObj {W : World} {b D : Nat} {v1 v2 v3 v4 : Value} (h : B4v W b v1 v2 v3 v4) (hD : b + 1 + 1 + 1 + 1 < D) (o : Obj) : B4v (W.putObj D o) b v1 v2 v3 v4 :=
  ⟨(World.putObj_heap_other (by omega)).trans h.one, (World.putObj_heap_other (by omega)).trans h.two, (World.putObj_heap_other (by omega)).trans h.three, (World.putObj_heap_other (by omega)).trans h.four⟩
theorem others4 (W : World) (b : Nat) (u1 u2 u3 u4 : Value) : KeepsOthers W ((((W.setCell ⟨b + 1, 0, none⟩ u1).setCell ⟨b + 1 + 1, 0, none⟩ u2).setCell ⟨b + 1 + 1 + 1, 0, none⟩ u3).setCell ⟨b + 1 + 1 + 1 + 1, 0, none⟩ u4) :=
  (((KeepsOthers.setCell _ _ _).trans (KeepsOthers.setCell _ _ _)).trans (KeepsOthers.setCell _ _ _)).trans (KeepsOthers.setCell _ _ _)
theorem below_set4 {n₀ : Nat} {w W : World} {b : Nat} {u1 u2 u3 u4 : Value} (h : Below n₀ w W) (hb : n₀ ≤ b) :
    Below n₀ w ((((W.setCell ⟨b + 1, 0, none⟩ u1).setCell ⟨b + 1 + 1, 0, none⟩ u2).setCell ⟨b + 1 + 1 + 1, 0, none⟩ u3).setCell ⟨b + 1 + 1 + 1 + 1, 0, none⟩ u4) :=
  (((h.setCell (p := ⟨b + 1, 0, none⟩) (by show n₀ ≤ b + 1; omega) _).setCell (p := ⟨b + 1 + 1, 0, none⟩) (by show n₀ ≤ b + 1 + 1; omega) _).setCell (p := ⟨b + 1 + 1 + 1, 0, none⟩) (by show n₀ ≤ b + 1 + 1 + 1; omega) _).setCell (p := ⟨b + 1 + 1 + 1 + 1, 0, none⟩) (by show n₀ ≤ b + 1 + 1 + 1 + 1; omega) _
theorem results4 (T : Array Value) (b : Nat) (x y : Int) (u v : Bool) (W : World) (h : B4 W b x y u v) (h4 : T[4]?.getD undef = .pointer (some ⟨b + 1, 0, none⟩)) (h5 : T[5]?.getD undef = .pointer (some ⟨b + 1 + 1, 0, none⟩)) (h6 : T[6]?.getD undef = .pointer (some ⟨b + 1 + 1 + 1, 0, none⟩)) (h7 : T[7]?.getD undef = .pointer (some ⟨b + 1 + 1 + 1 + 1, 0, none⟩)) :
    (results Try.f25 T).run Try.prog W = .ok (.tuple #[.int .i64 x, .int .i64 y, .bool u, .bool v]) W := by
  have c1 := h.one.cell
  have c2 := h.two.cell
  have c3 := h.three.cell
  have c4 := h.four.cell
  simp [results, Try.results25, go_sem, h4, h5, h6, h7, c1, c2, c3, c4]
def NoC (l m : List (Int × Int)) (L : List Dt) (pre : List (Px l m)) : Prop := (pre.map (fun x => x.1)).find? (cf (own l L)) = none
theorem noC_next {l m : List (Int × Int)} {L : List Dt} {pre : List (Px l m)} {x : Px l m} (h : NoC l m L pre) (hx : cf (own l L) x.1 = false) : NoC l m L (pre ++ [x]) := by
  unfold NoC at *
  rw [List.map_append]
  exact fc_next h hx
theorem others_below {W W' : World} (h : Below W.heap.size W W') : KeepsOthers W W' :=
  ⟨h.size, fun k o hk _ => (h.block k (Array.getElem?_eq_some_iff.1 hk).1).trans hk⟩
theorem ints_of {w : World} {B g n : Nat} {T : TypeId} {O : List (Int × Int)} (h : w.ownsRow B T 2 (.slice (some ⟨g, 0, none⟩) n n) n (flat O)) : Ints w g := by
  obtain ⟨h1, h2⟩ := h
  rcases h2 with ⟨e, _⟩ | ⟨g', cap, cur, e, hB, hg, hle, hcap, hsz, hcur⟩
  · cases e
  · injection e with e1 e2 e3
    injection e1 with e1
    injection e1 with e1
    subst e1 e3
    refine ⟨fun es c h => (by rw [hg] at h; cases h), fun r h => ?_⟩
    unfold World.cell? at h
    rw [hg] at h
    simp only [Option.isSome_none, Bool.false_eq_true, if_false] at h
    have hm : (Value.map r) ∈ flat O := by
      rw [← hcur]
      have h0 : cur.toList[0]? = some (.map r) := by rw [Array.getElem?_toList]; exact h
      have hl : (cur.toList.take (n * 2)) = cur.toList := List.take_of_length_le (by rw [Array.length_toList, hsz]; exact Nat.le_refl _)
      rw [hl]
      exact List.mem_of_getElem? h0
    unfold flat at hm
    rw [List.mem_flatMap] at hm
    obtain ⟨p, _, hp⟩ := hm
    simp at hp
set_option maxRecDepth 100000 in
set_option maxHeartbeats 8000000 in
theorem impl_any : Says4 25 := by
  intro a1 a2 p n1 c1 n2 c2 np cp l m L w z1 z2 z3 h1 h2 h3
  obtain ⟨W, hW, hWs, k0, k1, k2, k3, k4, hb⟩ := boxes5 w (.slice a1 n1 c1) (.slice a2 n2 c2) (.int .i64 0) (.int .i64 0) (.bool false) (.bool false) 33 3 3 4 4
  have H1 := Lib.hid (h1.below hb)
  have HH1 := Lib.hid h1
  have H2 := Lib.hid (h2.below hb)
  have H3 := Lib.hid (h3.below hb)
  have HB := Lib.hid hb
  have HK := Lib.hid (And.intro k0 (And.intro k1 (And.intro k2 (And.intro k3 k4))))
  have HE := Lib.hid (EvP.impl_any a1 a2 p n1 c1 n2 c2 np cp l m L W z1 z2 z3 H1.out H2.out H3.out)
  have f1 : W.cell? ⟨w.heap.size, 0, none⟩ = some (.slice a1 n1 c1) := by unfold World.cell?; rw [k0]; rfl
  have f2 : W.cell? ⟨w.heap.size, 1, none⟩ = some (.slice a2 n2 c2) := by unfold World.cell?; rw [k0]; rfl
  clear h1 h2 h3 hb k0 k1 k2 k3 k4
  refine (callsIn_wide (n := 8)).1 ?_
  refine callsIn_of_wp_marks Try.func25 rfl trivial ?_ rfl
  simp only [Try.ntmps25, List.size_toArray, List.length_cons, List.length_nil, Nat.reduceAdd, Nat.reduceSub, Array.replicate_succ, Array.replicate_zero, List.push_toArray, List.append_toArray, List.nil_append, List.cons_append]
  have HR0 : Hid (B4 W w.heap.size 0 0 false false) := ⟨HK.out.2.1, HK.out.2.2.1, HK.out.2.2.2.1, HK.out.2.2.2.2⟩
  cases hev : evP l m L with
  | false =>
    have HF := Lib.hid (fcP_no hev)
    rw [hev] at HE
    clear hev
    gi_upto_region 2 with (refine ⟨trivial, ?_⟩; gi_at_call 17; refine (callsIn_wide.2 HE.out).mono ?_; rintro e w1 ⟨rfl, b1⟩)
    have HR := Lib.hid ((HR0.out.below b1))
    have r1 := HR.out.one.cell
    have r2 := HR.out.two.cell
    have r3 := HR.out.three.cell
    have r4 := HR.out.four.cell
    have r5 := HR.out.one.frozen
    have r6 := HR.out.two.frozen
    have r7 := HR.out.three.frozen
    have r8 := HR.out.four.frozen
    have HB1 := Lib.hid (HB.out.trans (b1.mono HB.out.size))
    clear b1
    gi_wp2
    refine ⟨_, results4 _ w.heap.size 0 0 false false _ HR.out.set rfl rfl rfl rfl, ?_⟩
    rw [HF.out]
    exact ⟨rfl, below_set4 HB1.out (Nat.le_refl _)⟩
  | true =>
    have HF := Lib.hid (fcP_yes hev)
    obtain ⟨hg, hevi⟩ := ev_parts hev
    have HG := Lib.hid hg
    have HEV := Lib.hid hevi
    have hl10 : l.length ≤ 10 := (Table.good_few hg).1
    have hn10 : n1 ≤ 10 := by rw [← H1.out.1]; exact hl10
    rw [hev] at HE
    clear hev hg hevi
    gi_upto_region 3 with (refine ⟨trivial, ?_⟩; gi_at_call 17; refine (callsIn_wide.2 HE.out).mono ?_; rintro e w1 ⟨rfl, b1⟩)
    have HR1 := Lib.hid (HR0.out.below b1)
    have g1 := (b1.cell (p := ⟨w.heap.size, 0, none⟩) (by show w.heap.size < _; omega)).trans f1
    have g2 := (b1.cell (p := ⟨w.heap.size, 1, none⟩) (by show w.heap.size < _; omega)).trans f2
    have HB1 := Lib.hid (HB.out.trans (b1.mono HB.out.size))
    have H11 := Lib.hid (H1.out.below b1)
    have H12 := Lib.hid (H2.out.below b1)
    have H13 := Lib.hid (H3.out.below b1)
    have hs1 := b1.size
    have HI := Lib.hid (intervalsOf_any a1 a2 p n1 c1 n2 c2 np cp l L w1 hn10 z3 H11.out (good_asc HG.out).1 H13.out HEV.out)
    clear b1 f1 f2 HE
    gi_upto_region 4 with (refine ⟨trivial, ?_⟩; gi_at_call 63; refine (callsIn_wide.2 HI.out).mono ?_; rintro e w2 ⟨g, rfl, hO⟩)
    have hgs : w1.heap.size ≤ g := hO.1
    have hgl : g < w2.heap.size := (hO.2.1.lt g rfl).2
    have hs2 : w1.heap.size ≤ w2.heap.size := by omega
    have b2 : Below w1.heap.size w1 w2 := hO.2.2
    have ba := below_alloc w2 (.cells #[.slice (some ⟨g, 0, none⟩) n1 n1] 48)
    have b2a := b2.trans (ba.mono hs2)
    have HO2 := Lib.hid (hO.below ba)
    have HBX : Hid (Boxed (w2.alloc (.cells #[.slice (some ⟨g, 0, none⟩) n1 n1] 48)) w2.heap.size 48 (.slice (some ⟨g, 0, none⟩) n1 n1)) := Boxed.new w2 _ _
    have HR2 := Lib.hid (HR1.out.below b2a)
    have y1 := (b2a.cell (p := ⟨w.heap.size, 0, none⟩) (by show w.heap.size < _; omega)).trans g1
    have y2 := (b2a.cell (p := ⟨w.heap.size, 1, none⟩) (by show w.heap.size < _; omega)).trans g2
    have HB2 := Lib.hid (HB1.out.trans (b2a.mono HB1.out.size))
    have H21 := Lib.hid (H11.out.below b2a)
    have H22 := Lib.hid (H12.out.below b2a)
    have hss : (w2.alloc (.cells #[.slice (some ⟨g, 0, none⟩) n1 n1] 48)).heap.size = w2.heap.size + 1 := by simp
    have HLP := Lib.hid (laterPairs_any a1 a2 n1 c1 n2 c2 l m _ HG.out H21.out H22.out)
    clear g1 g2 b2 ba b2a hO HI
    obtain ⟨W2, hW2⟩ : ∃ W2, w2.alloc (.cells #[.slice (some ⟨g, 0, none⟩) n1 n1] 48) = W2 := ⟨_, rfl⟩
    rw [hW2] at HO2 HBX HR2 y1 y2 HB2 H21 H22 hss HLP ⊢
    clear hW2
    gi_wp2_with (refine ⟨trivial, ?_⟩; gi_at_call 64; refine (callsIn_wide.2 HLP.out).mono ?_; rintro e w3 ⟨br, bo, bx, rfl, lr, lo, lord, lbr, lbo, lb⟩)
    have HEnv : Hid (Env w3 l m a1 n1 c1 br bo bx g) := by
      refine ⟨HG.out, lr, lo, lord, H21.out.below lb, by omega, by omega, fun hp b off e => ?_, ints_of (ownsRow_below HO2.out.2.1 lb), Nat.lt_of_lt_of_le (by omega) lb.size⟩
      rcases H11.out.2 with h | ⟨b', off', e', hb', _⟩
      · omega
      · rw [e] at e'
        injection e' with e'
        injection e' with e'
        omega
    have HB3 := Lib.hid (HB2.out.trans (lb.mono HB2.out.size))
    have HO3 := Lib.hid (HO2.out.below lb)
    have HBX3 : Hid (w3.cell? ⟨w2.heap.size, 0, none⟩ = some (.slice (some ⟨g, 0, none⟩) n1 n1)) := (lb.cell HBX.out.lt).trans HBX.out.cell
    have HR3 := Lib.hid (HR2.out.below lb)
    have HY3 : Hid (w3.cell? ⟨w.heap.size, 0, none⟩ = some (.slice a1 n1 c1)) := (lb.cell (p := ⟨w.heap.size, 0, none⟩) (by show w.heap.size < _; omega)).trans y1
    have H31 := Lib.hid (H21.out.below lb)
    have hlb := lb.size
    have HNB : Hid (∀ b off, a1 = some ⟨b, off, none⟩ → 0 < n1 → b ≤ w.heap.size ∨ w.heap.size + 1 + 3 < b) := by
      intro b off e hp
      rcases HH1.out.2 with h | ⟨b', off', e', hb', _⟩
      · omega
      · rw [e] at e'
        injection e' with e'
        injection e' with e'
        omega
    have HLT : Hid (w.heap.size + 1 + 1 + 1 + 1 < w3.heap.size ∧ w2.heap.size < w3.heap.size) := ⟨by omega, by omega⟩
    clear lr lo lord lbr lbo lb y1 y2 HLP
    refine wpIn_rangeFunc_ownF (α := Px l m) rfl (by decide) (gf := 100) (lb := #[.pointer (some ⟨br, 0, none⟩), .pointer (some ⟨bo, 0, none⟩)]) rfl trivial (enters_of Try.func100 (by kernel_rfl) rfl)
      (lp_stops 7 (by omega) l m a1 n1 c1 br bo bx g w3.heap.size w3 rfl HEnv.out) (fun h k => h.trans k) (fun W l0 o o' hl ho hc _ => kpB_b W l0 o o' hl ho hc) (Below.refl _ _) (fun _ => rfl)
      (fun pre W => NoC l m L pre ∧ Below w3.heap.size w3 W)
      (fun c pre W => c = .ret ∧ ∃ (x : Nat × Nat) (pre' : List (Nat × Nat)), pre.map (·.1) = pre' ++ [x] ∧ pre'.find? (cf (own l L)) = none ∧ cf (own l L) x = true ∧ B4 W w.heap.size (num l x.1) (num l x.2) true true ∧ Below w.heap.size w W)
      (OwnFrom.and (ownFrom_pure _ _) (ownFrom_below (Nat.le_refl _) (Nat.le_refl _))) ?ownx ⟨(rfl : NoC l m L []), Below.refl _ _⟩ ?a1 ?assign ?body ?done ?stop
    case ownx =>
      intro c pre W W' row hs hg hr
      obtain ⟨e, x, pre', h1, h2, h3, h4, h5⟩ := hs
      have hlt := HLT.out.1
      have hne : ∀ k, k < w3.heap.size → some k ≠ row := fun k hk e => by
        have := (hr k e.symm).1
        omega
      refine ⟨e, x, pre', h1, h2, h3, ⟨h4.one.kept hg (hne _ (by omega)), h4.two.kept hg (hne _ (by omega)), h4.three.kept hg (hne _ (by omega)), h4.four.kept hg (hne _ (by omega))⟩, h5.grown hg h5.size (fun k hk => ?_)⟩
      have := (hr k hk).1
      omega
    case assign =>
      intro l0 x W K hK
      gi_wp2
      exact hK
    case body =>
      rintro l0 pre x W ⟨hf, hbW⟩ _
      obtain ⟨⟨i, j⟩, hx⟩ := x
      obtain ⟨hi, hj, _⟩ := mem_prs.1 hx
      simp only at hi hj
      obtain ⟨⟨oa, ob⟩, ho1⟩ : ∃ q, (own l L)[i]? = some q := ⟨_, List.getElem?_eq_getElem (by rw [own_len]; exact hi)⟩
      obtain ⟨⟨pa, pb⟩, ho2⟩ : ∃ q, (own l L)[j]? = some q := ⟨_, List.getElem?_eq_getElem (by rw [own_len]; exact hj)⟩
      have hln : l.length = n1 := H1.out.1
      have hin : (i : Int) < (n1 : Int) := by omega
      have hjn : (j : Int) < (n1 : Int) := by omega
      have hRow := ownsRow_below HO3.out.2.1 hbW
      have v1 := hRow.cellAt (i * 2 + 1) (by omega)
      have v2 := hRow.cellAt (j * 2) (by omega)
      rw [(flat_get _ _ _ _ ho1).2] at v1
      rw [(flat_get _ _ _ _ ho2).1] at v2
      have v3 := (hbW.cell HLT.out.2).trans HBX3.out
      have v4 := (hbW.cell (p := ⟨w.heap.size, 0, none⟩) (by show w.heap.size < _; have := HLT.out.1; omega)).trans HY3.out
      have HC := Lib.hid (And.intro hbW hf)
      obtain ⟨b1', off1, x1, y1', ha1, hx1, e1, _⟩ := (H31.out.below hbW).at i (by omega)
      obtain ⟨b2', off2, x2, y2', ha2, hx2, e2, _⟩ := (H31.out.below hbW).at j (by omega)
      rw [ha1] at ha2
      injection ha2 with ha2
      injection ha2 with hb1 hb2 _
      subst hb1 hb2
      rw [ha1] at v4
      have HNB1 := Lib.hid (HNB.out _ _ ha1 (by omega))
      have HN1 : Hid (num l i = x1) := num_at hx1
      have HN2 : Hid (num l j = x2) := num_at hx2
      have hcf : cf (own l L) (i, j) = decide (ob < pa) := by unfold cf; rw [tt_at ho1, fr_at ho2]
      have HCF := Lib.hid hcf
      clear hf hRow ho1 ho2 hbW hcf hx1 hx2 ha1
      have k1 := cell_regrown v1
      have k2 := cell_regrown v2
      have k3 := cell_regrown v3
      gi_wp2
      refine region_at (l := l0) 11 (by kernel_rfl) (by kernel_rfl) ?_
      simp only [List.take_succ_cons, List.take_zero, List.drop_succ_cons, List.drop_zero]
      repeat (go_big_quiet_step (fail))
      refine wpQuiet_nil ?_
      intro _ hw'
      obtain ⟨⟨dq, osq⟩, hw''⟩ := hw'
      subst hw''
      have HBQ := Lib.hid (below_regrown W dq osq)
      have u1 := k1 dq osq
      have m4 := cell_regrown v4 dq osq
      have m5 := cell_regrown e1 dq osq
      have m6 := cell_regrown e2 dq osq
      generalize Sort.grow (redrawn W dq) osq = W5 at *
      clear k1 k2 k3 v1 v2 v3 v4 e1 e2 u1
      by_cases hlt : ob < pa
      · rw [decide_eq_true hlt] at HCF
        have HHC := Lib.hid HCF.out
        gi_wp2
        have hbw := HLT.out.1
        have k4 := optW_cell (b := w.heap.size) m4 (by omega)
        have k5 := optW_cell (b := w.heap.size) m5 HNB1.out
        have k6 := optW_cell (b := w.heap.size) m6 HNB1.out
        clear m4 m5 m6
        refine region_held (l := l0) 12 (fun w' => ∃ q : Gw, w' = optW W5 w.heap.size q) (by kernel_rfl) (by kernel_rfl) (fun _ _ _ _ h => h) ⟨⟨W5.drawn + 1, #[], []⟩, by unfold optW puts; rw [Sort.grow_empty]; rfl⟩ ?_
        simp only [List.take_succ_cons, List.take_zero, List.drop_succ_cons, List.drop_zero]
        repeat (go_big_quiet_step (fail))
        refine wpQuiet_nil ?_
        rintro _ ⟨⟨dq2, osq2, s⟩, rfl⟩
        have HB5 : Hid (Below w3.heap.size w3 W5) := HC.out.1.trans (HBQ.out.mono HC.out.1.size)
        have hq := below_regrown W5 dq2 osq2
        have hB6 := HB5.out.trans (hq.mono HB5.out.size)
        have HBW6 : Hid (Below w.heap.size w (optW W5 w.heap.size ⟨dq2, osq2, s⟩)) := puts_below (Nat.le_refl _) _ _ (HB3.out.trans (hB6.mono HB3.out.size))
        have HKO : Hid (KeepsOthers W (optW W5 w.heap.size ⟨dq2, osq2, s⟩)) := puts_others _ _ ((others_below HBQ.out).trans (others_below hq))
        obtain ⟨x1', x2', x3', x4', hR6⟩ : ∃ x1 x2 x3 x4, B4v (optW W5 w.heap.size ⟨dq2, osq2, s⟩) w.heap.size x1 x2 x3 x4 := puts_b4 s _ _ _ _ _ (HR3.out.below hB6)
        have r1 := hR6.one.cell
        have r2 := hR6.two.cell
        have r3 := hR6.three.cell
        have r4 := hR6.four.cell
        have r5 := hR6.one.frozen
        have r6 := hR6.two.frozen
        have r7 := hR6.three.frozen
        have r8 := hR6.four.frozen
        have HR6 := Lib.hid hR6
        clear hR6 hB6 hq
        refine rowH_step (by rfl) ?_
        gi_wp2
        refine ⟨⟨⟨dq2, osq2, s ++ [(0, .int .i64 x1)]⟩, by rw [put_one 0]; rfl⟩, ?_⟩
        refine rowH_step (by rfl) ?_
        gi_wp2
        refine ⟨⟨⟨dq2, osq2, s ++ [(0, .int .i64 x1)] ++ [(1, .int .i64 x2)]⟩, by rw [put_one 1, put_one 0]; rfl⟩, ?_⟩
        refine rowH_step (by rfl) ?_
        gi_wp2
        refine ⟨⟨⟨dq2, osq2, s ++ [(0, .int .i64 x1)] ++ [(1, .int .i64 x2)] ++ [(2, .bool true)]⟩, by rw [put_one 2, put_one 1, put_one 0]; rfl⟩, ?_⟩
        refine rowH_step (by rfl) ?_
        gi_wp2
        refine ⟨⟨⟨dq2, osq2, s ++ [(0, .int .i64 x1)] ++ [(1, .int .i64 x2)] ++ [(2, .bool true)] ++ [(3, .bool true)]⟩, by rw [put_one 3, put_one 2, put_one 1, put_one 0]; rfl⟩, ?_⟩
        refine rowH_nil ?_
        gi_wp2
        refine ⟨((((HKO.out.trans (KeepsOthers.setCell _ _ _)).trans (KeepsOthers.setCell _ _ _)).trans (KeepsOthers.setCell _ _ _)).trans (KeepsOthers.setCell _ _ _)), rfl, (i, j), pre.map (fun x => x.1), by rw [List.map_append]; rfl, (by have h9 := HC.out.2; unfold NoC at h9; exact h9), HHC.out, ?_, below_set4 HBW6.out (Nat.le_refl _)⟩
        rw [show num l (i, j).1 = x1 from HN1.out, show num l (i, j).2 = x2 from HN2.out]
        exact HR6.out.set
      · rw [decide_eq_false hlt] at HCF
        gi_wp2
        exact ⟨others_below HBQ.out, KpB.of_below HBQ.out, noC_next HC.out.2 HCF.out, HC.out.1.trans (HBQ.out.mono HC.out.1.size)⟩
    case done =>
      rintro D xs W hD hS ⟨hf, hbW⟩ hK
      have HRW := Lib.hid (HR3.out.below hbW)
      have r1 := HRW.out.one.cell
      have r2 := HRW.out.two.cell
      have r3 := HRW.out.three.cell
      have r4 := HRW.out.four.cell
      have r5 := HRW.out.one.frozen
      have r6 := HRW.out.two.frozen
      have r7 := HRW.out.three.frozen
      have r8 := HRW.out.four.frozen
      have HQ := Lib.hid (And.intro hf (And.intro (HB3.out.trans (hbW.mono HB3.out.size)) (And.intro hK (And.intro hD hS))))
      clear hf hbW hK hS
      gi_wp2
      have hlt := HLT.out.1
      have hK4 := (others4 W w.heap.size (.int .i64 0) (.int .i64 0) (.bool false) (.bool true)).same D _ HQ.out.2.2.1 rfl
      refine ⟨by simp, .inl ⟨_, _, rfl, run_takeDeferred hK4, ?_⟩⟩
      refine ⟨_, results4 _ w.heap.size 0 0 false true _ (B4v.putObj HRW.out.set (by omega) _) rfl rfl rfl rfl, ?_⟩
      have hn : fc l m L = none := by
        have h9 := HQ.out.1
        unfold NoC at h9
        rw [HQ.out.2.2.2.2] at h9
        exact h9
      rw [HF.out, hn]
      exact ⟨rfl, (below_set4 HQ.out.2.1 (Nat.le_refl _)).trans (belowK_b (w := w) (Nat.le_refl _) _ D _ _ (by omega) hK4 rfl rfl)⟩
    case stop =>
      rintro D c pre W hD hS ⟨rfl, x, pre', hpre, hf, hc, hR, hbW⟩ hK
      have HQ := Lib.hid (And.intro hbW (And.intro hK hR))
      have hfc : fc l m L = some x := by
        rw [hpre] at hS
        exact fc_hit hS hf hc
      have HFC := Lib.hid hfc
      clear hbW hK hR hpre hf hc hS hfc
      gi_wp2
      have hlt := HLT.out.1
      refine ⟨by simp, .inl ⟨_, _, rfl, run_takeDeferred HQ.out.2.1, ?_⟩⟩
      refine ⟨_, results4 _ w.heap.size _ _ true true _ (B4v.putObj HQ.out.2.2 (by omega) _) rfl rfl rfl rfl, ?_⟩
      rw [HF.out, HFC.out]
      exact ⟨rfl, HQ.out.1.trans (belowK_b (w := w) (Nat.le_refl _) _ D _ _ (by omega) HQ.out.2.1 rfl rfl)⟩
end Go.Proofs.Ytmjhgjlnpnkmkaa.FcI
