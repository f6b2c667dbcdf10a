/- The program's extended: the datings that begin with some years, by recursion. -/
import Derived.Test.YtfbgekhkbbhggaaDtT
import Derived.Test.YtfbgekhkbbhggaaAdI
import Derived.Test.YtfbgekhkbbhggaaDwI
namespace Go.Proofs.Ytfbgekhkbbhggaa.ExI
open Go Go.RowKit Go.Shelf Pairs Rec Keep GivesI Zh Dr DvM ChM ChE ShI Yr AtM AppI OvI DtT Qsp
attribute [local go_sem] Oper.semAt_some
set_option linter.unusedVariables false
theorem last4 (w : World) (o1 o2 o3 o4 : Obj) : ((((w.alloc o1).alloc o2).alloc o3).alloc o4).heap[w.heap.size + 1 + 1 + 1]? = some o4 := by
  have e : ∀ (w : World) (o : Obj), (w.alloc o).heap = w.heap.push o := fun _ _ => rfl
  simp only [e, Array.getElem?_push, Array.size_push]
  rw [if_pos trivial]
theorem below4 (w : World) (o1 o2 o3 o4 : Obj) : Below w.heap.size w ((((w.alloc o1).alloc o2).alloc o3).alloc o4) :=
  (below_alloc3 w o1 o2 o3).alloc (by simp; omega) o4
def DtAns (B : Nat) (L : List Dg) (w : World) (e : Ending) (w' : World) : Prop := ∃ (q : Option Addr) (n d : Nat), e = .returned (.slice q n d) ∧ OwnT w' B (.slice q n d) n L ∧ Below w.heap.size w w'
theorem three (w : World) (o1 o2 o3 : Obj) : (((w.alloc o1).alloc o2).alloc o3).heap.size = w.heap.size + 3 ∧ (((w.alloc o1).alloc o2).alloc o3).heap[w.heap.size]? = some o1 ∧
    (((w.alloc o1).alloc o2).alloc o3).heap[w.heap.size + 1]? = some o2 ∧ (((w.alloc o1).alloc o2).alloc o3).heap[w.heap.size + 2]? = some o3 ∧ Below w.heap.size w (((w.alloc o1).alloc o2).alloc o3) := by
  have e : ∀ (w : World) (o : Obj), (w.alloc o).heap = w.heap.push o := fun _ _ => rfl
  refine ⟨by simp only [e]; simp, ?_, ?_, ?_, below_alloc3 _ _ _ _⟩
  · simp only [e, Array.getElem?_push, Array.size_push]
    rw [if_neg (by omega), if_neg (by omega), if_pos trivial]
  · simp only [e, Array.getElem?_push, Array.size_push]
    rw [if_neg (by omega), if_pos trivial]
  · simp only [e, Array.getElem?_push, Array.size_push]
    rw [if_pos trivial]
theorem ext_len {l m : List (Int × Int)} {Z : List Zh.Pt} {ys : List Int} {wt : Int} (hz : okZ Z = true) (hf : fits l m ys) (hw : 0 < wt) : (ext l m Z ys wt).length ≤ (cnt Z).toNat := by
  rw [ext_is l m Z ys wt hz hf hw]
  refine Nat.le_trans (List.length_filter_le _ _) ?_
  rw [List.length_map, prods_is hz, List.length_map, List.length_range]
  exact Nat.le_refl _
theorem flat_len {α β : Type} (g : α → List β) (c : Nat) : ∀ L : List α, (∀ y ∈ L, (g y).length ≤ c) → (L.flatMap g).length ≤ c * L.length
  | [], _ => by simp
  | y :: L, h => by
    have h1 := h y List.mem_cons_self
    have h2 := flat_len g c L (fun z hz => h z (List.mem_cons_of_mem _ hz))
    rw [List.flatMap_cons, List.length_append, List.length_cons, Nat.mul_add]
    omega
theorem obtain_lt {V : World} {B : Nat} {v : Value} {n : Nat} {L : List Dg} (h : OwnT V B v n L) : ∀ b, v.ownBlock = some b → B ≤ b ∧ b < V.heap.size := by
  obtain ⟨vs, h1, _⟩ := h
  exact Di.own_bd h1
/-- The list under way: its row is not the interval's. -/
def Inv (V : World) (h R : Nat) (L : List Dg) : Prop := ∃ q d, Lw V (h + 3) (h + 4) q d L ∧ (Value.slice q L.length d).ownBlock ≠ some R
/-- The worlds in which the list is appended to. -/
structure Cx (h : Nat) (u1 u2 u3 ls : Value) (T : Nat) (z1 z2 : Value) where
  u : World
  q1 : u.cell? ⟨h, 0, none⟩ = some u1
  q2 : u.cell? ⟨h, 1, none⟩ = some u2
  q3 : u.cell? ⟨h, 2, none⟩ = some u3
  q4 : u.cell? ⟨h + 1 + 1 + 1 + 1, 0, none⟩ = some ls
  q5 : u.cell? ⟨T, 0, none⟩ = some z1
  q6 : u.cell? ⟨T, 1, none⟩ = some z2
set_option maxRecDepth 100000 in
set_option maxHeartbeats 8000000 in
theorem base_any (a1 a2 a3 : Option Addr) (n1 c1 n2 c2 n3 c3 : Nat) (p : Option Addr) (k c : Nat) (ys : List Int) (wt : Int) (B : Nat) (w : World) (hk : k = n3) (ho : w.ownsRow B 3 1 (.slice p k c) k (ints ys)) (hB : B ≤ w.heap.size) :
    Calls Try.prog 107 #[.agg #[.slice a1 n1 c1, .slice a2 n2 c2, .slice a3 n3 c3], .agg #[.slice p k c, .int .i64 wt]] w (DtAns B [(ys, wt)] w) := by
  have HO := Lib.hid ho
  have HBB := Lib.hid hB
  obtain ⟨hs, i0, i1, i2, hb⟩ := three w (.cells #[.slice a1 n1 c1, .slice a2 n2 c2, .slice a3 n3 c3] 37) (.cells #[.slice p k c, .int .i64 wt] 94) (.cells #[.int .i64 k] 3)
  have hkn : (k : Int) = (n3 : Int) := by omega
  have HS := Lib.hid hs
  have HB := Lib.hid hb
  clear ho hB hb hs hk
  go_enter Try.func107, Try.ntmps107
  go_wp2_with fail
  go_ret
  refine ⟨some ⟨w.heap.size + 1 + 1 + 1, 0, none⟩, 1, 1, rfl, ⟨[.slice p k c, .int .i64 wt], ⟨rfl, .inr ⟨w.heap.size + 1 + 1 + 1, 1, #[.slice p k c, .int .i64 wt], rfl, by have := HBB.out; omega, last4 _ _ _ _ _, by omega, by unfold maxLen; omega, rfl, rfl⟩⟩, rfl, ?_⟩, below4 _ _ _ _ _⟩
  intro i zs z hi
  cases i with
  | zero =>
    obtain ⟨rfl, rfl⟩ : ys = zs ∧ wt = z := by simpa using hi
    exact ⟨p, k, c, rfl, rfl, ownsRow_below HO.out (below4 _ _ _ _ _)⟩
  | succ i => simp at hi
/-- What lies of a round's surroundings. -/
structure En (V : World) (h : Nat) (u1 u2 u3 x1 x2 : Value) (k : Int) (R : Nat) : Prop where
  b0 : V.heap[h]? = some (.cells #[u1, u2, u3] 37 (0, 0))
  b1 : V.heap[h + 1]? = some (.cells #[x1, x2] 94 (0, 0))
  b2 : V.heap[h + 2]? = some (.cells #[.int .i64 k] 3 (0, 0))
  sz : R + 1 ≤ V.heap.size
  hr : h + 5 ≤ R
theorem En.cells {V : World} {h : Nat} {u1 u2 u3 x1 x2 : Value} {k : Int} {R : Nat} (e : En V h u1 u2 u3 x1 x2 k R) : V.cell? ⟨h, 0, none⟩ = some u1 ∧ V.cell? ⟨h, 1, none⟩ = some u2 ∧ V.cell? ⟨h, 2, none⟩ = some u3 ∧ V.cell? ⟨h + 1, 0, none⟩ = some x1 ∧ V.cell? ⟨h + 1, 1, none⟩ = some x2 ∧ V.cell? ⟨h + 1 + 1, 0, none⟩ = some (.int .i64 k) := by
  refine ⟨?_, ?_, ?_, ?_, ?_, ?_⟩
  · unfold World.cell?; rw [e.b0]; rfl
  · unfold World.cell?; rw [e.b0]; rfl
  · unfold World.cell?; rw [e.b0]; rfl
  · unfold World.cell?; rw [e.b1]; rfl
  · unfold World.cell?; rw [e.b1]; rfl
  · unfold World.cell?; rw [e.b2]; rfl
theorem En.grown {V V' : World} {h : Nat} {u1 u2 u3 x1 x2 : Value} {k : Int} {R : Nat} {row : Option Nat} (e : En V h u1 u2 u3 x1 x2 k R) (hg : V.grownBy V' row) (hr : ∀ r, row = some r → h + 3 ≤ r) : En V' h u1 u2 u3 x1 x2 k R := by
  have hne : ∀ j, j < h + 3 → some j ≠ row := fun j hj q => by have := hr j q.symm; omega
  exact ⟨(hg.block _ (Array.getElem?_eq_some_iff.1 e.b0).1 (hne _ (by omega))).trans e.b0, (hg.block _ (Array.getElem?_eq_some_iff.1 e.b1).1 (hne _ (by omega))).trans e.b1, (hg.block _ (Array.getElem?_eq_some_iff.1 e.b2).1 (hne _ (by omega))).trans e.b2, Nat.le_trans e.sz hg.size, e.hr⟩
theorem En.below {V V' : World} {h : Nat} {u1 u2 u3 x1 x2 : Value} {k : Int} {R : Nat} (e : En V h u1 u2 u3 x1 x2 k R) (b : Below V.heap.size V V') : En V' h u1 u2 u3 x1 x2 k R :=
  ⟨(b.block _ (Array.getElem?_eq_some_iff.1 e.b0).1).trans e.b0, (b.block _ (Array.getElem?_eq_some_iff.1 e.b1).1).trans e.b1, (b.block _ (Array.getElem?_eq_some_iff.1 e.b2).1).trans e.b2, Nat.le_trans e.sz b.size, e.hr⟩
theorem En.set {V : World} {h : Nat} {u1 u2 u3 x1 x2 : Value} {k : Int} {R : Nat} (e : En V h u1 u2 u3 x1 x2 k R) (u : Value) : En (V.setCell ⟨h + 4, 0, none⟩ u) h u1 u2 u3 x1 x2 k R :=
  ⟨(Below.heap_setCell _ _ _ _ (by show h ≠ h + 4; omega)).trans e.b0, (Below.heap_setCell _ _ _ _ (by show h + 1 ≠ h + 4; omega)).trans e.b1, (Below.heap_setCell _ _ _ _ (by show h + 2 ≠ h + 4; omega)).trans e.b2, by simpa [World.setCell] using e.sz, e.hr⟩
theorem mkCx {W : World} {h : Nat} {u1 u2 u3 x1 x2 : Value} {k : Int} {R : Nat} {ls : Value} {T : Nat} {z1 z2 : Value} (he : En W h u1 u2 u3 x1 x2 k R) (hb : Boxed W (h + 4) 91 ls) (h0 : W.cell? ⟨T, 0, none⟩ = some z1) (h1 : W.cell? ⟨T, 1, none⟩ = some z2) : ∃ qq : Cx h u1 u2 u3 ls T z1 z2, W = qq.u :=
  ⟨⟨W, he.cells.1, he.cells.2.1, he.cells.2.2.1, hb.cell, h0, h1⟩, rfl⟩
set_option maxRecDepth 100000 in
set_option maxHeartbeats 8000000 in
theorem step_any (l m : List (Int × Int)) (Z : List Zh.Pt) (hv : Vd l m Z) (a1 a2 a3 : Option Addr) (n1 c1 n2 c2 n3 c3 : Nat) (p : Option Addr) (k c : Nat) (ys : List Int) (wt : Int) (B : Nat) (w : World) (h : Arg w a1 n1 a2 n2 a3 n3 l m Z) (hk : k < n3) (ho : w.ownsRow B 3 1 (.slice p k c) k (ints ys)) (hB : B ≤ w.heap.size)
    (hft : fits l m ys) (hys : ∀ y ∈ ys, -20000 ≤ y ∧ y ≤ 2100) (hw0 : 0 < wt) (hw1 : wt ≤ sms (Z.take k))
    (hrec : ∀ (p' : Option Addr) (c' : Nat) (ys' : List Int) (wt' : Int) (B' : Nat) (W : World), Arg W a1 n1 a2 n2 a3 n3 l m Z → W.ownsRow B' 3 1 (.slice p' (k + 1) c') (k + 1) (ints ys') → B' ≤ W.heap.size → fits l m ys' → (∀ y ∈ ys', -20000 ≤ y ∧ y ≤ 2100) → 0 < wt' → wt' ≤ sms (Z.take (k + 1)) →
      Calls Try.prog 107 #[.agg #[.slice a1 n1 c1, .slice a2 n2 c2, .slice a3 n3 c3], .agg #[.slice p' (k + 1) c', .int .i64 wt']] W (DtAns B' (ext l m (Z.drop (k + 1)) ys' wt') W)) :
    Calls Try.prog 107 #[.agg #[.slice a1 n1 c1, .slice a2 n2 c2, .slice a3 n3 c3], .agg #[.slice p k c, .int .i64 wt]] w (DtAns B (ext l m (Z.drop k) ys wt) w) := by
  have hyl : ys.length = k := by have := ho.1; rw [ints_len] at this; omega
  have hzl := h.h3.1
  obtain ⟨⟨f, M⟩, hx⟩ : ∃ x, Z[k]? = some x := ⟨Z[k]'(by omega), List.getElem?_eq_getElem (by omega)⟩
  have hod := okZ_mem hv.each (List.mem_of_getElem? hx)
  have hlo := (okD_iff.1 hod).lo
  have hhi := (okD_iff.1 hod).hi
  have hlen := (okD_iff.1 hod).len
  have hpos := (okD_iff.1 hod).pos
  have hsum := okD_sum hod
  simp only at hlo hhi hlen hpos hsum
  have hn1 : k < n1 := by have := hv.len; have := h.h1.1; omega
  obtain ⟨A, hA⟩ : ∃ A, A = adm l m ys (f, f + M.length - 1) := ⟨_, rfl⟩
  have hsub := adm_sub l m ys (f, f + M.length - 1)
  have hab := admK_bd l m (nb l ys.length) ys (x := -20000) (t := 2100) hys (f, f + M.length - 1) (by simp only; omega) (by simp only; omega) (by simp only; omega) (by simp only; omega) ys.length (Nat.le_refl _)
  rw [show admK l m (nb l ys.length) ys ys.length (f, f + M.length - 1) = A from hA.symm] at hab
  rw [← hA] at hsub
  simp only at hsub hab
  have HAD := Lib.hid (fun W hW => AdI.admitted_any a1 a2 a3 n1 c1 n2 c2 n3 c3 l m Z p k c ys f M W (h.below hW) ((GivesI.holds_own ho).below hW) hn1 hx ⟨by omega, by omega⟩)
  rw [← hA] at HAD
  have hdrop : Z.drop k = (f, M) :: Z.drop (k + 1) := by
    rw [List.drop_eq_getElem_cons (by omega)]
    congr 1
    rw [List.getElem?_eq_getElem (by omega)] at hx
    injection hx
  obtain ⟨g, hg⟩ : ∃ g : Int → List Dg, g = fun y => if 0 < wt * wat f M y then ext l m (Z.drop (k + 1)) (ys ++ [y]) (wt * wat f M y) else [] := ⟨_, rfl⟩
  have HRES := Lib.hid (show ext l m (Z.drop k) ys wt = (yrs A.1 A.2).flatMap g by
    rw [hdrop, hA, hg]
    rfl)
  have HG := Lib.hid hg
  have HFIT := Lib.hid (fun y (hy : A.1 ≤ y ∧ y ≤ A.2) => fits_app.2 ⟨hft, ((adm_is l m ys y (f, f + M.length - 1)).1 (hA ▸ hy)).2.2⟩)
  have HYS := Lib.hid hys
  have HV := Lib.hid hv
  have HX := Lib.hid hx
  have HREC := Lib.hid hrec
  have HA0 := Lib.hid h
  have HO := Lib.hid ho
  have HBB := Lib.hid hB
  have HOD := Lib.hid hod
  have HYL := Lib.hid hyl
  have HT := Lib.hid (take_next hx)
  have hsms := (part_le hv.each (k + 1)).2.2.2
  have hsm15 := hv.sums
  have HGL := Lib.hid (show ∀ y ∈ yrs A.1 A.2, (g y).length ≤ 5000 by
    intro y hy
    have hy2 := yrs_mem.1 hy
    rw [hg]
    dsimp only
    split
    · rename_i hp
      refine Nat.le_trans (ext_len (okZ_drop hv.each _) (HFIT.out y hy2) hp) ?_
      have h1 := split_at (Z := Z) (k + 1)
      have h2 := pos_of_okZ (okZ_take hv.each (k + 1))
      have h3 := pos_of_okZ (okZ_drop hv.each (k + 1))
      have h4 := mul_pos1 h2.1 h3.1
      have h5 := hv.many
      omega
    · simp)
  clear hv hx hrec ho hB hod hyl hft hys hdrop hzl hA hg
  obtain ⟨A1, A2⟩ := A
  simp only at HAD HRES HFIT HGL hsub hab
  obtain ⟨hs, k0, k1, k2, k3, k4, hb0⟩ := five w (.cells #[.slice a1 n1 c1, .slice a2 n2 c2, .slice a3 n3 c3] 37) (.cells #[.slice p k c, .int .i64 wt] 94) (.cells #[.int .i64 k] 3) (.cells #[] 94) (.cells #[.slice (some ⟨w.heap.size + 1 + 1 + 1, 0, none⟩) 0 0] 91)
  have hkn : ¬ (k : Int) = (n3 : Int) := by omega
  refine (callsIn_wide (n := 8)).1 ?_
  refine callsIn_of_wp_marks Try.func107 rfl trivial ?_ rfl
  simp only [Try.ntmps107, List.size_toArray, List.length_cons, List.length_nil, Nat.reduceAdd, Nat.reduceSub, Array.replicate_succ, Array.replicate_zero, List.push_toArray, List.append_toArray, List.nil_append, List.cons_append]
  gi_wp2
  refine ⟨trivial, ?_⟩
  refine (callsIn_wide.2 (HAD.out _ hb0)).mono ?_
  rintro e w1 ⟨rfl, b1⟩
  gi_wp2
  refine ⟨trivial, ?_⟩
  refine (callsIn_wide.2 (yearsOf_b A1 A2 _)).mono ?_
  rintro e w2 ⟨rfl, b2, y0, y1⟩
  have hz1 : w.heap.size + 5 ≤ w1.heap.size := by have := b1.size; omega
  have hz2 : w1.heap.size + 1 ≤ w2.heap.size := World.block_lt_of_cell? w2 _ y0
  have b12 := b1.trans (b2.mono b1.size)
  have HEN : Hid (En w2 w.heap.size (.slice a1 n1 c1) (.slice a2 n2 c2) (.slice a3 n3 c3) (.slice p k c) (.int .i64 wt) k w1.heap.size) :=
    ⟨(b12.block _ (by omega)).trans k0, (b12.block _ (by omega)).trans k1, (b12.block _ (by omega)).trans k2, hz2, hz1⟩
  have HLW : Hid (Lw w2 (w.heap.size + 3) (w.heap.size + 4) (some ⟨w.heap.size + 1 + 1 + 1, 0, none⟩) 0 []) :=
    ⟨(b12.block _ (by omega)).trans k4, ⟨[], ⟨rfl, .inr ⟨w.heap.size + 1 + 1 + 1, 0, #[], rfl, Nat.le_refl _, (b12.block _ (by omega)).trans k3, Nat.le_refl _, by unfold maxLen; omega, rfl, rfl⟩⟩, rfl, fun i ys z hi => by simp at hi⟩⟩
  have HB := Lib.hid (hb0.trans (b12.mono hb0.size))
  have S1 := Lib.hid hz1
  have S2 := Lib.hid hz2
  clear k0 k1 k2 k3 k4 hb0 b1 b2 b12 hs hz1 hz2 HAD
  gi_wp2
  refine wpIn_rangeFunc_ownF (α := Yx A1 A2) rfl (by decide) (gf := 120) (lb := #[.pointer (some ⟨w1.heap.size, 0, none⟩)]) rfl trivial (enters_of Try.func120 (by kernel_rfl) rfl)
    (yr_stops 7 (by omega) A1 A2 (by omega) (by omega) w1.heap.size w2 y0 y1) (fun h k => h.trans k) (fun W l0 o o' hl ho hc _ => kpC_b W l0 o o' hl (by have := S2.out; omega)) (Below.refl _ _) (fun _ => rfl)
    (fun pre V => En V w.heap.size (.slice a1 n1 c1) (.slice a2 n2 c2) (.slice a3 n3 c3) (.slice p k c) (.int .i64 wt) k w1.heap.size ∧ Inv V w.heap.size w1.heap.size ((pre.map (·.1)).flatMap g) ∧ Below w.heap.size w V)
    (fun _ _ _ => False)
    ?own (fun _ _ _ _ _ hs _ _ => hs) ⟨HEN.out, ⟨_, _, HLW.out, by have := S1.out; simp [Value.ownBlock]; omega⟩, HB.out⟩ ?a1 ?assign ?body ?done ?stop
  case own =>
    intro pre V V' row hs' hgw hr
    obtain ⟨h1, ⟨q, d, h2, hq⟩, h3⟩ := hs'
    exact ⟨h1.grown hgw (fun r e => by have := (hr r e).1; have := S1.out; have := S2.out; omega), ⟨q, d, h2.grown hgw (fun r e => (hr r e).2), hq⟩, h3.grown hgw h3.size (fun k hk => by have := (hr k hk).1; have := S1.out; have := S2.out; omega)⟩
  case assign =>
    intro l0 y V K hK
    gi_wp2
    exact hK
  case stop =>
    rintro D c pre V _ _ h _
    exact h.elim
  case body =>
    rintro l0 pre ⟨y, hy⟩ V ⟨hen, ⟨q, d, hlw, hqn⟩, hbel⟩ hlen
    have hyb := yrs_mem.1 hy
    rw [yrs_len] at hlen
    have hll : ((pre.map (·.1)).flatMap g).length + 5000 ≤ 1048576 := by
      have h1 := flat_len g 5000 (pre.map (·.1)) (fun z hz => by
        obtain ⟨⟨z', hz'⟩, _, rfl⟩ := List.mem_map.1 hz
        exact HGL.out _ hz')
      rw [List.length_map] at h1
      have : pre.length ≤ 60 := by omega
      omega
    obtain ⟨L, hL⟩ : ∃ L, L = (pre.map (·.1)).flatMap g := ⟨_, rfl⟩
    rw [← hL] at hlw hll hqn
    have HL := Lib.hid (show ((pre ++ [(⟨y, hy⟩ : Yx A1 A2)]).map (·.1)).flatMap g = L ++ g y by rw [hL]; simp)
    clear hL
    have hyy : -1000000000 ≤ y ∧ y ≤ 1000000000 := by omega
    obtain ⟨e0, e1, e2, e3, e4, e5⟩ := hen.cells
    obtain ⟨bz, oz, f', M', pz, jz, cz, ha3, hxz, z1, z2, hM⟩ := (HA0.out.h3.below hbel).at k hk
    obtain ⟨rfl, rfl⟩ : f' = f ∧ M' = M := by
      rw [HX.out] at hxz
      injection hxz with hxz
      injection hxz with ha hb
      exact ⟨ha.symm, hb.symm⟩
    have hjz : M'.length = jz := hM.1
    have HM := Lib.hid hM
    have hub := hsum.2.2 y
    obtain ⟨u, hu⟩ : ∃ u, u = wat f' M' y := ⟨_, rfl⟩
    have cA : ∀ d os, Calls Try.prog 62 #[.agg #[.int .i64 f', .slice pz jz cz], .int .i64 y] (Sort.grow (redrawn V d) os) fun e w'' => e = .returned (.int .i64 u) ∧ ∃ p : Regrown, w'' = Sort.grow (redrawn V p.d) p.os := fun d os => by rw [hu]; exact Calls.regrown_of (WwI.weightAt_any f' pz jz cz M' y _ (by omega) (by omega) hyy (HM.out.below (below_regrown V d os)))
    rw [← hu] at hub
    have hP0 : 0 ≤ wt * u := Int.mul_nonneg (by omega) hub.1
    have hP1 : wt * u ≤ sms (Z.take (k + 1)) := by
      rw [HT.out.2]
      exact Int.mul_le_mul hw1 hub.2 hub.1 (by omega)
    have hwr : IntKind.i64.wrap (wt * u) = wt * u := by rw [IntKind.wrap_i64]; omega
    have HU := Lib.hid hu
    have hk0 : (0 : Int) ≤ (k : Int) := by omega
    have hkk : (k : Int) < (n3 : Int) := by omega
    have HI := Lib.hid (And.intro hen (And.intro hlw hbel))
    have HLL := Lib.hid hll
    have HA3 := Lib.hid ha3
    have HP := Lib.hid (And.intro hP0 hP1)
    rw [ha3] at e2
    clear hen hlw hbel hll hu hxz hM hP0 hP1 ha3 hjz
    have q2 := cell_regrown e2
    have q4 := cell_regrown e4
    have q5 := cell_regrown e5
    have q6 := cell_regrown z1
    have q7 := cell_regrown z2
    gi_wp2
    refine region_at (l := l0) 11 (by kernel_rfl) (by kernel_rfl) ?_
    simp only [List.take_succ_cons, List.take_zero, List.drop_succ_cons, List.drop_zero]
    repeat (go_big_quiet_step ((go_at_call 62; exact cA _ _)))
    refine wpQuiet_nil ?_
    intro _ hw'
    obtain ⟨⟨dq, osq⟩, hw''⟩ := hw'
    subst hw''
    have HBQ := Lib.hid (below_regrown V dq osq)
    clear q2 q4 q5 q6 q7 e0 e1 e2 e3 e4 e5 z1 z2 cA
    generalize Sort.grow (redrawn V dq) osq = W5 at *
    have HN := Lib.hid (And.intro (HI.out.1.below HBQ.out) (And.intro (HI.out.2.1.below HBQ.out) (HI.out.2.2.trans (HBQ.out.mono HI.out.2.2.size))))
    by_cases hp : 0 < wt * u
    · have hgy := Lib.hid (show g y = ext l m (Z.drop (k + 1)) (ys ++ [y]) (wt * u) by rw [HG.out]; dsimp only; rw [← HU.out, if_pos hp])
      obtain ⟨e0, e1, e2, e3, e4, e5⟩ := HN.out.1.cells
      have HNL := Lib.hid (HN.out.2.1.box.cell)
      clear HU hwr
      generalize wt * u = P at *
      have ba := below_alloc2 W5 (.cells #[.int .i64 y] 3) (.cells #[.slice p k c, .slice (some ⟨W5.heap.size, 0, none⟩) 1 1] 41)
      have x0 := box_first (W5.alloc (.cells #[.int .i64 y] 3)) (.slice p k c) (.slice (some ⟨W5.heap.size, 0, none⟩) 1 1) 41
      have x1 := box_second (W5.alloc (.cells #[.int .i64 y] 3)) (.slice p k c) (.slice (some ⟨W5.heap.size, 0, none⟩) 1 1) 41
      rw [show (W5.alloc (.cells #[.int .i64 y] 3)).heap.size = W5.heap.size + 1 by simp] at x0 x1
      have hh1 := (GivesI.holds_own HO.out).below (HN.out.2.2.trans (ba.mono HN.out.2.2.size))
      have hh2 : HoldsI ((W5.alloc (.cells #[.int .i64 y] 3)).alloc (.cells #[.slice p k c, .slice (some ⟨W5.heap.size, 0, none⟩) 1 1] 41)) (some ⟨W5.heap.size, 0, none⟩) 1 [y] := by
        refine ⟨rfl, .inr ⟨W5.heap.size, 0, rfl, by simp; omega, fun i x hi => ?_⟩⟩
        cases i with
        | zero =>
          obtain rfl : y = x := by simpa using hi
          exact ((below_alloc (W5.alloc (.cells #[.int .i64 y] 3)) _).cell (p := ⟨W5.heap.size, 0 + 0, none⟩) (by simp)).trans (new_int W5 (.int .i64 y) 3 0 _ rfl)
        | succ i => simp at hi
      have hk9 : k ≤ 1000 := by have h1 := HV.out.len; have h2 := (GoodE.good_is HV.out.good).few1; have h3 := HA0.out.h3.1; omega
      have HC := Lib.hid (CcI.concat_any (W5.heap.size + 1) 2 p k c ys (some ⟨W5.heap.size, 0, none⟩) 1 1 [y] _ x0 x1 hh1 hh2 hk9 (by omega) (by omega))
      clear x0 x1 hh1 hh2
      gi_wp2
      refine ⟨trivial, ?_⟩
      refine (CallsIn.inRound l0 (callsIn_wide.2 HC.out)).mono ?_
      rintro e W6 ⟨pc, dc, rfl, oc, bc⟩
      have b56 : Below W5.heap.size W5 W6 := ba.trans (bc.mono ba.size)
      have bt := below_alloc W6 (.cells #[.slice pc (k + 1) dc, .int .i64 P] 94)
      have t0 := box_first W6 (.slice pc (k + 1) dc) (.int .i64 P) 94
      have t1 := box_second W6 (.slice pc (k + 1) dc) (.int .i64 P) 94
      have HOB := Lib.hid (fun b hb => (obtain_lt ((HN.out.2.1.below b56).own)) b hb)
      have b57 := b56.trans (bt.mono b56.size)
      have hen7 := HN.out.1.below b57
      have hlw7 := HN.out.2.1.below b57
      have OC := Lib.hid (ownsRow_base (ownsRow_below oc bt) (B' := w.heap.size + 3) (by have h1 := HN.out.1.sz; have h2 := HN.out.1.hr; have h3 := ba.size; omega))
      have HT6 := Lib.hid (show W6.heap.size < (W6.alloc (.cells #[.slice pc (k + 1) dc, .int .i64 P] 94)).heap.size by simp)
      have HB7 := Lib.hid (HN.out.2.2.trans (b57.mono HN.out.2.2.size))
      have HB57 := Lib.hid b57
      have h56 := b56.size
      clear bc oc ba bt b56 b57 e0 e1 e2 e3 e4 e5 HC HNL
      gi_wp2
      obtain ⟨V7, hV7⟩ : ∃ V7, V7 = W6.alloc (.cells #[.slice pc (k + 1) dc, .int .i64 P] 94) := ⟨_, rfl⟩
      rw [← hV7] at hen7 hlw7 OC HT6 HB7 HB57 t0 t1
      rw [← hV7]
      have h567 := HB57.out.size
      clear hV7
      have hen7d := hen7.below ((Below.refl V7.heap.size V7).drew)
      have hlw7d := hlw7.below ((Below.refl V7.heap.size V7).drew)
      have S7 := mkCx hen7d hlw7d.box t0 t1
      have k1 : ∀ qq : Cx w.heap.size (.slice a1 n1 c1) (.slice a2 n2 c2) (.slice a3 n3 c3) (.slice q L.length d) W6.heap.size (.slice pc (k + 1) dc) (.int .i64 P), qq.u.cell? ⟨w.heap.size, 0, none⟩ = some (.slice a1 n1 c1) := fun qq => qq.q1
      have k2 : ∀ qq : Cx w.heap.size (.slice a1 n1 c1) (.slice a2 n2 c2) (.slice a3 n3 c3) (.slice q L.length d) W6.heap.size (.slice pc (k + 1) dc) (.int .i64 P), qq.u.cell? ⟨w.heap.size, 1, none⟩ = some (.slice a2 n2 c2) := fun qq => qq.q2
      have k3 : ∀ qq : Cx w.heap.size (.slice a1 n1 c1) (.slice a2 n2 c2) (.slice a3 n3 c3) (.slice q L.length d) W6.heap.size (.slice pc (k + 1) dc) (.int .i64 P), qq.u.cell? ⟨w.heap.size, 2, none⟩ = some (.slice a3 n3 c3) := fun qq => qq.q3
      have k4 : ∀ qq : Cx w.heap.size (.slice a1 n1 c1) (.slice a2 n2 c2) (.slice a3 n3 c3) (.slice q L.length d) W6.heap.size (.slice pc (k + 1) dc) (.int .i64 P), qq.u.cell? ⟨w.heap.size + 1 + 1 + 1 + 1, 0, none⟩ = some (.slice q L.length d) := fun qq => qq.q4
      have k5 : ∀ qq : Cx w.heap.size (.slice a1 n1 c1) (.slice a2 n2 c2) (.slice a3 n3 c3) (.slice q L.length d) W6.heap.size (.slice pc (k + 1) dc) (.int .i64 P), qq.u.cell? ⟨W6.heap.size, 0, none⟩ = some (.slice pc (k + 1) dc) := fun qq => qq.q5
      have k6 : ∀ qq : Cx w.heap.size (.slice a1 n1 c1) (.slice a2 n2 c2) (.slice a3 n3 c3) (.slice q L.length d) W6.heap.size (.slice pc (k + 1) dc) (.int .i64 P), qq.u.cell? ⟨W6.heap.size, 1, none⟩ = some (.int .i64 P) := fun qq => qq.q6
      haveI hne : Nonempty (Cx w.heap.size (.slice a1 n1 c1) (.slice a2 n2 c2) (.slice a3 n3 c3) (.slice q L.length d) W6.heap.size (.slice pc (k + 1) dc) (.int .i64 P)) := ⟨S7.choose⟩
      have HCR := Lib.hid (HREC.out pc dc (ys ++ [y]) P (w.heap.size + 3) V7.drew (HA0.out.below (HB7.out.trans (((Below.refl V7.heap.size V7).drew).mono HB7.out.size))) (ownsRow_below OC.out ((Below.refl V7.heap.size V7).drew)) (by have h1 := hen7d.sz; have h2 := hen7d.hr; omega) (HFIT.out y hyb) (fun z hz => by
        rcases List.mem_append.1 hz with hz | hz
        · exact HYS.out z hz
        · obtain rfl : z = y := by simpa using hz
          omega) hp HP.out.2)
      have H7 := Lib.hid (And.intro hen7 (And.intro hlw7 (And.intro t0 t1)))
      have HS7 := Lib.hid S7
      clear hen7d hlw7d S7 t0 t1 hen7 hlw7
      refine Qsl.region_held (l := l0) 3 (fun w' => ∃ qq : Cx w.heap.size (.slice a1 n1 c1) (.slice a2 n2 c2) (.slice a3 n3 c3) (.slice q L.length d) W6.heap.size (.slice pc (k + 1) dc) (.int .i64 P), w' = qq.u) (by kernel_rfl) (by kernel_rfl) (fun _ _ _ _ h => h) HS7.out ?_
      simp only [List.take_succ_cons, List.take_zero, List.drop_succ_cons, List.drop_zero]
      repeat (go_big_quiet_step (fail))
      refine wpQuiet_nil ?_
      clear k1 k2 k3 k4 k5 k6
      refine Qsl.rowH_step (by rfl) ?_
      gi_wp2
      refine ⟨trivial, ?_⟩
      refine (CallsIn.inRound l0 (callsIn_wide.2 HCR.out)).mono ?_
      rintro e V8 ⟨q2, m2, d2, rfl, o8, b8⟩
      have b78 : Below V7.heap.size V7 V8 := (Below.refl V7.heap.size V7).drew.trans (b8.mono (Nat.le_refl _))
      have hen8 := H7.out.1.below b78
      have hlw8 := H7.out.2.1.below b78
      have v0 := (b78.cell (p := ⟨W6.heap.size, 0, none⟩) HT6.out).trans H7.out.2.2.1
      have v1 := (b78.cell (p := ⟨W6.heap.size, 1, none⟩) HT6.out).trans H7.out.2.2.2
      have S8 := mkCx hen8 hlw8.box v0 v1
      have hm2 : m2 ≤ 5000 := by
        have h1 := o8.len
        have h2 := HGL.out y hy
        rw [hgy.out] at h2
        omega
      have HB78 := Lib.hid b78
      have H8 := Lib.hid (And.intro hen8 (And.intro hlw8 (And.intro v0 (And.intro v1 o8))))
      have HS8 := Lib.hid S8
      clear b78 hen8 hlw8 v0 v1 S8 o8 b8
      gi_wp2
      refine ⟨fun _ => HS8.out, ?_⟩
      obtain ⟨q9, cap9, V9, hr9, hb9, hlw9, hgrow9, hoth9⟩ := H8.out.2.1.app (by have h1 := H8.out.1.sz; have h2 := H8.out.1.hr; omega) H8.out.2.2.2.2 (by have := HLL.out; omega) 91
      have hown8 : ∀ b, (Value.slice q L.length d).ownBlock = some b → w.heap.size + 3 ≤ b ∧ b < W6.heap.size := HOB.out
      have hen9 := H8.out.1.grown hgrow9 (fun r e => (hown8 r e).1)
      have hT8 : W6.heap.size < V8.heap.size := Nat.lt_of_lt_of_le HT6.out HB78.out.size
      have v0 : V9.cell? ⟨W6.heap.size, 0, none⟩ = some (.slice pc (k + 1) dc) := (World.cell?_of_block (hgrow9.block _ hT8 (fun e => absurd (hown8 _ e.symm).2 (Nat.lt_irrefl _)))).trans H8.out.2.2.1
      have v1 : V9.cell? ⟨W6.heap.size, 1, none⟩ = some (.int .i64 P) := (World.cell?_of_block (hgrow9.block _ hT8 (fun e => absurd (hown8 _ e.symm).2 (Nat.lt_irrefl _)))).trans H8.out.2.2.2.1
      have S9 := mkCx hen9 hb9 v0 v1
      refine rowH_app rfl _ _ 91 rfl rfl rfl hr9 ⟨fun _ => S9, ?_⟩
      have e6 : V9.cell? ⟨w.heap.size + 1 + 1 + 1 + 1, 0, none⟩ = some (.slice q L.length d) := hb9.cell
      have e7 : V9.frozen? ⟨w.heap.size + 1 + 1 + 1 + 1, 0, none⟩ = false := hb9.frozen
      have HZ := Lib.hid (And.intro hen9 (And.intro hlw9 (And.intro hgrow9 hoth9)))
      clear hen9 hlw9 hgrow9 hoth9 v0 v1 S9 hr9 hb9
      refine Qsl.rowH_step (by rfl) ?_
      gi_wp2
      refine ⟨fun h => absurd rfl h, ?_⟩
      refine Qsl.rowH_nil ?_
      gi_wp2
      obtain ⟨hen9, hlw9, hgrow9, hoth9⟩ := HZ.out
      have h1 := HI.out.1.sz
      have b08 : Below V.heap.size V V8 := HBQ.out.trans ((HB57.out.trans (HB78.out.mono HB57.out.size)).mono HBQ.out.size)
      have h2 := b08.size
      have HSZ : V.heap.size ≤ (V9.setCell ⟨w.heap.size + 1 + 1 + 1 + 1, 0, none⟩ (.slice q9 (L.length + m2) cap9)).heap.size := by
        have h3 := hgrow9.size
        have h4 : (V9.setCell ⟨w.heap.size + 1 + 1 + 1 + 1, 0, none⟩ (.slice q9 (L.length + m2) cap9)).heap.size = V9.heap.size := by simp [World.setCell]
        omega
      have h5 := HI.out.1.hr
      obtain ⟨vs8, ov8, _⟩ := H8.out.2.1.own
      refine ⟨((others_below b08).trans (others_grown hgrow9 fun k hk => own_cells ov8 k hk)).trans (KeepsOthers.setCell _ _ _), ⟨HSZ, ?_⟩, ?_⟩
      · refine (Below.heap_setCell _ _ _ _ (by show w1.heap.size ≠ w.heap.size + 4; omega)).trans ?_
        refine (hgrow9.block _ (by omega) (fun e => hqn e.symm)).trans ?_
        exact b08.block _ (by omega)
      · refine ⟨hen9.set _, ?_, ?_⟩
        · show Inv _ _ _ (List.flatMap g ((pre ++ [(⟨y, hy⟩ : Yx A1 A2)]).map (·.1)))
          rw [HL.out, hgy.out]
          have el : (L ++ ext l m (Z.drop (k + 1)) (ys ++ [y]) P).length = L.length + m2 := by rw [List.length_append, H8.out.2.2.2.2.len]
          exact ⟨q9, cap9, hlw9, by rw [el]; exact hoth9 _ (by omega) hqn⟩
        · exact ((HI.out.2.2.trans (b08.mono HI.out.2.2.size)).grown hgrow9 (by have h1 := HI.out.2.2.size; omega) (fun k hk => by have := (hown8 k hk).1; omega)).setCell (p := ⟨w.heap.size + 4, 0, none⟩) (by show w.heap.size ≤ w.heap.size + 4; omega) _
    · have hg0 : g y = [] := by rw [HG.out]; dsimp only; rw [← HU.out, if_neg hp]
      gi_wp2
      exact ⟨others_below HBQ.out, KpC.of_below HBQ.out (by have := HI.out.1.sz; omega), HN.out.1, by show Inv W5 _ _ (List.flatMap g ((pre ++ [(⟨y, hy⟩ : Yx A1 A2)]).map (·.1))); rw [HL.out, hg0, List.append_nil]; exact ⟨q, d, HN.out.2.1, hqn⟩, HN.out.2.2⟩
  case done =>
    rintro D xs V hD hS ⟨hen, ⟨q, d, hlw, hqn⟩, hbel⟩ hK
    rw [hS] at hlw
    obtain ⟨L, hL⟩ : ∃ L, L = (yrs A1 A2).flatMap g := ⟨_, rfl⟩
    rw [← hL] at hlw
    have HLE := Lib.hid (HRES.out.trans hL.symm)
    have c6 : V.cell? ⟨w.heap.size + 1 + 1 + 1 + 1, 0, none⟩ = some (.slice q L.length d) := hlw.box.cell
    have HI := Lib.hid (And.intro hen (And.intro hlw (And.intro hbel (And.intro hK hD))))
    clear hen hlw hbel hK hL hS hD hqn
    gi_wp2
    obtain ⟨hen, hlw, hbel, hK, hD⟩ := HI.out
    refine ⟨by simp, .inl ⟨_, _, rfl, run_takeDeferred hK, ?_⟩⟩
    refine ⟨_, results_tmp rfl _ _ _, ?_⟩
    refine ⟨q, L.length, d, rfl, ?_, hbel.trans (belowK_b (w := w) (Nat.le_refl _) _ D _ _ (by have h1 := hen.hr; have h2 := S2.out; omega) hK rfl rfl)⟩
    rw [HLE.out]
    obtain ⟨vs, o1, o2⟩ := hlw.own
    have hb3 : B ≤ w.heap.size + 3 := by have := HBB.out; omega
    exact ⟨vs, ownsRow_base (ownsRow_putObj o1 _ hK rfl) hb3, o2.map fun _ _ _ _ h => ownsRow_base (ownsRow_putObj h _ hK rfl) hb3⟩
/-- The datings that begin with some years. -/
theorem ext_any (l m : List (Int × Int)) (Z : List Zh.Pt) (hv : Vd l m Z) (a1 a2 a3 : Option Addr) (n1 c1 n2 c2 n3 c3 : Nat) : ∀ (r k : Nat), k + r = n3 → ∀ (p : Option Addr) (c : Nat) (ys : List Int) (wt : Int) (B : Nat) (w : World), Arg w a1 n1 a2 n2 a3 n3 l m Z → w.ownsRow B 3 1 (.slice p k c) k (ints ys) → B ≤ w.heap.size →
    fits l m ys → (∀ y ∈ ys, -20000 ≤ y ∧ y ≤ 2100) → 0 < wt → wt ≤ sms (Z.take k) →
    Calls Try.prog 107 #[.agg #[.slice a1 n1 c1, .slice a2 n2 c2, .slice a3 n3 c3], .agg #[.slice p k c, .int .i64 wt]] w (DtAns B (ext l m (Z.drop k) ys wt) w)
  | 0, k, hk, p, c, ys, wt, B, w, h, ho, hB, _, _, _, _ => by
    have hd : Z.drop k = [] := List.drop_of_length_le (by have := h.h3.1; omega)
    rw [hd]
    exact base_any a1 a2 a3 n1 c1 n2 c2 n3 c3 p k c ys wt B w (by omega) ho hB
  | r + 1, k, hk, p, c, ys, wt, B, w, h, ho, hB, h1, h2, h3, h4 =>
    step_any l m Z hv a1 a2 a3 n1 c1 n2 c2 n3 c3 p k c ys wt B w h (by omega) ho hB h1 h2 h3 h4 fun p' c' ys' wt' B' W hA hO hB' g1 g2 g3 g4 =>
      ext_any l m Z hv a1 a2 a3 n1 c1 n2 c2 n3 c3 r (k + 1) (by omega) p' c' ys' wt' B' W hA hO hB' g1 g2 g3 g4
/-- The program's datings. -/
theorem datings_any (l m : List (Int × Int)) (Z : List Zh.Pt) (hv : Vd l m Z) (a1 a2 a3 : Option Addr) (n1 c1 n2 c2 n3 c3 : Nat) (w : World) (h : Arg w a1 n1 a2 n2 a3 n3 l m Z) :
    Calls Try.prog 65 #[.agg #[.slice a1 n1 c1, .slice a2 n2 c2, .slice a3 n3 c3]] w (DtAns w.heap.size (dts l m Z) w) := by
  have hb := below_alloc w (.cells #[.slice a1 n1 c1, .slice a2 n2 c2, .slice a3 n3 c3] 37)
  obtain ⟨f1, f2, f3⟩ := box3 w (.slice a1 n1 c1) (.slice a2 n2 c2) (.slice a3 n3 c3) 37
  have HC := Lib.hid (ext_any l m Z hv a1 a2 a3 n1 c1 n2 c2 n3 c3 n3 0 (by omega) none 0 [] 1 w.heap.size (w.alloc (.cells #[.slice a1 n1 c1, .slice a2 n2 c2, .slice a3 n3 c3] 37)) (h.below hb) (World.ownsRow_nil _ _ _ _) (by simp) (fun k y hy => by simp at hy) (fun y hy => by simp at hy) (by decide) (by show (1 : Int) ≤ 1; decide))
  have HB := Lib.hid hb
  clear h hb
  go_enter Try.func65, Try.ntmps65
  go_wp2_with fail
  refine HC.out.mono ?_
  rintro e w2 ⟨q, n, d, rfl, o2, b2⟩
  have HE := Lib.hid (And.intro o2 (HB.out.trans (b2.mono HB.out.size)))
  clear o2 b2
  go_wp2_with fail
  go_ret
  exact ⟨q, n, d, rfl, HE.out.1, HE.out.2⟩
end Go.Proofs.Ytfbgekhkbbhggaa.ExI
