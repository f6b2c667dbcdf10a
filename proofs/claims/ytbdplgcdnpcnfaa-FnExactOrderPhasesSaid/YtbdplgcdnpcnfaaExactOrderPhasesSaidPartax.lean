/- copy and clear over rows of pairs; a row whose whole block is known. -/
import Derived.Test.YtbdplgcdnpcnfaaExactOrderPhasesSaidPartab
import Derived.Laws.CopyOwn
import Derived.Deep.RegionLaw
import Derived.Test.YtbdplgcdnpcnfaaExactOrderPhasesSaidPartac
import Derived.Deep.RegionHeld3
import Derived.Deep.DeepCutAuto
namespace Go.Proofs.Ytbdplgcdnpcnfaa.Row2
open Go.RowKit Pairs Rec Keep

theorem run_copy2 {P : Program} (w : World) (dT sT ty elem : TypeId) (g o dLen dCap : Nat) (a : Addr) (sLen sCap : Nat) (cur : Array Value) (t : TypeId) (cs : List Value)
    (hu : P.underlying dT = some (.slice elem)) (hs : (P.info? elem).map (·.size) = some 2)
    (hg : w.heap[g]? = some (.cells cur t (0, 0))) (hn : cs.length = Nat.min sLen dLen * 2)
    (hsrc : ∀ j v, cs[j]? = some v → w.cell? (a.add j) = some v) (hfit : o + cs.length ≤ cur.size) (h1 : ∀ v ∈ cs, v.oneCell' = true) :
    (Builtin.copy_ #[dT, sT] ty #[.slice (some ⟨g, o, none⟩) dLen dCap, .slice (some a) sLen sCap]).run P w =
      .ok (goInt (Nat.min sLen dLen)) (w.setRow g (cur.toList.take o ++ cs ++ cur.toList.drop (o + cs.length)).toArray) := by
  have hl := run_loadCells_list (P := P) w a cs hsrc
  have hst := run_storeCells_at P g o t cs 0 cur w hg (by simpa using hfit) h1
  cases hq : P.info? elem with
  | none => simp [hq] at hs
  | some i =>
    have hi : i.size = 2 := by simpa [hq] using hs
    simp [Builtin.copy_, run_underlying hu, Builtin.lenOf, Builtin.firstCells, sizeOf, typeInfo, hq, hi, ← hn, hl, hst]
theorem run_copy2_none {P : Program} (w : World) (dT sT ty elem : TypeId) (d a : Option Addr) (dLen dCap sLen sCap : Nat) (hu : P.underlying dT = some (.slice elem)) (hs : (P.info? elem).map (·.size) = some 2) (hn : Nat.min sLen dLen = 0) :
    (Builtin.copy_ #[dT, sT] ty #[.slice d dLen dCap, .slice a sLen sCap]).run P w = .ok (goInt 0) w := by
  cases hq : P.info? elem with
  | none => simp [hq] at hs
  | some i =>
    cases a <;> cases d <;> simp [Builtin.copy_, run_underlying hu, Builtin.lenOf, Builtin.firstCells, sizeOf, typeInfo, hq, hn, storeCells, loadCells, loadCellsFrom]
theorem run_copy2_all {P : Program} (w : World) (dT sT ty elem : TypeId) (hu : P.underlying dT = some (.slice elem)) (hsz : (P.info? elem).map (·.size) = some 2)
    (dp sp : Option Addr) (dLen dCap sLen sCap : Nat) (n : Nat) (hn : Nat.min sLen dLen = n)
    (g off : Nat) (cur : List Value) (t : TypeId) (hg : w.heap[g]? = some (.cells cur.toArray t (0, 0))) (cs : List Value) (hl : cs.length = n * 2)
    (hpos : 0 < n → dp = some ⟨g, off, none⟩ ∧ ∃ ad, sp = some ad ∧ ∀ j v, cs[j]? = some v → w.cell? (ad.add j) = some v)
    (hfit : off + cs.length ≤ cur.length) (h1 : ∀ v ∈ cs, v.oneCell' = true) :
    (Builtin.copy_ #[dT, sT] ty #[.slice dp dLen dCap, .slice sp sLen sCap]).run P w = .ok (goInt n) (w.setRow g (splice cur off cs).toArray) := by
  by_cases h0 : n = 0
  · have hc0 : cs = [] := List.eq_nil_of_length_eq_zero (by omega)
    subst hc0
    have e : splice cur off ([] : List Value) = cur := by unfold splice; simp
    rw [e, setRow_self w g cur.toArray t (0, 0) hg, run_copy2_none (P := P) w dT sT ty elem dp sp dLen dCap sLen sCap hu hsz (hn.trans h0), h0]
    rfl
  · obtain ⟨rfl, ad, rfl, hsrc⟩ := hpos (by omega)
    have hrun := run_copy2 (P := P) w dT sT ty elem g off dLen dCap ad sLen sCap cur.toArray t cs hu hsz hg (by rw [hn]; exact hl) hsrc (by simpa using hfit) h1
    have e : (cur.toArray.toList.take off ++ cs ++ cur.toArray.toList.drop (off + cs.length)).toArray = (splice cur off cs).toArray := by unfold splice; simp
    rw [e, hn] at hrun
    exact hrun
/-- copy of pairs: n of them go over, from sp to the row's place off. -/
theorem wp_copy2 {P : Program} {w : World} {o : Oper} {a : Act} {K : Act → World → Prop} {Q : Exit → Act → World → Prop} (d s : Operand) (dT sT : TypeId)
    (ho : o.op = .call { callee := .builtin .copy, args := #[d, s], argTypes := #[dT, sT] }) (elem : TypeId) (hu : P.underlying dT = some (.slice elem)) (hsz : (P.info? elem).map (·.size) = some 2)
    (dp sp : Option Addr) (dLen dCap sLen sCap : Nat) (hd : a.eval d = .slice dp dLen dCap) (hs : a.eval s = .slice sp sLen sCap) (n : Nat) (hn : Nat.min sLen dLen = n)
    (g off : Nat) (cur : List Value) (t : TypeId) (hg : w.heap[g]? = some (.cells cur.toArray t (0, 0))) (cs : List Value) (hl : cs.length = n * 2)
    (hpos : 0 < n → dp = some ⟨g, off, none⟩ ∧ ∃ ad, sp = some ad ∧ ∀ j v, cs[j]? = some v → w.cell? (ad.add j) = some v)
    (hfit : off + cs.length ≤ cur.length) (h1 : ∀ v ∈ cs, v.oneCell' = true)
    (h : K (a.put o.dst (goInt n)) (w.setRow g (splice cur off cs).toArray)) : o.wp P a w K Q := by
  by_cases h0 : n = 0
  · have hc0 : cs = [] := List.eq_nil_of_length_eq_zero (by omega)
    subst hc0
    have hrun := run_copy2_none (P := P) w dT sT o.type elem dp sp dLen dCap sLen sCap hu hsz (hn.trans h0)
    have e : splice cur off ([] : List Value) = cur := by unfold splice; simp
    have e2 := setRow_self w g cur.toArray t (0, 0) hg
    rw [e, e2, h0] at h
    unfold Oper.wp
    simp [execOp, ho, resolve, invoke, builtin, hd, hs, hrun, Result.andThen]
    exact h
  · obtain ⟨rfl, ad, rfl, hsrc⟩ := hpos (by omega)
    have hrun := run_copy2 (P := P) w dT sT o.type elem g off dLen dCap ad sLen sCap cur.toArray t cs hu hsz hg (by rw [hn]; exact hl) hsrc (by simpa using hfit) h1
    have e : (cur.toArray.toList.take off ++ cs ++ cur.toArray.toList.drop (off + cs.length)).toArray = (splice cur off cs).toArray := by unfold splice; simp
    rw [e, hn] at hrun
    unfold Oper.wp
    simp [execOp, ho, resolve, invoke, builtin, hd, hs, hrun, Result.andThen]
    exact h
theorem wpList_copy2 {P : Program} {w : World} {ops : Array Oper} {rest : List Oper} {o : Oper} {a : Act} {Q : Exit → Act → World → Prop} (hgd : o.guard = none) (d s : Operand) (dT sT : TypeId)
    (ho : o.op = .call { callee := .builtin .copy, args := #[d, s], argTypes := #[dT, sT] }) (elem : TypeId) (hu : P.underlying dT = some (.slice elem)) (hsz : (P.info? elem).map (·.size) = some 2)
    (dp sp : Option Addr) (dLen dCap sLen sCap : Nat) (hd : a.eval d = .slice dp dLen dCap) (hs : a.eval s = .slice sp sLen sCap) (n : Nat) (hn : Nat.min sLen dLen = n)
    (g off : Nat) (cur : List Value) (t : TypeId) (hg : w.heap[g]? = some (.cells cur.toArray t (0, 0))) (cs : List Value) (hl : cs.length = n * 2)
    (hpos : 0 < n → dp = some ⟨g, off, none⟩ ∧ ∃ ad, sp = some ad ∧ ∀ j v, cs[j]? = some v → w.cell? (ad.add j) = some v)
    (hfit : off + cs.length ≤ cur.length) (h1 : ∀ v ∈ cs, v.oneCell' = true)
    (h : ∀ w', Hid (w' = w.setRow g (splice cur off cs).toArray) → wpList P ops Q rest (a.put o.dst (goInt n)) w') : wpList P ops Q (o :: rest) a w :=
  wpList_plain hgd fun _ hK => wp_copy2 d s dT sT ho elem hu hsz dp sp dLen dCap sLen sCap hd hs n hn g off cur t hg cs hl hpos hfit h1 (hK _ _ (h _ rfl))
theorem step_copy2 {P : Program} {w : World} {ops : Array Oper} {o : Oper} {a : Act} {K : Act → World → Prop} {Q : Exit → Act → World → Prop} {E : Prop} (hgd : o.guard = none) (d s : Operand) (dT sT : TypeId)
    (ho : o.op = .call { callee := .builtin .copy, args := #[d, s], argTypes := #[dT, sT] }) (elem : TypeId) (hu : P.underlying dT = some (.slice elem)) (hsz : (P.info? elem).map (·.size) = some 2)
    (dp sp : Option Addr) (dLen dCap sLen sCap : Nat) (hd : a.eval d = .slice dp dLen dCap) (hs : a.eval s = .slice sp sLen sCap) (n : Nat) (hn : Nat.min sLen dLen = n)
    (g off : Nat) (cur : List Value) (t : TypeId) (hg : w.heap[g]? = some (.cells cur.toArray t (0, 0))) (cs : List Value) (hl : cs.length = n * 2)
    (hpos : 0 < n → dp = some ⟨g, off, none⟩ ∧ ∃ ad, sp = some ad ∧ ∀ j v, cs[j]? = some v → w.cell? (ad.add j) = some v)
    (hfit : off + cs.length ≤ cur.length) (h1 : ∀ v ∈ cs, v.oneCell' = true)
    (h : K (a.put o.dst (goInt n)) (w.setRow g (splice cur off cs).toArray)) :
    if Region.wanted o (yielded ops a.tmps) = true then Oper.wp P o a w K Q else E := by
  have hw : Region.wanted o (yielded ops a.tmps) = true := by simp [Region.wanted, hgd]
  rw [if_pos hw]
  exact wp_copy2 d s dT sT ho elem hu hsz dp sp dLen dCap sLen sCap hd hs n hn g off cur t hg cs hl hpos hfit h1 h
/-- make of pairs, as an equation. -/
def zeros (n : Nat) : List Value := (madeCells #[.int .i64 0, .int .i64 0] (n * 2)).toList
theorem zeros_len (n : Nat) : (zeros n).length = n * 2 := by unfold zeros madeCells; simp
theorem run_make2 {P : Program} (w : World) (t e : TypeId) (ht : P.underlying t = some (.slice e)) (hinfo : (P.info? e).map (fun i => (i.zero, i.size, i.bytes)) = some (some (.agg #[.int .i64 0, .int .i64 0]), 2, 16)) (n : Nat) (hn : n ≤ 1048576) :
    (Instr.makeSlice t (.int .i64 (n : Int)) (.int .i64 (n : Int))).run P w = .ok (.slice (some ⟨w.heap.size, 0, none⟩) n n) (w.alloc (.cells (zeros n).toArray e)) := by
  obtain ⟨i, hi, hz, hsz, hby⟩ := Go.info_parts (e := e) hinfo
  have hr := run_make (P := P) w t e i _ ht hi hz .i64 .i64 n n (by omega) (Int.le_refl _) (by rw [hby]; omega) (by omega)
  simp only [Int.toNat_natCast] at hr
  rw [hr, hsz]
  unfold zeros
  rw [Array.toArray_toList]
  rfl
end Go.Proofs.Ytbdplgcdnpcnfaa.Row2
/- The program's copyRecord: a record of its own. -/
namespace Go.Proofs.Ytbdplgcdnpcnfaa.Copy
open Go.RowKit Pairs Rec RecEq Keep Row2

theorem blocks3 (W : World) (o1 o2 o3 : Obj) : (((W.alloc o1).alloc o2).alloc o3).drew.heap[W.heap.size]? = some o1 ∧ (((W.alloc o1).alloc o2).alloc o3).drew.heap[W.heap.size + 1]? = some o2 ∧ (((W.alloc o1).alloc o2).alloc o3).drew.heap[W.heap.size + 2]? = some o3 ∧ Below W.heap.size W (((W.alloc o1).alloc o2).alloc o3).drew := by
  have e : ∀ (w : World) (o : Obj), (w.alloc o).heap = w.heap.push o := fun _ _ => rfl
  have d : ∀ (w : World), w.drew.heap = w.heap := fun _ => rfl
  refine ⟨?_, ?_, ?_, (((below_alloc W o1).alloc (by simp) o2).alloc (by simp; omega) o3).drew⟩
  · rw [d, e, e, e, Array.getElem?_push, if_neg (by simp; omega), Array.getElem?_push, if_neg (by simp), Array.getElem?_push, if_pos rfl]
  · rw [d, e, e, e, Array.getElem?_push, if_neg (by simp), Array.getElem?_push, if_pos (by simp)]
  · rw [d, e, e, e, Array.getElem?_push, if_pos (by simp)]
theorem flat_one (l : List (Int × Int)) : ∀ v ∈ flat l, v.oneCell' = true := by
  intro v hv
  unfold flat at hv
  rw [List.mem_flatMap] at hv
  obtain ⟨p, _, hp⟩ := hv
  simp at hp
  rcases hp with rfl | rfl <;> rfl
theorem flat_at {l : List (Int × Int)} {j : Nat} {v : Value} (h : (flat l)[j]? = some v) : ∃ x, l[j / 2]? = some x ∧ ((j = j / 2 * 2 ∧ v = .int .i64 x.1) ∨ (j = j / 2 * 2 + 1 ∧ v = .int .i64 x.2)) := by
  have hl := (List.getElem?_eq_some_iff.1 h).1
  rw [flat_len] at hl
  have hk : j / 2 < l.length := by omega
  have hx : l[j / 2]? = some l[j / 2] := List.getElem?_eq_getElem hk
  have e := flat_get l (j / 2) l[j / 2].1 l[j / 2].2 hx
  refine ⟨_, hx, ?_⟩
  by_cases hj : j = j / 2 * 2
  · refine .inl ⟨hj, ?_⟩
    rw [hj, e.1] at h
    injection h with h
    exact h.symm
  · have hj2 : j = j / 2 * 2 + 1 := by omega
    refine .inr ⟨hj2, ?_⟩
    rw [hj2, e.2] at h
    injection h with h
    exact h.symm
/-- The cells of a row, as a source. -/
theorem holds_src {w : World} {a : Option Addr} {n : Nat} {l : List (Int × Int)} (h : Holds w a n l) : 0 < n → ∃ ad, a = some ad ∧ ∀ j v, (flat l)[j]? = some v → w.cell? (ad.add j) = some v := by
  intro hn
  rcases h.2 with h0 | ⟨b, off, ha, hb, hc⟩
  · omega
  · refine ⟨_, ha, fun j v hj => ?_⟩
    obtain ⟨x, hx, h2⟩ := flat_at hj
    have := hc (j / 2) x hx
    rw [Addr.add_lit]
    rcases h2 with ⟨e, rfl⟩ | ⟨e, rfl⟩
    · rw [show off + j = off + j / 2 * 2 by omega]
      exact this.1
    · rw [show off + j = off + j / 2 * 2 + 1 by omega]
      exact this.2
theorem sizeContext : (Try.prog.info? 66).map (·.size) = some 2 := by kernel_rfl
theorem sizeRelation : (Try.prog.info? 89).map (·.size) = some 2 := by kernel_rfl
theorem setRow_cell {w w2 : World} {g : Nat} {cs : Array Value} (h : Hid (w2 = w.setRow g cs)) {p : Addr} {v : Value} (hp : w.cell? p = some v) (hne : p.block ≠ g) : w2.cell? p = some v := by
  rw [h.out, cell_setRow_other _ _ _ _ hne]
  exact hp
theorem splice_all (L cs : List Value) (h : L.length = cs.length) : splice L 0 cs = cs := by
  unfold splice
  rw [List.take_zero, List.nil_append, Nat.zero_add, List.drop_of_length_le (by omega), List.append_nil]
theorem fz {W w : World} (h : Below W.heap.size W w) (p : Addr) (hp : p.block < W.heap.size) (hf : W.frozen? p = false) : w.frozen? p = false :=
  (World.frozen?_of_block (h.block p.block hp)).trans hf
theorem fz_box2 (w : World) (u1 v1 u2 v2 : Value) (t1 t2 : TypeId) : ((w.alloc (.cells #[u1, v1] t1)).alloc (.cells #[u2, v2] t2)).frozen? ⟨w.heap.size + 1, 0, none⟩ = false ∧ ((w.alloc (.cells #[u1, v1] t1)).alloc (.cells #[u2, v2] t2)).frozen? ⟨w.heap.size + 1, 1, none⟩ = false := by
  have e : ∀ (w : World) (o : Obj), (w.alloc o).heap = w.heap.push o := fun _ _ => rfl
  have i1 : ((w.alloc (.cells #[u1, v1] t1)).alloc (.cells #[u2, v2] t2)).heap[w.heap.size + 1]? = some (.cells #[u2, v2] t2) := by
    rw [e, e, Array.getElem?_push, if_pos (by simp)]
  constructor <;> (simp only [World.frozen?, i1]; rfl)
theorem own_of_block {X : World} {g n B : Nat} {T : TypeId} {l : List (Int × Int)} (h : X.heap[g]? = some (.cells (flat l).toArray T)) (hl : l.length = n) (hn : n ≤ 1048576) (hB : B ≤ g) : X.ownsRow B T 2 (.slice (some ⟨g, 0, none⟩) n n) n (flat l) := by
  have e : (flat l).length = n * 2 := by rw [flat_len, hl]
  exact ⟨e, .inr ⟨g, n, (flat l).toArray, rfl, hB, h, Nat.le_refl _, by unfold maxLen; omega, by simpa using e, by rw [← e]; exact List.take_length⟩⟩
theorem set2_cells {w : World} {g : Nat} {u v a b : Value} (h0 : w.cell? ⟨g, 0, none⟩ = some a) (h1 : w.cell? ⟨g, 1, none⟩ = some b) :
    ((w.setCell ⟨g, 0, none⟩ u).setCell ⟨g, 1, none⟩ v).cell? ⟨g, 0, none⟩ = some u ∧ ((w.setCell ⟨g, 0, none⟩ u).setCell ⟨g, 1, none⟩ v).cell? ⟨g, 1, none⟩ = some v := by
  constructor
  · rw [World.cell?_setCell_other _ _ _ _ (by simp)]
    exact World.cell?_setCell_same _ _ _ h0
  · refine World.cell?_setCell_same _ _ _ (u := b) ?_
    rw [World.cell?_setCell_other _ _ _ _ (by simp)]
    exact h1
/-- Behind the making of the rows and their box. -/
def Mid (W wc : World) (s3 : Value) (n1 n2 : Nat) : Prop := ∃ g1 g2 gb : Nat, s3 = .pointer (some ⟨gb, 0, none⟩) ∧ wc.heap[g1]? = some (.cells (zeros n1).toArray 66) ∧ wc.heap[g2]? = some (.cells (zeros n2).toArray 89) ∧
  wc.heap[gb]? = some (.cells #[.slice (some ⟨g1, 0, none⟩) n1 n1, .slice (some ⟨g2, 0, none⟩) n2 n2] 33) ∧ (g1 ≠ g2 ∧ g1 ≠ gb ∧ g2 ≠ gb ∧ W.heap.size ≤ g1 ∧ W.heap.size ≤ g2 ∧ W.heap.size ≤ gb) ∧ Below W.heap.size W wc
theorem mid123 (W : World) (n1 n2 : Nat) : Mid W (((W.alloc (.cells (zeros n1).toArray 66)).alloc (.cells (zeros n2).toArray 89)).alloc (.cells #[.slice (some ⟨W.heap.size, 0, none⟩) n1 n1, .slice (some ⟨W.heap.size + 1, 0, none⟩) n2 n2] 33)).drew (.pointer (some ⟨W.heap.size + 2, 0, none⟩)) n1 n2 := by
  obtain ⟨h1, h2, h3, hb⟩ := blocks3 W (.cells (zeros n1).toArray 66) (.cells (zeros n2).toArray 89) (.cells #[.slice (some ⟨W.heap.size, 0, none⟩) n1 n1, .slice (some ⟨W.heap.size + 1, 0, none⟩) n2 n2] 33)
  exact ⟨_, _, _, rfl, h1, h2, h3, by omega, hb⟩
theorem mid132 (W : World) (n1 n2 : Nat) : Mid W (((W.alloc (.cells (zeros n1).toArray 66)).alloc (.cells #[.slice (some ⟨W.heap.size, 0, none⟩) n1 n1, .slice (some ⟨W.heap.size + 2, 0, none⟩) n2 n2] 33)).alloc (.cells (zeros n2).toArray 89)).drew (.pointer (some ⟨W.heap.size + 1, 0, none⟩)) n1 n2 := by
  obtain ⟨h1, h2, h3, hb⟩ := blocks3 W (.cells (zeros n1).toArray 66) (.cells #[.slice (some ⟨W.heap.size, 0, none⟩) n1 n1, .slice (some ⟨W.heap.size + 2, 0, none⟩) n2 n2] 33) (.cells (zeros n2).toArray 89)
  exact ⟨_, _, _, rfl, h1, h3, h2, by omega, hb⟩
theorem mid213 (W : World) (n1 n2 : Nat) : Mid W (((W.alloc (.cells (zeros n2).toArray 89)).alloc (.cells (zeros n1).toArray 66)).alloc (.cells #[.slice (some ⟨W.heap.size + 1, 0, none⟩) n1 n1, .slice (some ⟨W.heap.size, 0, none⟩) n2 n2] 33)).drew (.pointer (some ⟨W.heap.size + 2, 0, none⟩)) n1 n2 := by
  obtain ⟨h1, h2, h3, hb⟩ := blocks3 W (.cells (zeros n2).toArray 89) (.cells (zeros n1).toArray 66) (.cells #[.slice (some ⟨W.heap.size + 1, 0, none⟩) n1 n1, .slice (some ⟨W.heap.size, 0, none⟩) n2 n2] 33)
  exact ⟨_, _, _, rfl, h2, h1, h3, by omega, hb⟩
theorem mid231 (W : World) (n1 n2 : Nat) : Mid W (((W.alloc (.cells (zeros n2).toArray 89)).alloc (.cells #[.slice (some ⟨W.heap.size + 2, 0, none⟩) n1 n1, .slice (some ⟨W.heap.size, 0, none⟩) n2 n2] 33)).alloc (.cells (zeros n1).toArray 66)).drew (.pointer (some ⟨W.heap.size + 1, 0, none⟩)) n1 n2 := by
  obtain ⟨h1, h2, h3, hb⟩ := blocks3 W (.cells (zeros n2).toArray 89) (.cells #[.slice (some ⟨W.heap.size + 2, 0, none⟩) n1 n1, .slice (some ⟨W.heap.size, 0, none⟩) n2 n2] 33) (.cells (zeros n1).toArray 66)
  exact ⟨_, _, _, rfl, h3, h1, h2, by omega, hb⟩
theorem mid312 (W : World) (n1 n2 : Nat) : Mid W (((W.alloc (.cells #[.slice (some ⟨W.heap.size + 1, 0, none⟩) n1 n1, .slice (some ⟨W.heap.size + 2, 0, none⟩) n2 n2] 33)).alloc (.cells (zeros n1).toArray 66)).alloc (.cells (zeros n2).toArray 89)).drew (.pointer (some ⟨W.heap.size, 0, none⟩)) n1 n2 := by
  obtain ⟨h1, h2, h3, hb⟩ := blocks3 W (.cells #[.slice (some ⟨W.heap.size + 1, 0, none⟩) n1 n1, .slice (some ⟨W.heap.size + 2, 0, none⟩) n2 n2] 33) (.cells (zeros n1).toArray 66) (.cells (zeros n2).toArray 89)
  exact ⟨_, _, _, rfl, h2, h3, h1, by omega, hb⟩
theorem mid321 (W : World) (n1 n2 : Nat) : Mid W (((W.alloc (.cells #[.slice (some ⟨W.heap.size + 2, 0, none⟩) n1 n1, .slice (some ⟨W.heap.size + 1, 0, none⟩) n2 n2] 33)).alloc (.cells (zeros n2).toArray 89)).alloc (.cells (zeros n1).toArray 66)).drew (.pointer (some ⟨W.heap.size, 0, none⟩)) n1 n2 := by
  obtain ⟨h1, h2, h3, hb⟩ := blocks3 W (.cells #[.slice (some ⟨W.heap.size + 2, 0, none⟩) n1 n1, .slice (some ⟨W.heap.size + 1, 0, none⟩) n2 n2] 33) (.cells (zeros n2).toArray 89) (.cells (zeros n1).toArray 66)
  exact ⟨_, _, _, rfl, h3, h2, h1, by omega, hb⟩
end Go.Proofs.Ytbdplgcdnpcnfaa.Copy
