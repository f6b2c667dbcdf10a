/- One relation more: the sums of the program and of the model agree, and are 0 where it makes a cycle; the program's CountBefore. -/
import Derived.Test.YtjllbbkpmmnkgaaDoorIsqM
import Derived.Test.YtjllbbkpmmnkgaaDoorEnI
import Derived.Test.YtjllbbkpmmnkgaaDoorCntS
namespace Go.Proofs.YtjllbbkpmmnkgaaDoor.CbM
open Go.RowKit Pairs Rec Chain Find2 GoodM Keep GivesI Lows Order Bit Table RedS BlM Nxt Tz SqM Org IsqM IsLater IsqS EnM EnI CntS
set_option linter.unusedVariables false
theorem rdU_iff {n : Nat} (hn : n ≤ 10) {U : Nat → Nat} {p i : Nat} (hU : U i < 1024) (hp : p < 2 ^ n) (hi : i < n) :
    rd U (2 ^ n - 1) p i = true ↔ p.testBit i = false ∧ ∀ k, (U i).testBit k = true → p.testBit k = true := by
  have hp2 := p_lt hn hp
  unfold rd nxt
  rw [nxl_bit, mem_bl (an_lt (all_lt hn)), an_bit hp2 (all_lt hn), an_zero hU hp2, Nat.testBit_two_pow_sub_one, decide_eq_true hi, Bool.true_and]
  constructor
  · rintro ⟨h1, h2⟩
    exact ⟨by simpa using h1, h2⟩
  · rintro ⟨h1, h2⟩
    exact ⟨by rw [h1]; rfl, h2⟩
def Lr (T : List Nat) (y x : Nat) : Prop := ∃ t, T[y]? = some t ∧ t.testBit x = true
theorem rmT_iff {T : List Nat} {n p x : Nat} (hx : x < n) : rm T n p x = true ↔ p.testBit x = false ∧ ∀ y, Lr T y x → p.testBit y = true := by
  unfold rm
  rw [decide_eq_true hx, Bool.true_and]
  constructor
  · intro h
    obtain ⟨h1, h2⟩ := rdy_get h
    exact ⟨h1, fun y ⟨t, ht, hb⟩ => h2 y t ht hb⟩
  · rintro ⟨h1, h2⟩
    exact rdy_yes h1 (fun k t ht hb => h2 k ⟨t, ht, hb⟩)
theorem lr_of {l m : Ps} (hg : good l m = true) {n : Nat} (hl : l.length = n) {T : List Nat} (TT : Tbl n T (W (Ed l m) n)) {u x : Int} {y i : Nat} (hu : isAt l u = some y) (hx : isAt l x = some i) : Lr T y i ↔ Chain.Reach m u x := by
  have hy : y < T.length := by rw [TT.len, ← hl]; exact isAt_lt hu
  have ht : T[y]? = some T[y] := List.getElem?_eq_getElem hy
  have hb := tbit hg hl TT hu hx ht
  constructor
  · rintro ⟨t, h1, h2⟩
    rw [ht] at h1
    obtain rfl := Option.some.inj h1
    rw [h2] at hb
    exact later_iff.1 hb.symm
  · intro r
    rw [later_iff.2 r] at hb
    exact ⟨_, ht, hb⟩
theorem num_at {l : Ps} (hA : Asc l) {x : Nat} (hx : x < l.length) : isAt l (l[x]'hx).1 = some x := by
  have hz : l[x]? = some ((l[x]'hx).1, (l[x]'hx).2) := List.getElem?_eq_getElem hx
  exact at_num hA hz
theorem er_lr {l m : Ps} (hg : good l m = true) {n : Nat} (hl : l.length = n) {T : List Nat} (TT : Tbl n T (W (Ed l m) n)) {y x : Nat} (h : (ups l m x).testBit y = true) : Lr T y x := by
  obtain ⟨q, hq, h4, h5⟩ := (ups_bit l x y m).1 h
  obtain ⟨⟨u, hu⟩, _⟩ := Table.good_ends hg q.1 q.2 hq
  rw [hu] at h5
  have e5 : u = y := h5
  subst e5
  exact (lr_of hg hl TT hu h4).2 (.one hq)
theorem lr_lt {l m : Ps} {n : Nat} {T : List Nat} (TT : Tbl n T (W (Ed l m) n)) {y x : Nat} (h : Lr T y x) : y < n := by
  obtain ⟨t, h1, _⟩ := h
  rw [← TT.len]
  exact (List.getElem?_eq_some_iff.1 h1).1
theorem lr_last {l m : Ps} (hg : good l m = true) {n : Nat} (hl : l.length = n) {T : List Nat} (TT : Tbl n T (W (Ed l m) n)) {y x : Nat} (hx : x < n) (h : Lr T y x) : (ups l m x).testBit y = true ∨ ∃ z, Lr T y z ∧ (ups l m x).testBit z = true := by
  have hA := (Idx.good_asc hg).1
  have hy := lr_lt TT h
  have ex := num_at hA (x := x) (by omega)
  have ey := num_at hA (x := y) (by omega)
  have r := (lr_of hg hl TT ey ex).1 h
  generalize (l[x]'(by omega)).1 = X at *
  generalize (l[y]'(by omega)).1 = Y at *
  cases r with
  | one e => exact .inl ((ups_bit l x y m).2 ⟨(Y, X), e, ex, by rw [ey]; rfl⟩)
  | more r e =>
    rename_i c
    obtain ⟨⟨j, hj⟩, _⟩ := Table.good_ends hg c X e
    exact .inr ⟨j, (lr_of hg hl TT ey hj).2 r, (ups_bit l x j m).2 ⟨(c, X), e, ex, by rw [hj]; rfl⟩⟩
def upd (T : List Nat) (i k tk j : Nat) : List Nat := T.mapIdx fun m t => if m < j ∧ (m = i ∨ t.testBit i = true) then t ||| tk ||| 2 ^ k else t
theorem upd_at {T : List Nat} {i k tk j m : Nat} : (upd T i k tk j)[m]? = T[m]?.map fun t => if m < j ∧ (m = i ∨ t.testBit i = true) then t ||| tk ||| 2 ^ k else t := by
  unfold upd
  rw [List.getElem?_mapIdx]
theorem lr_upd {T : List Nat} {i k tk y x : Nat} (hk : T[k]? = some tk) (hi : i < T.length) : Lr (upd T i k tk T.length) y x ↔ Lr T y x ∨ ((y = i ∨ Lr T y i) ∧ (x = k ∨ Lr T k x)) := by
  have hkx : ∀ x, Lr T k x ↔ tk.testBit x = true := fun x => ⟨fun ⟨t, h1, h2⟩ => by rw [hk] at h1; obtain rfl := Option.some.inj h1; exact h2, fun h => ⟨tk, hk, h⟩⟩
  unfold Lr
  rw [upd_at]
  rcases Nat.lt_or_ge y T.length with hy | hy
  · have ht : T[y]? = some T[y] := List.getElem?_eq_getElem hy
    rw [ht]
    generalize T[y] = t
    simp only [Option.map_some, Option.some.injEq, exists_eq_left']
    have hk2 := hkx x
    unfold Lr at hk2
    rw [hk2]
    by_cases hc : y = i ∨ t.testBit i = true
    · rw [if_pos ⟨hy, hc⟩, Nat.testBit_or, Nat.testBit_or, Nat.testBit_two_pow]
      simp only [Bool.or_eq_true, decide_eq_true_eq]
      constructor
      · rintro ((h | h) | h)
        · exact .inl h
        · exact .inr ⟨hc, .inr h⟩
        · exact .inr ⟨hc, .inl h.symm⟩
      · rintro (h | ⟨_, h | h⟩)
        · exact .inl (.inl h)
        · exact .inr h.symm
        · exact .inl (.inr h)
    · rw [if_neg (fun h => hc h.2)]
      constructor
      · exact .inl
      · rintro (h | ⟨h, _⟩)
        · exact h
        · exact absurd h hc
  · have ht : T[y]? = none := List.getElem?_eq_none hy
    rw [ht]
    simp
    omega
def addU (U : Nat → Nat) (i k x : Nat) : Nat := if x = k then U x ||| 2 ^ i else U x
theorem addU_bit {U : Nat → Nat} {i k x y : Nat} : (addU U i k x).testBit y = true ↔ (U x).testBit y = true ∨ (x = k ∧ y = i) := by
  unfold addU
  by_cases e : x = k
  · rw [if_pos e, Nat.testBit_or, Nat.testBit_two_pow]
    simp only [Bool.or_eq_true, decide_eq_true_eq]
    constructor
    · rintro (h | h)
      · exact .inl h
      · exact .inr ⟨e, h.symm⟩
    · rintro (h | ⟨_, h⟩)
      · exact .inl h
      · exact .inr h.symm
  · rw [if_neg e]
    constructor
    · exact .inl
    · rintro (h | ⟨h, _⟩)
      · exact h
      · exact absurd h e
theorem addU_lt {U : Nat → Nat} {i k x : Nat} (hU : U x < 1024) (hi : i < 10) : addU U i k x < 1024 := by
  unfold addU
  split
  · exact Nat.or_lt_two_pow (n := 10) hU (Nat.pow_lt_pow_right (by decide) hi)
  · exact hU
theorem add_fine {n : Nat} (hn : n ≤ 10) (U : Nat → Nat) : Fine (rd U (2 ^ n - 1)) n := rd_fine (n := n) rfl (all_lt hn)
theorem agreeB {l m : Ps} (hg : good l m = true) {n : Nat} (hl : l.length = n) {T : List Nat} (TT : Tbl n T (W (Ed l m) n)) {i k tk : Nat} (hi : i < n) (hk : T[k]? = some tk) : v (rm (upd T i k tk n) n) n 0 = v (rd (addU (ups l m) i k) (2 ^ n - 1)) n 0 := by
  have hn : n ≤ 10 := by rw [← hl]; exact (Table.good_few hg).1
  have hTl : T.length = n := TT.len
  have key : ∀ y x, Lr (upd T i k tk n) y x ↔ Lr T y x ∨ ((y = i ∨ Lr T y i) ∧ (x = k ∨ Lr T k x)) := fun y x => by
    have h := lr_upd (T := T) (i := i) (k := k) (tk := tk) (y := y) (x := x) hk (by omega)
    rw [hTl] at h
    exact h
  have hUl : ∀ x, addU (ups l m) i k x < 1024 := fun x => addU_lt (ups_lt l m (by rw [hl]; exact hn) x) (by omega)
  have hkn : k < n := by rw [← hTl]; exact (List.getElem?_eq_some_iff.1 hk).1
  refine v_agree (rm_fine _ n) (add_fine hn _) (fun q => ∀ y x, Lr (upd T i k tk n) y x → q.testBit x = true → q.testBit y = true) (fun q hq hc x hx => ?_) (fun q x hq hc hr => ?_) (2 ^ n) 0 (Nat.two_pow_pos n) (Nat.le_trans (Nat.sub_le _ _) (Nat.sub_le _ _)) (fun y x _ h => by simp at h)
  · have h1 := rmT_iff (T := upd T i k tk n) (p := q) hx
    have h2 := rdU_iff hn (hUl x) hq hx
    have h3 : rm (upd T i k tk n) n q x = true ↔ rd (addU (ups l m) i k) (2 ^ n - 1) q x = true := by
      rw [h1, h2]
      constructor
      · rintro ⟨e1, e2⟩
        refine ⟨e1, fun y hy => e2 y ((key y x).2 ?_)⟩
        rcases addU_bit.1 hy with h | ⟨rfl, rfl⟩
        · exact .inl (er_lr hg hl TT h)
        · exact .inr ⟨.inl rfl, .inl rfl⟩
      · rintro ⟨e1, e2⟩
        have eU : ∀ y, (ups l m x).testBit y = true → q.testBit y = true := fun y h => e2 y (addU_bit.2 (.inl h))
        refine ⟨e1, fun y hy => ?_⟩
        rcases (key y x).1 hy with h | ⟨hyi, h | h⟩
        · rcases lr_last hg hl TT hx h with h4 | ⟨z, h4, h5⟩
          · exact eU y h4
          · exact hc y z ((key y z).2 (.inl h4)) (eU z h5)
        · have hqi : q.testBit i = true := e2 i (addU_bit.2 (.inr ⟨h, rfl⟩))
          rcases hyi with rfl | hyi
          · exact hqi
          · exact hc y i ((key y i).2 (.inl hyi)) hqi
        · rcases lr_last hg hl TT hx h with h4 | ⟨z, h4, h5⟩
          · exact hc y k ((key y k).2 (.inr ⟨hyi, .inl rfl⟩)) (eU k h4)
          · exact hc y z ((key y z).2 (.inr ⟨hyi, .inr h4⟩)) (eU z h5)
    cases e1 : rm (upd T i k tk n) n q x <;> cases e2 : rd (addU (ups l m) i k) (2 ^ n - 1) q x <;> simp_all
  · have hx := (rm_fine _ n q x hq hr).1
    have h1 := ((rmT_iff (T := upd T i k tk n) (p := q) hx).1 hr).2
    intro y z hyz hb
    rw [Nat.testBit_or, Bool.or_eq_true] at hb ⊢
    left
    rcases hb with hb | hb
    · exact hc y z hyz hb
    · rw [Nat.testBit_two_pow, decide_eq_true_iff] at hb
      subst hb
      exact h1 y hyz
theorem fold_zero {f : Nat → Int} : ∀ (xs : List Nat), (∀ x ∈ xs, f x = 0) → xs.foldl (fun a i => wrap64 (a + f i)) 0 = 0
  | [], _ => rfl
  | x :: xs, h => by
    rw [List.foldl_cons, h x (List.mem_cons_self ..), show wrap64 (0 + 0) = 0 by unfold wrap64; omega]
    exact fold_zero xs (fun y hy => h y (List.mem_cons_of_mem _ hy))
theorem zeroB {l m : Ps} (hg : good l m = true) {n : Nat} (hl : l.length = n) {T : List Nat} (TT : Tbl n T (W (Ed l m) n)) {i k tk : Nat} (hi : i < n) (hk : T[k]? = some tk) (hb : tk.testBit i = true) :
    ∀ (f p : Nat), 2 ^ n - p ≤ f → p < 2 ^ n → (∀ y x, Lr T y x → p.testBit x = true → p.testBit y = true) → p.testBit k = false → v (rd (addU (ups l m) i k) (2 ^ n - 1)) n p = 0
  | 0, p, h, hp, _, _ => by omega
  | f + 1, p, h, hp, hc, hpk => by
    have hn : n ≤ 10 := by rw [← hl]; exact (Table.good_few hg).1
    have hTl : T.length = n := TT.len
    have hkn : k < n := by rw [← hTl]; exact (List.getElem?_eq_some_iff.1 hk).1
    have hUl : ∀ x, addU (ups l m) i k x < 1024 := fun x => addU_lt (ups_lt l m (by rw [hl]; exact hn) x) (by omega)
    have hne : p ≠ 2 ^ n - 1 := by
      rintro rfl
      rw [Nat.testBit_two_pow_sub_one, decide_eq_true hkn] at hpk
      exact absurd hpk (by simp)
    rw [v_eq (add_fine hn _) hp hne]
    refine fold_zero _ (fun x hx => ?_)
    obtain ⟨hx1, hx2⟩ := List.mem_filter.1 hx
    have hxn : x < n := List.mem_range.1 hx1
    obtain ⟨e1, e2⟩ := (rdU_iff hn (hUl x) hp hxn).1 hx2
    have hpi : p.testBit i = false := by
      cases e : p.testBit i with
      | false => rfl
      | true => rw [hc k i ⟨tk, hk, hb⟩ e] at hpk; exact absurd hpk (by simp)
    have hxk : x ≠ k := by
      intro e
      rw [e2 i (addU_bit.2 (.inr ⟨e, rfl⟩))] at hpi
      exact absurd hpi (by simp)
    have h1 := or_gt e1
    have h2 := or_lt hp hxn
    refine zeroB hg hl TT hi hk hb f _ (by omega) h2 (fun y z hyz hz => ?_) ?_
    · rw [Nat.testBit_or, Bool.or_eq_true] at hz ⊢
      left
      rcases hz with hz | hz
      · exact hc y z hyz hz
      · rw [Nat.testBit_two_pow, decide_eq_true_iff] at hz
        subst hz
        rcases lr_last hg hl TT hxn hyz with h4 | ⟨z, h4, h5⟩
        · exact e2 y (addU_bit.2 (.inl h4))
        · exact hc y z h4 (e2 z (addU_bit.2 (.inl h5)))
    · rw [Nat.testBit_or, hpk, Nat.testBit_two_pow]
      simp [hxk]
end Go.Proofs.YtjllbbkpmmnkgaaDoor.CbM

namespace Go.Proofs.YtjllbbkpmmnkgaaDoor.CbP
open Go.RowKit Pairs Rec Chain Find2 GoodM Keep GivesI Lows Order Table RedS BlM Nxt Tz SqM Org IsqM EnM EnI CntS IsLater CbM
set_option linter.unusedVariables false
theorem idx71 {C : Array Value} {z : Int} (h : C[0]? = some (.int .i64 z)) : ∀ w, (Instr.index 71 (.agg C) (.int .i64 0)).run Tryd.prog w = .ok (.int .i64 z) w := by
  intro w
  have hs : 0 < C.size := by
    rcases Nat.eq_zero_or_pos C.size with e | e
    · rw [Array.getElem?_eq_none (by omega)] at h; exact absurd h (by simp)
    · exact e
  have hg : C[0]'hs = .int .i64 z := by
    rw [Array.getElem?_eq_getElem hs] at h
    exact Option.some.inj h
  simp [Instr.index, run_underlying Tryd.underlying71, asIntOf, go_sem, hs, hg]
noncomputable def cbP (x y : Int) (l m : Ps) : Int × Bool := if good l m = true ∧ cyc l m = false then (if has2 l m x y = true ∧ x ≠ y then (v (rd (addU (ups l m) ((isAt l x).getD 0) ((isAt l y).getD 0)) (2 ^ l.length - 1)) l.length 0, true) else (0, false)) else (0, false)
theorem cb_no {x y : Int} {l m : Ps} (h : ¬ (good l m = true ∧ cyc l m = false)) : cbP x y l m = (0, false) := by unfold cbP; rw [if_neg h]
theorem cb_no2 {x y : Int} {l m : Ps} (h : has2 l m x y = false) : cbP x y l m = (0, false) := by
  unfold cbP
  rw [h]
  simp
theorem cb_no3 {x y : Int} {l m : Ps} (h : x = y) : cbP x y l m = (0, false) := by
  unfold cbP
  simp [h]
theorem cb_yes {x y : Int} {l m : Ps} {i k : Nat} (h : good l m = true ∧ cyc l m = false) (hx : isAt l x = some i) (hy : isAt l y = some k) (hne : x ≠ y) : cbP x y l m = (v (rd (addU (ups l m) i k) (2 ^ l.length - 1)) l.length 0, true) := by
  unfold cbP
  rw [if_pos h, if_pos ⟨has2_iff.2 ⟨h.1, ⟨i, hx⟩, k, hy⟩, hne⟩, hx, hy]
  rfl
theorem arr_add {all : Nat} {U : Nat → Nat} {i k : Nat} (hk : k < 10) : (arr all U).setIfInBounds (1 + k) (.int .u64 ((U k ||| 2 ^ i : Nat) : Int)) = arr all (addU U i k) := by
  rw [arr_set _ _ _ _ hk]
  refine arr_congr fun q _ => ?_
  unfold addU
  by_cases e : q = k
  · subst e; rw [if_pos rfl]
  · rw [if_neg e, if_neg e]
def Ans (x y : Int) (l m : Ps) (w : World) (e : Ending) (w' : World) : Prop := e = .returned (.tuple #[.int .i64 (cbP x y l m).1, .bool (cbP x y l m).2]) ∧ Below w.heap.size w w'
set_option maxRecDepth 100000 in
set_option maxHeartbeats 4000000 in
theorem impl_any (x y : Int) (a1 a2 : Option Addr) (n1 c1 n2 c2 : Nat) (l m : List (Int × Int)) (w : World) (hz1 : n1 ≤ 1048576) (hz2 : n2 ≤ 1048576) (h1 : Holds w a1 n1 l) (h2 : Holds w a2 n2 m) (hT : Tab w) :
    Calls Tryd.prog 32 #[.agg #[.slice a1 n1 c1, .slice a2 n2 c2], .int .i64 x, .int .i64 y] w (Ans x y l m w) := by
  obtain ⟨b, hb0⟩ : ∃ b, w.heap.size = b := ⟨_, rfl⟩
  have hb := below_alloc w (.cells #[.slice a1 n1 c1, .slice a2 n2 c2] 33)
  have hf := box_first w (.slice a1 n1 c1) (.slice a2 n2 c2) 33
  have hf2 := box_second w (.slice a1 n1 c1) (.slice a2 n2 c2) 33
  rw [hb0] at hf hf2
  have hsz : (w.alloc (.cells #[.slice a1 n1 c1, .slice a2 n2 c2] 33)).heap.size = b + 1 := by simp [hb0]
  have H1 := Lib.hid (h1.below hb)
  have H2 := Lib.hid (h2.below hb)
  have HT := Lib.hid (hT.below hb)
  have HT0 := Lib.hid hT
  have HB := Lib.hid hb
  have HL1 := Lib.hid h1.1
  clear h1 h2 hb hT
  go_enter Tryd.func32, Tryd.ntmps32
  go_wp2_with fail
  generalize w.alloc (.cells #[.slice a1 n1 c1, .slice a2 n2 c2] 33) = W0 at *
  refine (ordering_any a1 a2 n1 c1 n2 c2 l m W0 hz1 hz2 H1.out H2.out).mono ?_
  rintro e W1 ⟨rfl, b1⟩
  have r1 := (b1.cell (p := ⟨b, 0, none⟩) (by show b < _; omega)).trans hf
  have r2 := (b1.cell (p := ⟨b, 1, none⟩) (by show b < _; omega)).trans hf2
  have HB1 := Lib.hid (HB.out.trans (b1.mono HB.out.size))
  have M1 := Lib.hid (H1.out.below b1)
  have M2 := Lib.hid (H2.out.below b1)
  have HT1 := Lib.hid (HT.out.below b1)
  have hsz1 := b1.size
  clear hf hf2 b1
  by_cases hg : good l m = true ∧ cyc l m = false
  · have hgc : (good l m && !cyc l m) = true := by rw [hg.1, hg.2]; rfl
    rw [if_pos hg, hgc]
    have HG := Lib.hid hg
    have hn1 : n1 ≤ 10 := by rw [← HL1.out]; exact (Table.good_few hg.1).1
    have hbo := below_alloc W1 (.cells (arr (2 ^ l.length - 1) (ups l m)) 64)
    obtain ⟨g, hgs⟩ : ∃ g, W1.heap.size = g := ⟨_, rfl⟩
    have hA := World.alloc_heap_new W1 (.cells (arr (2 ^ l.length - 1) (ups l m)) 64)
    rw [hgs] at hA
    have HS := Lib.hid (hasContexts_any x y a1 a2 n1 c1 n2 c2 l m _ hz1 hz2 (M1.out.below hbo) (M2.out.below hbo))
    have HBO := Lib.hid (HB1.out.trans (hbo.mono HB1.out.size))
    have N1 := Lib.hid (M1.out.below hbo)
    have HT2 := Lib.hid (HT1.out.below hbo)
    have s1 := (hbo.cell (p := ⟨b, 0, none⟩) (by show b < _; omega)).trans r1
    have s2 := (hbo.cell (p := ⟨b, 1, none⟩) (by show b < _; omega)).trans r2
    have hsz2 : (W1.alloc (.cells (arr (2 ^ l.length - 1) (ups l m)) 64)).heap.size = g + 1 := by simp [hgs]
    have HA := Lib.hid hA
    clear hg hgc hbo hA
    obtain ⟨all, hall⟩ : ∃ all, 2 ^ l.length - 1 = all := ⟨_, rfl⟩
    obtain ⟨U, hU⟩ : ∃ U, ups l m = U := ⟨_, rfl⟩
    rw [hall, hU] at HS HBO HA N1 HT2 s1 s2 hsz2 ⊢
    have HALL := Lib.hid (And.intro hall hU)
    clear hall hU
    unfold arr at HS HBO N1 HT2 s1 s2 hsz2 ⊢
    go_upto_region 2 with fail
    have HA2 : Hid ((W1.alloc (.cells #[.int .u64 (all : Int), .int .u64 (U 0 : Int), .int .u64 (U 1 : Int), .int .u64 (U 2 : Int), .int .u64 (U 3 : Int), .int .u64 (U 4 : Int), .int .u64 (U 5 : Int), .int .u64 (U 6 : Int), .int .u64 (U 7 : Int), .int .u64 (U 8 : Int), .int .u64 (U 9 : Int)] 64)).heap[g]? = some (.cells (arr all U) 64 (0, 0))) := HA.out
    clear HA
    generalize W1.alloc (.cells #[.int .u64 (all : Int), .int .u64 (U 0 : Int), .int .u64 (U 1 : Int), .int .u64 (U 2 : Int), .int .u64 (U 3 : Int), .int .u64 (U 4 : Int), .int .u64 (U 5 : Int), .int .u64 (U 6 : Int), .int .u64 (U 7 : Int), .int .u64 (U 8 : Int), .int .u64 (U 9 : Int)] 64) = W2 at *
    cases h2 : has2 l m x y with
    | false =>
      have HE := Lib.hid (cb_no2 h2)
      rw [h2] at HS
      clear h2
      go_wp2_with (go_at_call 60; refine HS.out.mono ?_; rintro e w3 ⟨rfl, b3⟩; have HB3 := Lib.hid (HBO.out.trans (b3.mono HBO.out.size)))
      go_ret2
      unfold Ans
      rw [HE.out]
      exact ⟨rfl, by first | exact HB3.out | (rw [← hb0]; exact HB3.out)⟩
    | true =>
      by_cases hxy : x = y
      · have HE := Lib.hid (cb_no3 (l := l) (m := m) hxy)
        rw [h2] at HS
        clear h2
        subst hxy
        go_wp2_with (go_at_call 60; refine HS.out.mono ?_; rintro e w3 ⟨rfl, b3⟩; have HB3 := Lib.hid (HBO.out.trans (b3.mono HBO.out.size)))
        go_ret2
        unfold Ans
        rw [HE.out]
        exact ⟨rfl, by first | exact HB3.out | (rw [← hb0]; exact HB3.out)⟩
      · obtain ⟨_, ⟨i, hi⟩, k, hk⟩ := has2_iff.1 h2
        have hE := cb_yes HG.out hi hk hxy
        rw [HALL.out.1, HALL.out.2] at hE
        have HE := Lib.hid hE
        clear hE
        rw [h2] at HS
        clear h2
        have HI := Lib.hid (And.intro hi hk)
        have hil : i < n1 := by rw [← HL1.out]; exact isAt_lt hi
        have hkl : k < n1 := by rw [← HL1.out]; exact isAt_lt hk
        have HAS := Lib.hid (Idx.good_asc HG.out.1).1
        clear hi hk
        go_wp2_with (go_at_call 60; refine HS.out.mono ?_; rintro e w3 ⟨rfl, b3⟩; have HB3 := Lib.hid (HBO.out.trans (b3.mono HBO.out.size)); have t1 := (b3.cell (p := ⟨b, 0, none⟩) (by show b < _; omega)).trans s1; have t2 := (b3.cell (p := ⟨b, 1, none⟩) (by show b < _; omega)).trans s2; have HA3 := Lib.hid ((b3.block g (by omega)).trans HA2.out); have hsz3 := b3.size; have HC3 := Lib.hid (N1.out.below b3); have HT3 := Lib.hid (HT2.out.below b3); clear b3 s1 s2)
        have hp1 := pl_of HAS.out HI.out.1
        have hs1 : (isAt l x).isSome = true := by rw [HI.out.1]; rfl
        have hp2 := pl_of HAS.out HI.out.2
        have hs2 : (isAt l y).isSome = true := by rw [HI.out.2]; rfl
        have HP := Lib.hid (And.intro hp1 (And.intro hs1 (And.intro hp2 hs2)))
        clear hp1 hs1 hp2 hs2
        refine (Avr.placeOfContext_any a1 a2 n1 c1 n2 c2 l x w3 hz1 HC3.out HAS.out).mono ?_
        rintro e v1 ⟨rfl, b8⟩
        rw [HP.out.1, HP.out.2.1]
        have u1 := (b8.cell (p := ⟨b, 0, none⟩) (by show b < _; omega)).trans t1
        have u2 := (b8.cell (p := ⟨b, 1, none⟩) (by show b < _; omega)).trans t2
        have HA4 := Lib.hid ((b8.block g (by omega)).trans HA3.out)
        have HB4 := Lib.hid (HB3.out.trans (b8.mono HB3.out.size))
        have HC4 := Lib.hid (HC3.out.below b8)
        have HT4 := Lib.hid (HT3.out.below b8)
        have hsz4 := b8.size
        clear b8 t1 t2
        go_wp2_with fail
        refine (Avr.placeOfContext_any a1 a2 n1 c1 n2 c2 l y v1 hz1 HC4.out HAS.out).mono ?_
        rintro e v2 ⟨rfl, b9⟩
        rw [HP.out.2.2.1, HP.out.2.2.2]
        have hWA := (b9.block g (by omega)).trans HA4.out
        have HB5 := Lib.hid (HB4.out.trans (b9.mono HB4.out.size))
        have HT5 := Lib.hid (HT4.out.below b9)
        have c1' := cell_of hWA (arr_at all U k (by omega))
        have f1' : v2.frozen? ⟨g, 1 + k, none⟩ = false := by simp [World.frozen?, hWA]
        have hU : U k < 1024 := by rw [← HALL.out.2]; exact ups_lt l m (by rw [HL1.out]; exact hn1) k
        have e3 : bits .or .u64 (U k : Int) (2 ^ i : Int) = ((U k ||| 2 ^ i : Nat) : Int) := by
          rw [← or_is _ _ hU (pow_lt (by omega))]
          simp
        have hji : (k : Int) < 10 := by omega
        have HWA := Lib.hid hWA
        have hmx : Tryd.prog.follows .mixedOrders = true := by kernel_rfl
        clear b9 u1 u2 hU hWA
        go_wp2_with fail
        go_region_with (go_at_call 53; refine (set_any i (by omega) _).mono ?_; rintro e w' ⟨rfl, rfl⟩)
        all_goals (
          obtain ⟨X, hX⟩ : ∃ X, (v2.setCell ⟨g, 1 + k, none⟩ (.int .u64 ((U k ||| 2 ^ i : Nat) : Int))).drew = X := ⟨_, rfl⟩
          rw [hX]
          have hXA : X.heap[g]? = some (.cells (arr all (addU U i k)) 64 (0, 0)) := by
            rw [← hX, ← arr_add (show k < 10 by omega)]
            exact heap_setCell_same v2 g (1 + k) _ _ _ HWA.out
          have hXB : Below w.heap.size w X := by
            rw [← hX]
            exact (HB5.out.setCell (p := ⟨g, 1 + k, none⟩) (show w.heap.size ≤ g by omega) _).drew
          have hl10 : l.length ≤ 10 := by rw [HL1.out]; exact hn1
          have hVl : ∀ j, j < 10 → addU U i k j < 1024 := fun j _ => by rw [← HALL.out.2]; exact addU_lt (ups_lt l m hl10 j) (by omega)
          have HS2 := Lib.hid (endings_any l.length all (addU U i k) hl10 HALL.out.1.symm (by rw [← HALL.out.1]; exact all_lt hl10) hVl X (HT0.out.below hXB))
          have hv0 : cf (rd (addU U i k) all) l.length 0 0 = v (rd (addU U i k) all) l.length 0 := by
            unfold cf
            rw [if_pos ⟨Nat.le_refl _, Nat.zero_le _⟩]
          obtain ⟨ff, hff⟩ : ∃ ff, cf (rd (addU U i k) all) l.length 0 = ff := ⟨_, rfl⟩
          rw [hff] at HS2 hv0
          have HE2 := Lib.hid HE.out
          generalize v (rd (addU U i k) all) l.length 0 = vv at hv0 HE2
          generalize addU U i k = V at *
          have HXB := Lib.hid hXB
          clear hX hff hVl hXB hl10 c1' f1' e3 hji
          unfold arr at hXA HS2
          have z0 : X.cell? ⟨g, 0, none⟩ = some (.int .u64 (all : Int)) := cell_of hXA (i := 0) rfl
          have z1 : X.cell? ⟨g, 1, none⟩ = some (.int .u64 (V 0 : Int)) := cell_of hXA (i := 1) rfl
          have z2 : X.cell? ⟨g, 2, none⟩ = some (.int .u64 (V 1 : Int)) := cell_of hXA (i := 2) rfl
          have z3 : X.cell? ⟨g, 3, none⟩ = some (.int .u64 (V 2 : Int)) := cell_of hXA (i := 3) rfl
          have z4 : X.cell? ⟨g, 4, none⟩ = some (.int .u64 (V 3 : Int)) := cell_of hXA (i := 4) rfl
          have z5 : X.cell? ⟨g, 5, none⟩ = some (.int .u64 (V 4 : Int)) := cell_of hXA (i := 5) rfl
          have z6 : X.cell? ⟨g, 6, none⟩ = some (.int .u64 (V 5 : Int)) := cell_of hXA (i := 6) rfl
          have z7 : X.cell? ⟨g, 7, none⟩ = some (.int .u64 (V 6 : Int)) := cell_of hXA (i := 7) rfl
          have z8 : X.cell? ⟨g, 8, none⟩ = some (.int .u64 (V 7 : Int)) := cell_of hXA (i := 8) rfl
          have z9 : X.cell? ⟨g, 9, none⟩ = some (.int .u64 (V 8 : Int)) := cell_of hXA (i := 9) rfl
          have z10 : X.cell? ⟨g, 10, none⟩ = some (.int .u64 (V 9 : Int)) := cell_of hXA (i := 10) rfl
          clear hXA
          go_wp2_with (go_at_call 49; refine HS2.out.mono ?_; rintro e w5 ⟨⟨C, rfl, hC⟩, b5⟩; have HB6 := Lib.hid (HXB.out.trans (b5.mono HXB.out.size)); have hC0 := hC.2 0 (by decide); rw [hv0] at hC0; have hix := idx71 hC0; clear hC hv0 b5 hC0)
          go_ret2
          unfold Ans
          rw [HE2.out]
          exact ⟨rfl, by first | exact HB6.out | (rw [← hb0]; exact HB6.out)⟩)
  · have hgc : (good l m && !cyc l m) = false := by
      cases h1 : good l m with
      | false => rfl
      | true =>
        cases h2 : cyc l m with
        | true => rfl
        | false => exact absurd ⟨h1, h2⟩ hg
    rw [if_neg hg, hgc]
    have HE := Lib.hid (cb_no (x := x) (y := y) hg)
    have hbo := below_alloc W1 (.cells #[.int .u64 0, .int .u64 0, .int .u64 0, .int .u64 0, .int .u64 0, .int .u64 0, .int .u64 0, .int .u64 0, .int .u64 0, .int .u64 0, .int .u64 0] 64)
    have HBO := Lib.hid (HB1.out.trans (hbo.mono HB1.out.size))
    clear hg hgc hbo
    unfold arr
    go_wp2_with fail
    go_ret2
    unfold Ans
    rw [HE.out]
    exact ⟨rfl, by first | exact HBO.out | (rw [← hb0]; exact HBO.out)⟩
end Go.Proofs.YtjllbbkpmmnkgaaDoor.CbP
