/- RankSequence: the mathematics (RkM), one summand (RkR), the program's (RkP) and the model's (RkS). -/
import Derived.Test.YtjllbbkpmmnkgaaDoorCntM
import Derived.Test.YtjllbbkpmmnkgaaDoorNxt
import Derived.Test.YtjllbbkpmmnkgaaDoorIsqI
import Derived.BigQuiet
import Derived.Deep.RegionWith
namespace Go.Proofs.YtjllbbkpmmnkgaaDoor.RkM
open Go.RowKit Pairs Rec Chain Find2 GoodM Keep GivesI Lows Order Bit Table RedS BlM Nxt Tz SqM Org IsqM IsLater IsqS EnM EnI CntS CntM
set_option linter.unusedVariables false
def rkI (rd : Nat → Nat → Bool) (n p : Nat) (r : Int) (i : Nat) : Int := ((List.range i).filter (rd p)).foldl (fun a k => wrap64 (a + v rd n (p ||| 2 ^ k))) r
theorem rkI_zero (rd : Nat → Nat → Bool) (n p : Nat) (r : Int) : rkI rd n p r 0 = r := rfl
theorem rkI_yes {rd : Nat → Nat → Bool} {n p k : Nat} {r : Int} (h : rd p k = true) : rkI rd n p r (k + 1) = wrap64 (rkI rd n p r k + v rd n (p ||| 2 ^ k)) := by
  unfold rkI
  rw [List.range_succ, List.filter_append, List.foldl_append]
  simp [h]
theorem rkI_no {rd : Nat → Nat → Bool} {n p k : Nat} {r : Int} (h : rd p k = false) : rkI rd n p r (k + 1) = rkI rd n p r k := by
  unfold rkI
  rw [List.range_succ, List.filter_append, List.foldl_append]
  simp [h]
def rkS (rd : Nat → Nat → Bool) (n : Nat) (l : Ps) (s : Int × Nat) (x : Int) : Int × Nat := (rkI rd n s.2 s.1 ((isAt l x).getD 0), s.2 ||| 2 ^ ((isAt l x).getD 0))
def rkF (rd : Nat → Nat → Bool) (n : Nat) (l : Ps) (L : List Int) : Int × Nat := L.foldl (rkS rd n l) (0, 0)
theorem rkF_next {rd : Nat → Nat → Bool} {n : Nat} {l : Ps} {L : List Int} {k : Nat} {x : Int} (hx : L[k]? = some x) {i : Nat} (hi : isAt l x = some i) :
    rkF rd n l (L.take (k + 1)) = (rkI rd n (rkF rd n l (L.take k)).2 (rkF rd n l (L.take k)).1 i, (rkF rd n l (L.take k)).2 ||| 2 ^ i) := by
  unfold rkF
  rw [List.take_add_one, hx]
  simp only [Option.toList_some, List.foldl_append, List.foldl_cons, List.foldl_nil]
  unfold rkS
  rw [hi]
  rfl
theorem ok_in {l m : Ps} {L : List Int} {k : Nat} (hO : OkUp l m L k) {y x : Int} (r : Chain.Reach m y x) : x ∈ L.take k → y ∈ L.take k := by
  have one : ∀ y x, (y, x) ∈ m → x ∈ L.take k → y ∈ L.take k := by
    intro y x e hx
    obtain ⟨j, hj⟩ := List.mem_iff_getElem?.1 hx
    have hjk : j < k := by
      have := (List.getElem?_eq_some_iff.1 hj).1
      rw [List.length_take] at this
      omega
    rw [List.getElem?_take_of_lt hjk] at hj
    exact take_mono (Nat.le_of_lt hjk) ((hO j x hjk hj).2.2 y e)
  induction r with
  | one e => exact one _ _ e
  | more r e ih => exact fun hx => ih (one _ _ e hx)
theorem ok_cl {l m : Ps} {L : List Int} {k q : Nat} (hO : OkUp l m L k) (hR : Rep l q (L.take k)) : Cl l m q := by
  intro x y i j hx hy r hb
  obtain ⟨u, hu⟩ := isAt_num hx
  obtain ⟨z, hz⟩ := isAt_num hy
  exact (hR.2 j y z hz).2 (ok_in hO r ((hR.2 i x u hu).1 hb))
theorem rd_rm {l m : Ps} (hg : good l m = true) {n : Nat} (hl : l.length = n) {T : List Nat} (TT : Tbl n T (W (Ed l m) n)) {p : Nat} (hp : p < 2 ^ n) (hc : Cl l m p) {i : Nat} (hi : i < n) : rm T n p i = rd (ups l m) (2 ^ n - 1) p i := by
  subst hl
  have hA := (Idx.good_asc hg).1
  have hz : l[i]? = some ((l[i]'hi).1, (l[i]'hi).2) := List.getElem?_eq_getElem hi
  have hx := at_num hA hz
  have h1 := rm_iff hg rfl TT (p := p) hx
  have h2 := rd_iff hg (p := p) hp hx
  have h3 : rm T l.length p i = true ↔ rd (ups l m) (2 ^ l.length - 1) p i = true := by
    rw [h1, h2]
    constructor
    · rintro ⟨e1, e2⟩
      exact ⟨e1, fun y k e hk => e2 y k (.one e) hk⟩
    · rintro ⟨e1, e2⟩
      exact ⟨e1, cl_up hg hc e2⟩
  cases e1 : rm T l.length p i <;> cases e2 : rd (ups l m) (2 ^ l.length - 1) p i <;> simp_all
theorem cl_or {l m : Ps} (hg : good l m = true) {n : Nat} (hl : l.length = n) {T : List Nat} (TT : Tbl n T (W (Ed l m) n)) {p : Nat} (hc : Cl l m p) {i : Nat} (hi : i < n) (hr : rm T n p i = true) : Cl l m (p ||| 2 ^ i) := by
  subst hl
  have hA := (Idx.good_asc hg).1
  have hz : l[i]? = some ((l[i]'hi).1, (l[i]'hi).2) := List.getElem?_eq_getElem hi
  have hxi := at_num hA hz
  have h1 := ((rm_iff hg rfl TT (p := p) hxi).1 hr).2
  intro x y j k hx hy r hb
  rw [Nat.testBit_or, Bool.or_eq_true] at hb ⊢
  left
  rcases hb with hb | hb
  · exact hc x y j k hx hy r hb
  · rw [Nat.testBit_two_pow, decide_eq_true_iff] at hb
    subst hb
    have e := isAt_inj hx hxi
    subst e
    exact h1 y k r hy
theorem rkI_agree {l m : Ps} (hg : good l m = true) {n : Nat} (hl : l.length = n) {T : List Nat} (TT : Tbl n T (W (Ed l m) n)) {p : Nat} (hp : p < 2 ^ n) (hc : Cl l m p) (r : Int) : ∀ i, i ≤ n → rkI (rm T n) n p r i = rkI (rd (ups l m) (2 ^ n - 1)) n p r i
  | 0, _ => rfl
  | i + 1, h => by
    have ih := rkI_agree hg hl TT hp hc r i (by omega)
    have e := rd_rm hg hl TT hp hc (show i < n by omega)
    cases hr : rm T n p i with
    | false => rw [rkI_no hr, rkI_no (by rw [← e]; exact hr), ih]
    | true =>
      rw [rkI_yes hr, rkI_yes (by rw [← e]; exact hr), ih, agree hg hl TT (or_lt hp (by omega)) (cl_or hg hl TT hc (by omega) hr)]
theorem rkF_agree {l m : Ps} (hg : good l m = true) {n : Nat} (hl : l.length = n) {T : List Nat} (TT : Tbl n T (W (Ed l m) n)) {L : List Int} (hO : OkUp l m L L.length) : ∀ k, k ≤ L.length → rkF (rm T n) n l (L.take k) = rkF (rd (ups l m) (2 ^ n - 1)) n l (L.take k) ∧ Rep l (rkF (rm T n) n l (L.take k)).2 (L.take k)
  | 0, _ => ⟨by simp [rkF], by simpa [rkF] using rep_zero l⟩
  | k + 1, h => by
    obtain ⟨h1, h2⟩ := rkF_agree hg hl TT hO k (by omega)
    have hx : L[k]? = some (L[k]'(by omega)) := List.getElem?_eq_getElem (by omega)
    generalize L[k]'(by omega) = x at hx
    have hok := hO k x (by omega) hx
    obtain ⟨i, hi⟩ := Option.isSome_iff_exists.1 (isAt_keys.2 hok.1)
    have hin : i < n := by rw [← hl]; exact isAt_lt hi
    have hOk : OkUp l m L k := fun j z hj hz => hO j z (by omega) hz
    have hc := ok_cl hOk h2
    have hA := (Idx.good_asc hg).1
    refine ⟨?_, ?_⟩
    · rw [rkF_next hx hi, rkF_next hx hi, ← h1, rkI_agree hg hl TT (by have := h2.1; rw [hl] at this; exact this) hc _ i (by omega)]
    · rw [rkF_next hx hi, List.take_add_one, hx]
      exact rep_next hA h2 hi
noncomputable def rkP (l m : Ps) (L : List Int) : Int × Bool := if good l m = true ∧ cyc l m = false then (if isSq l m L = true then ((rkF (rd (ups l m) (2 ^ l.length - 1)) l.length l L).1, true) else (0, false)) else (0, false)
theorem rk_no {l m : Ps} {L : List Int} (h : ¬ (good l m = true ∧ cyc l m = false)) : rkP l m L = (0, false) := by unfold rkP; rw [if_neg h]
theorem rk_no2 {l m : Ps} {L : List Int} (h : isSq l m L = false) : rkP l m L = (0, false) := by
  unfold rkP
  rw [h]
  simp
theorem rk_yes {l m : Ps} {L : List Int} (h : good l m = true ∧ cyc l m = false) (hs : isSq l m L = true) : rkP l m L = ((rkF (rd (ups l m) (2 ^ l.length - 1)) l.length l L).1, true) := by
  unfold rkP
  rw [if_pos h, if_pos hs]
end Go.Proofs.YtjllbbkpmmnkgaaDoor.RkM

namespace Go.Proofs.YtjllbbkpmmnkgaaDoor.RkR
open Go.RowKit Go.Shelf Tz
attribute [local go_sem] Oper.semAt_some
set_option linter.unusedVariables false
set_option maxRecDepth 100000 in
set_option maxHeartbeats 8000000 in
theorem region14 {l m : Nat} {Q : Exit → Act → World → Prop} (t0 t1 t2 t3 t4 t5 t6 t7 t11 t12 t13 t14 t15 t17 t18 t19 t20 t21 t22 t23 t24 t25 t26 t27 t28 t29 t30 t31 t32 t33 t34 t35 t36 t37 t38 t39 t40 t41 t42 t43 t44 t45 t46 t47 t48 t49 t50 t51 t52 t53 t54 t55 t56 t57 t58 t59 t60 t61 t62 t63 t64 t65 t66 t67 t68 : Value) (e pl rk x q q2 : Nat) (fo vv : Int) (W : World) (hm : 1 ≤ m) (c1 : W.cell? ⟨pl, 0, none⟩ = some (.int .u64 (q : Int))) (c2 : W.cell? ⟨rk, 0, none⟩ = some (.int .i64 fo)) (c3 : W.cell? ⟨e, q2, none⟩ = some (.int .i64 vv)) (f2 : W.frozen? ⟨rk, 0, none⟩ = false)
    (e3 : bits .or .u64 (q : Int) (2 ^ x : Int) = (q2 : Int)) (hi2 : (q2 : Int) < 1024) (hx : x ≤ 10)
    (h : ∀ a', Q .normal a' (W.setCell ⟨rk, 0, none⟩ (.int .i64 (IntKind.i64.wrap (fo + vv)))).drew) :
    (Code.region 14 #[{ dst := some 55, op := Op.load 3 (Operand.tmp 10), type := 3, pos := "l8_sequences.go:132", after := #[], guard := none }, { dst := some 56, op := Op.load 61 (Operand.tmp 9), type := 61, pos := "l8_sequences.go:132", after := #[], guard := none }, { dst := some 57, op := Op.move (Operand.tmp 16), type := 3, pos := "l8_sequences.go:132", after := #[], guard := none }, { dst := some 58, op := Op.call { callee := Callee.value (Operand.func 53), args := #[Operand.tmp 57], argTypes := #[3] }, type := 61, pos := "l8_sequences.go:132", after := #[{ on := 2, ground := Ground.data }], guard := none }, { dst := some 59, op := Op.binOp BinOp.or 61 (Operand.tmp 56) (Operand.tmp 58) 61, type := 61, pos := "l8_sequences.go:132", after := #[{ on := 1, ground := Ground.data }, { on := 3, ground := Ground.data }], guard := none }, { dst := some 60, op := Op.indexAddr 71 (Operand.tmp 8) (Operand.tmp 59), type := 0, pos := "l8_sequences.go:132", after := #[{ on := 4, ground := Ground.data }], guard := none }, { dst := some 61, op := Op.load 3 (Operand.tmp 60), type := 3, pos := "l8_sequences.go:132", after := #[{ on := 5, ground := Ground.data }], guard := none }, { dst := some 62, op := Op.binOp BinOp.add 3 (Operand.tmp 55) (Operand.tmp 61) 3, type := 3, pos := "l8_sequences.go:132", after := #[{ on := 0, ground := Ground.data }, { on := 6, ground := Ground.data }], guard := none }, { dst := none, op := Op.store 3 (Operand.tmp 10) (Operand.tmp 62), type := 0, pos := "l8_sequences.go:132", after := #[{ on := 7, ground := Ground.data }, { on := 3, ground := Ground.chain }, { on := 0, ground := Ground.phase }, { on := 1, ground := Ground.phase }, { on := 2, ground := Ground.phase }, { on := 3, ground := Ground.phase }, { on := 4, ground := Ground.phase }, { on := 5, ground := Ground.phase }, { on := 6, ground := Ground.phase }, { on := 7, ground := Ground.phase }], guard := none }] true).wpIn (Fence.wide.inRound l) m Tryd.prog Q { tmps := #[t0, t1, t2, t3, t4, t5, t6, t7, .pointer (some ⟨e, 0, none⟩), .pointer (some ⟨pl, 0, none⟩), .pointer (some ⟨rk, 0, none⟩), t11, t12, t13, t14, t15, .int .i64 (x : Int), t17, t18, t19, t20, t21, t22, t23, t24, t25, t26, t27, t28, t29, t30, t31, t32, t33, t34, t35, t36, t37, t38, t39, t40, t41, t42, t43, t44, t45, t46, t47, t48, t49, t50, t51, t52, t53, t54, t55, t56, t57, t58, t59, t60, t61, t62, t63, t64, t65, t66, t67, t68], defers := [] } W := by
  have hmx : Tryd.prog.follows .mixedOrders = true := by kernel_rfl
  have H := Lib.hid h
  clear h
  gi_region_with_o (refine ⟨trivial, ?_⟩; gi_at_call 53; refine (CallsIn.inRound l (callsIn_wide.2 (set_any x hx _))).mono ?_; rintro e w' ⟨rfl, rfl⟩)
  all_goals exact H.out _
set_option maxRecDepth 100000 in
set_option maxHeartbeats 8000000 in
theorem region15 {m : Nat} {R : Act → World → Prop} (t0 t1 t2 t3 t4 t5 t6 t7 t8 t10 t11 t12 t14 t15 t16 t17 t18 t19 t20 t21 t22 t23 t24 t25 t26 t27 t28 t29 t30 t31 t32 t33 t34 t35 t36 t37 t38 t39 t40 t41 t42 t43 t44 t45 t46 t47 t48 t49 t50 t51 t52 t53 t54 t55 t56 t57 t58 t59 t60 t61 t62 t63 t64 t65 t66 t67 t68 : Value) (dd : List Deferred) (pl x q q2 : Nat) (W : World) (hm : 1 ≤ m) (c1 : W.cell? ⟨pl, 0, none⟩ = some (.int .u64 (q : Int))) (f2 : W.frozen? ⟨pl, 0, none⟩ = false)
    (e3 : bits .or .u64 (q : Int) (2 ^ x : Int) = (q2 : Int)) (hx : x ≤ 10)
    (h : ∀ u63 u64 u65 u66, R { tmps := #[t0, t1, t2, t3, t4, t5, t6, t7, t8, .pointer (some ⟨pl, 0, none⟩), t10, t11, t12, .int .i64 (x : Int), t14, t15, t16, t17, t18, t19, t20, t21, t22, t23, t24, t25, t26, t27, t28, t29, t30, t31, t32, t33, t34, t35, t36, t37, t38, t39, t40, t41, t42, t43, t44, t45, t46, t47, t48, t49, t50, t51, t52, t53, t54, t55, t56, t57, t58, t59, t60, t61, t62, u63, u64, u65, u66, t67, t68], defers := dd } (W.setCell ⟨pl, 0, none⟩ (.int .u64 (q2 : Int))).drew) :
    (Code.region 15 #[{ dst := some 63, op := Op.load 61 (Operand.tmp 9), type := 61, pos := "l8_sequences.go:134", after := #[], guard := none }, { dst := some 64, op := Op.move (Operand.tmp 13), type := 3, pos := "l8_sequences.go:134", after := #[], guard := none }, { dst := some 65, op := Op.call { callee := Callee.value (Operand.func 53), args := #[Operand.tmp 64], argTypes := #[3] }, type := 61, pos := "l8_sequences.go:134", after := #[{ on := 1, ground := Ground.data }], guard := none }, { dst := some 66, op := Op.binOp BinOp.or 61 (Operand.tmp 63) (Operand.tmp 65) 61, type := 61, pos := "l8_sequences.go:134", after := #[{ on := 0, ground := Ground.data }, { on := 2, ground := Ground.data }], guard := none }, { dst := none, op := Op.store 61 (Operand.tmp 9) (Operand.tmp 66), type := 0, pos := "l8_sequences.go:134", after := #[{ on := 3, ground := Ground.data }, { on := 2, ground := Ground.chain }, { on := 0, ground := Ground.phase }, { on := 1, ground := Ground.phase }, { on := 2, ground := Ground.phase }, { on := 3, ground := Ground.phase }], guard := none }] true).wpIn Fence.wide m Tryd.prog (Exit.then R (fun _ _ _ => False)) { tmps := #[t0, t1, t2, t3, t4, t5, t6, t7, t8, .pointer (some ⟨pl, 0, none⟩), t10, t11, t12, .int .i64 (x : Int), t14, t15, t16, t17, t18, t19, t20, t21, t22, t23, t24, t25, t26, t27, t28, t29, t30, t31, t32, t33, t34, t35, t36, t37, t38, t39, t40, t41, t42, t43, t44, t45, t46, t47, t48, t49, t50, t51, t52, t53, t54, t55, t56, t57, t58, t59, t60, t61, t62, t63, t64, t65, t66, t67, t68], defers := dd } W := by
  have hmx : Tryd.prog.follows .mixedOrders = true := by kernel_rfl
  have H := Lib.hid h
  clear h
  gi_region_with_o (refine ⟨trivial, ?_⟩; gi_at_call 53; refine (callsIn_wide.2 (set_any x hx _)).mono ?_; rintro e w' ⟨rfl, rfl⟩)
  all_goals exact H.out _ _ _ _
theorem region15q {m : Nat} {Q : Exit → Act → World → Prop} (t0 t1 t2 t3 t4 t5 t6 t7 t8 t10 t11 t12 t14 t15 t16 t17 t18 t19 t20 t21 t22 t23 t24 t25 t26 t27 t28 t29 t30 t31 t32 t33 t34 t35 t36 t37 t38 t39 t40 t41 t42 t43 t44 t45 t46 t47 t48 t49 t50 t51 t52 t53 t54 t55 t56 t57 t58 t59 t60 t61 t62 t63 t64 t65 t66 t67 t68 : Value) (dd : List Deferred) (pl x q q2 : Nat) (W : World) (hm : 1 ≤ m) (c1 : W.cell? ⟨pl, 0, none⟩ = some (.int .u64 (q : Int))) (f2 : W.frozen? ⟨pl, 0, none⟩ = false)
    (e3 : bits .or .u64 (q : Int) (2 ^ x : Int) = (q2 : Int)) (hx : x ≤ 10)
    (h : ∀ u63 u64 u65 u66, Q .normal { tmps := #[t0, t1, t2, t3, t4, t5, t6, t7, t8, .pointer (some ⟨pl, 0, none⟩), t10, t11, t12, .int .i64 (x : Int), t14, t15, t16, t17, t18, t19, t20, t21, t22, t23, t24, t25, t26, t27, t28, t29, t30, t31, t32, t33, t34, t35, t36, t37, t38, t39, t40, t41, t42, t43, t44, t45, t46, t47, t48, t49, t50, t51, t52, t53, t54, t55, t56, t57, t58, t59, t60, t61, t62, u63, u64, u65, u66, t67, t68], defers := dd } (W.setCell ⟨pl, 0, none⟩ (.int .u64 (q2 : Int))).drew) :
    (Code.region 15 #[{ dst := some 63, op := Op.load 61 (Operand.tmp 9), type := 61, pos := "l8_sequences.go:134", after := #[], guard := none }, { dst := some 64, op := Op.move (Operand.tmp 13), type := 3, pos := "l8_sequences.go:134", after := #[], guard := none }, { dst := some 65, op := Op.call { callee := Callee.value (Operand.func 53), args := #[Operand.tmp 64], argTypes := #[3] }, type := 61, pos := "l8_sequences.go:134", after := #[{ on := 1, ground := Ground.data }], guard := none }, { dst := some 66, op := Op.binOp BinOp.or 61 (Operand.tmp 63) (Operand.tmp 65) 61, type := 61, pos := "l8_sequences.go:134", after := #[{ on := 0, ground := Ground.data }, { on := 2, ground := Ground.data }], guard := none }, { dst := none, op := Op.store 61 (Operand.tmp 9) (Operand.tmp 66), type := 0, pos := "l8_sequences.go:134", after := #[{ on := 3, ground := Ground.data }, { on := 2, ground := Ground.chain }, { on := 0, ground := Ground.phase }, { on := 1, ground := Ground.phase }, { on := 2, ground := Ground.phase }, { on := 3, ground := Ground.phase }], guard := none }] true).wpIn Fence.wide m Tryd.prog Q { tmps := #[t0, t1, t2, t3, t4, t5, t6, t7, t8, .pointer (some ⟨pl, 0, none⟩), t10, t11, t12, .int .i64 (x : Int), t14, t15, t16, t17, t18, t19, t20, t21, t22, t23, t24, t25, t26, t27, t28, t29, t30, t31, t32, t33, t34, t35, t36, t37, t38, t39, t40, t41, t42, t43, t44, t45, t46, t47, t48, t49, t50, t51, t52, t53, t54, t55, t56, t57, t58, t59, t60, t61, t62, t63, t64, t65, t66, t67, t68], defers := dd } W :=
  wpIn_mono (region15 (R := Q .normal) t0 t1 t2 t3 t4 t5 t6 t7 t8 t10 t11 t12 t14 t15 t16 t17 t18 t19 t20 t21 t22 t23 t24 t25 t26 t27 t28 t29 t30 t31 t32 t33 t34 t35 t36 t37 t38 t39 t40 t41 t42 t43 t44 t45 t46 t47 t48 t49 t50 t51 t52 t53 t54 t55 t56 t57 t58 t59 t60 t61 t62 t63 t64 t65 t66 t67 t68 dd pl x q q2 W hm c1 f2 e3 hx h) (fun e a w z => by cases e <;> first | exact z | exact z.elim)
end Go.Proofs.YtjllbbkpmmnkgaaDoor.RkR

namespace Go.Proofs.YtjllbbkpmmnkgaaDoor.RkP
open Go.RowKit Go.Shelf Pairs Rec Chain Find2 GoodM Keep GivesI Lows Order Bit Table RedS BlM Nxt Tz RgF Ind SqM Org IsqM IsLater IsqS EnM EnL EnI CntS CntM RkM
attribute [local go_sem] Oper.semAt_some
set_option linter.unusedVariables false
def Inv (l : Ps) (L : List Int) (U : Nat → Nat) (all e : Nat) (Y : World) (k q : Nat) (r : Int) (Ds : List Nat) (W : World) : Prop :=
  rkF (rd U all) l.length l (L.take k) = (r, q) ∧ W.heap[e + 1]? = some (.cells #[.int .u64 (q : Int)] 61 (0, 0)) ∧ W.heap[e + 1 + 1]? = some (.cells #[.int .i64 r] 3 (0, 0)) ∧ Below (e + 1) Y W ∧ (∀ D ∈ Ds, W.heap[D]? = some (.deferred (some []))) ∧ Ds.Nodup ∧ ∀ D ∈ Ds, e + 1 + 1 < D
theorem rkF_rep {l m : Ps} (hg : good l m = true) {rd : Nat → Nat → Bool} {n : Nat} {L : List Int} (hO : OkUp l m L L.length) : ∀ k, k ≤ L.length → Rep l (rkF rd n l (L.take k)).2 (L.take k)
  | 0, _ => by simpa [rkF] using rep_zero l
  | k + 1, h => by
    have h2 := rkF_rep (rd := rd) (n := n) hg hO k (by omega)
    have hx : L[k]? = some (L[k]'(by omega)) := List.getElem?_eq_getElem (by omega)
    generalize L[k]'(by omega) = x at hx
    obtain ⟨i, hi⟩ := Option.isSome_iff_exists.1 (isAt_keys.2 (hO k x (by omega) hx).1)
    rw [rkF_next hx hi, List.take_add_one, hx]
    exact rep_next (Idx.good_asc hg).1 h2 hi
def pf (U : Nat → Nat) (all n q : Nat) (r : Int) (pre : List Nat) : Int := pre.foldl (fun a k => wrap64 (a + v (rd U all) n (q ||| 2 ^ k))) r
set_option maxRecDepth 100000 in
set_option maxHeartbeats 8000000 in
theorem impl_any (a1 a2 p : Option Addr) (n1 c1 n2 c2 np cp : Nat) (l m : List (Int × Int)) (L : List Int) (w : World) (hz1 : n1 ≤ 1048576) (hz2 : n2 ≤ 1048576) (hz3 : np ≤ 1048576) (h1 : Holds w a1 n1 l) (h2 : Holds w a2 n2 m) (h3 : HoldsI w p np L) (hT : Tab w) :
    Calls Tryd.prog 23 #[.agg #[.slice a1 n1 c1, .slice a2 n2 c2], .slice p np cp] w fun e w' => e = .returned (.tuple #[.int .i64 (rkP l m L).1, .bool (rkP l m L).2]) ∧ Below w.heap.size w w' := by
  obtain ⟨b, hb0⟩ : ∃ b, w.heap.size = b := ⟨_, rfl⟩
  have hb := below_alloc w (.cells #[.slice a1 n1 c1, .slice a2 n2 c2] 33)
  have hf := box_first w (.slice a1 n1 c1) (.slice a2 n2 c2) 33
  have hf2 := box_second w (.slice a1 n1 c1) (.slice a2 n2 c2) 33
  rw [hb0] at hf hf2
  have hsz : (w.alloc (.cells #[.slice a1 n1 c1, .slice a2 n2 c2] 33)).heap.size = b + 1 := by simp [hb0]
  have H1 := Lib.hid (h1.below hb)
  have H2 := Lib.hid (h2.below hb)
  have H3 := Lib.hid (h3.below hb)
  have HL1 := Lib.hid h1.1
  have HL3 := Lib.hid h3.1
  have HV := Lib.hid hT
  have HB := Lib.hid hb
  clear h1 h2 h3 hb hT
  refine (callsIn_wide (n := 8)).1 ?_
  refine callsIn_of_wp_marks Tryd.func23 rfl trivial ?_ rfl
  simp only [Tryd.ntmps23, List.size_toArray, List.length_cons, List.length_nil, Nat.reduceAdd, Nat.reduceSub, Array.replicate_succ, Array.replicate_zero, List.push_toArray, List.append_toArray, List.nil_append, List.cons_append]
  gi_wp2
  have HO := Lib.hid (ordering_any a1 a2 n1 c1 n2 c2 l m _ hz1 hz2 H1.out H2.out)
  generalize w.alloc (.cells #[.slice a1 n1 c1, .slice a2 n2 c2] 33) = W0 at *
  refine ⟨trivial, ?_⟩
  refine (callsIn_wide.2 HO.out).mono ?_
  rintro e W1 ⟨rfl, b1⟩
  have r1 := (b1.cell (p := ⟨b, 0, none⟩) (by show b < _; omega)).trans hf
  have r2 := (b1.cell (p := ⟨b, 1, none⟩) (by show b < _; omega)).trans hf2
  have HB1 := Lib.hid (HB.out.trans (b1.mono HB.out.size))
  have M1 := Lib.hid (H1.out.below b1)
  have M3 := Lib.hid (H3.out.below b1)
  have hsz1 := b1.size
  clear hf hf2 b1 HO
  by_cases hg : good l m = true ∧ cyc l m = false
  · have hgc : (good l m && !cyc l m) = true := by rw [hg.1, hg.2]; rfl
    rw [if_pos hg, hgc]
    have HG := Lib.hid hg
    have hbo := below_alloc W1 (.cells (arr (2 ^ l.length - 1) (ups l m)) 64)
    have HS := Lib.hid (IsqI.isSeq_any a1 a2 p n1 c1 n2 c2 np cp l m L _ hz1 hz3 (M1.out.below hbo) (M3.out.below hbo) hg.1 (HV.out.below (HB1.out.trans (hbo.mono HB1.out.size))))
    have HBO := Lib.hid (HB1.out.trans (hbo.mono HB1.out.size))
    have s1 := (hbo.cell (p := ⟨b, 0, none⟩) (by show b < _; omega)).trans r1
    have s2 := (hbo.cell (p := ⟨b, 1, none⟩) (by show b < _; omega)).trans r2
    have N1 := Lib.hid (M1.out.below hbo)
    have N3 := Lib.hid (M3.out.below hbo)
    have hA := World.alloc_heap_new W1 (.cells (arr (2 ^ l.length - 1) (ups l m)) 64)
    obtain ⟨g, hgs⟩ : ∃ g, W1.heap.size = g := ⟨_, rfl⟩
    rw [hgs] at hA
    have hsz2 : (W1.alloc (.cells (arr (2 ^ l.length - 1) (ups l m)) 64)).heap.size = g + 1 := by simp [hgs]
    have HA := Lib.hid hA
    clear hg hgc hbo hA
    obtain ⟨all, hall⟩ : ∃ all, 2 ^ l.length - 1 = all := ⟨_, rfl⟩
    obtain ⟨U, hU⟩ : ∃ U, ups l m = U := ⟨_, rfl⟩
    rw [hall, hU] at HS HBO HA N1 N3 s1 s2 hsz2 ⊢
    have HALL := Lib.hid (And.intro hall hU)
    clear hall hU
    unfold arr at HS HBO N1 N3 s1 s2 hsz2 ⊢
    gi_upto_region 2 with fail
    have HA2 : Hid ((W1.alloc (.cells #[.int .u64 (all : Int), .int .u64 (U 0 : Int), .int .u64 (U 1 : Int), .int .u64 (U 2 : Int), .int .u64 (U 3 : Int), .int .u64 (U 4 : Int), .int .u64 (U 5 : Int), .int .u64 (U 6 : Int), .int .u64 (U 7 : Int), .int .u64 (U 8 : Int), .int .u64 (U 9 : Int)] 64)).heap[g]? = some (.cells (arr all U) 64 (0, 0))) := HA.out
    clear HA
    generalize W1.alloc (.cells #[.int .u64 (all : Int), .int .u64 (U 0 : Int), .int .u64 (U 1 : Int), .int .u64 (U 2 : Int), .int .u64 (U 3 : Int), .int .u64 (U 4 : Int), .int .u64 (U 5 : Int), .int .u64 (U 6 : Int), .int .u64 (U 7 : Int), .int .u64 (U 8 : Int), .int .u64 (U 9 : Int)] 64) = W2 at *
    have hA := HA2.out
    have k0 : W2.cell? ⟨g, 0, none⟩ = some (.int .u64 (all : Int)) := cell_of hA (i := 0) rfl
    have k1 : W2.cell? ⟨g, 1, none⟩ = some (.int .u64 (U 0 : Int)) := cell_of hA (i := 1) rfl
    have k2 : W2.cell? ⟨g, 2, none⟩ = some (.int .u64 (U 1 : Int)) := cell_of hA (i := 2) rfl
    have k3 : W2.cell? ⟨g, 3, none⟩ = some (.int .u64 (U 2 : Int)) := cell_of hA (i := 3) rfl
    have k4 : W2.cell? ⟨g, 4, none⟩ = some (.int .u64 (U 3 : Int)) := cell_of hA (i := 4) rfl
    have k5 : W2.cell? ⟨g, 5, none⟩ = some (.int .u64 (U 4 : Int)) := cell_of hA (i := 5) rfl
    have k6 : W2.cell? ⟨g, 6, none⟩ = some (.int .u64 (U 5 : Int)) := cell_of hA (i := 6) rfl
    have k7 : W2.cell? ⟨g, 7, none⟩ = some (.int .u64 (U 6 : Int)) := cell_of hA (i := 7) rfl
    have k8 : W2.cell? ⟨g, 8, none⟩ = some (.int .u64 (U 7 : Int)) := cell_of hA (i := 8) rfl
    have k9 : W2.cell? ⟨g, 9, none⟩ = some (.int .u64 (U 8 : Int)) := cell_of hA (i := 9) rfl
    have k10 : W2.cell? ⟨g, 10, none⟩ = some (.int .u64 (U 9 : Int)) := cell_of hA (i := 10) rfl
    clear hA
    cases hs : isSq l m L with
    | false =>
      have HE := Lib.hid (rk_no2 hs)
      rw [hs] at HS
      clear hs
      gi_wp2_with (refine ⟨trivial, ?_⟩; gi_at_call 42; refine (callsIn_wide.2 HS.out).mono ?_; rintro e w3 ⟨rfl, b3⟩)
      have HB3 := Lib.hid (HBO.out.trans (b3.mono HBO.out.size))
      show LeavesInM Fence.wide 8 Tryd.prog Tryd.f23 _ _ [] .returning w3
      refine ⟨_, results_tmp2 rfl _ _ _, ?_⟩
      rw [HE.out]
      exact ⟨rfl, by first | exact HB3.out | (rw [← hb0]; exact HB3.out)⟩
    | true =>
      have HE := Lib.hid (rk_yes HG.out hs)
      have HOK := Lib.hid (isSq_yes hs).1
      rw [hs] at HS
      clear hs
      obtain ⟨Z, hZ⟩ : ∃ Z : Array Value, Array.replicate 1024 (.int .i64 0) = Z := ⟨_, rfl⟩
      have hzv : ∀ w, (zeroValue 71).run Tryd.prog w = .ok (Value.agg Z) w := by rw [← hZ]; exact zero71
      have hzs : Z.size = 1024 := by rw [← hZ]; simp
      have HZ := Lib.hid hZ
      clear hZ
      gi_upto_region 4 with (refine ⟨trivial, ?_⟩; gi_at_call 42; refine (callsIn_wide.2 HS.out).mono ?_; rintro e w3 ⟨rfl, b3⟩)
      have HB3 := Lib.hid (HBO.out.trans (b3.mono HBO.out.size))
      have hA3 := (b3.block g (by omega)).trans HA2.out
      have hsz3 := b3.size
      have t1 := (b3.cell (p := ⟨b, 0, none⟩) (by show b < _; omega)).trans s1
      have t2 := (b3.cell (p := ⟨b, 1, none⟩) (by show b < _; omega)).trans s2
      have O1 := Lib.hid (N1.out.below b3)
      have O3 := Lib.hid (N3.out.below b3)
      have hl10 : l.length ≤ 10 := (Table.good_few HG.out.1).1
      have HEN := Lib.hid (endings_any l.length all U hl10 HALL.out.1.symm (by rw [← HALL.out.1]; exact all_lt hl10) (fun i _ => by rw [← HALL.out.2]; exact ups_lt l m hl10 i) w3 (HV.out.below HB3.out))
      unfold arr at HEN
      have HA3 := Lib.hid hA3
      have j0 : w3.cell? ⟨g, 0, none⟩ = some (.int .u64 (all : Int)) := cell_of hA3 (i := 0) rfl
      have j1 : w3.cell? ⟨g, 1, none⟩ = some (.int .u64 (U 0 : Int)) := cell_of hA3 (i := 1) rfl
      have j2 : w3.cell? ⟨g, 2, none⟩ = some (.int .u64 (U 1 : Int)) := cell_of hA3 (i := 2) rfl
      have j3 : w3.cell? ⟨g, 3, none⟩ = some (.int .u64 (U 2 : Int)) := cell_of hA3 (i := 3) rfl
      have j4 : w3.cell? ⟨g, 4, none⟩ = some (.int .u64 (U 3 : Int)) := cell_of hA3 (i := 4) rfl
      have j5 : w3.cell? ⟨g, 5, none⟩ = some (.int .u64 (U 4 : Int)) := cell_of hA3 (i := 5) rfl
      have j6 : w3.cell? ⟨g, 6, none⟩ = some (.int .u64 (U 5 : Int)) := cell_of hA3 (i := 6) rfl
      have j7 : w3.cell? ⟨g, 7, none⟩ = some (.int .u64 (U 6 : Int)) := cell_of hA3 (i := 7) rfl
      have j8 : w3.cell? ⟨g, 8, none⟩ = some (.int .u64 (U 7 : Int)) := cell_of hA3 (i := 8) rfl
      have j9 : w3.cell? ⟨g, 9, none⟩ = some (.int .u64 (U 8 : Int)) := cell_of hA3 (i := 9) rfl
      have j10 : w3.cell? ⟨g, 10, none⟩ = some (.int .u64 (U 9 : Int)) := cell_of hA3 (i := 10) rfl
      clear b3 s1 s2 k0 k1 k2 k3 k4 k5 k6 k7 k8 k9 k10 hA3 HS
      gi_wp2_with (refine ⟨trivial, ?_⟩; gi_at_call 49; refine (callsIn_wide.2 HEN.out).mono ?_; rintro e w4 ⟨⟨C, rfl, hC⟩, b4⟩; have hcs : C.size = 1024 := hC.1; have hst := EnO.store_cells (P := Tryd.prog) (w4.alloc (.cells Z 71)) w4.heap.size 71 Z C (World.alloc_heap_new w4 _) (by rw [hzs, hcs]) (isC_one hC))
      have hb4s := b4.size
      have hHB4 := HB3.out.trans (b4.mono HB3.out.size)
      obtain ⟨e, he⟩ : ∃ e, w4.heap.size = e := ⟨_, rfl⟩
      have hZ0 := World.alloc_heap_new w4 (.cells Z 71)
      obtain ⟨X, hX⟩ : ∃ X, (w4.alloc (.cells Z 71)).setRow w4.heap.size C = X := ⟨_, rfl⟩
      have hXE : X.heap[e]? = some (.cells C 71 (0, 0)) := by rw [← hX, he]; exact setRow_heap _ e Z C 71 (0, 0) (by rw [← he]; exact hZ0)
      have hXB : Below e w4 X := by rw [← hX, ← he]; exact below_setRow (below_alloc w4 _) (Nat.le_refl _) C
      have hXs : X.heap.size = e + 1 := by rw [← hX, ← he]; simp [World.setRow]
      rw [hX]
      obtain ⟨Y, hY⟩ : ∃ Y, (X.alloc (.cells #[.int .u64 0] 61)).alloc (.cells #[.int .i64 0] 3) = Y := ⟨_, rfl⟩
      have hYs : Y.heap.size = e + 1 + 1 + 1 := by rw [← hY]; simp [hXs]
      have hYR : Y.heap[e + 1 + 1]? = some (.cells #[.int .i64 0] 3 (0, 0)) := by
        rw [← hY]
        have := World.alloc_heap_new (X.alloc (.cells #[.int .u64 0] 61)) (.cells #[.int .i64 0] 3)
        rw [World.size_alloc, hXs] at this
        exact this
      have hYP : Y.heap[e + 1]? = some (.cells #[.int .u64 0] 61 (0, 0)) := by
        rw [← hY, Below.heap_alloc _ _ _ (by simp [hXs])]
        have := World.alloc_heap_new X (.cells #[.int .u64 0] 61)
        rw [hXs] at this
        exact this
      have hYE : Y.heap[e]? = some (.cells C 71 (0, 0)) := by
        rw [← hY, Below.heap_alloc _ _ _ (by simp [hXs]; omega), Below.heap_alloc _ _ _ (by rw [hXs]; omega)]
        exact hXE
      have hYB : Below e w4 Y := by
        rw [← hY]
        exact (hXB.alloc (by rw [hXs]; omega) _).alloc (by simp [hXs]; omega) _
      rw [hY]
      clear hX hXE hXB hXs hY hZ0
      have HY := Lib.hid (And.intro hYE (And.intro hYP (And.intro hYR hYB)))
      have HC := Lib.hid hC
      have HHB4 := Lib.hid hHB4
      clear hYE hYP hYR hYB hC hHB4 hst HEN j0 j1 j2 j3 j4 j5 j6 j7 j8 j9 j10
      try rw [he]
      refine wpIn_loop (fun a W => ∃ (k q : Nat) (r : Int) (Ds : List Nat) (s3 s4 s5 s7 s11 s12 s13 s14 s15 s16 s17 s18 s19 s20 s21 s22 s23 s24 s25 s26 s27 s28 s29 s30 s31 s32 s36 s37 s38 s39 s40 s41 s42 s43 s44 s45 s46 s47 s48 s49 s50 s51 s52 s53 s54 s55 s56 s57 s58 s59 s60 s61 s62 s63 s64 s65 s66 s67 s68 : Value), a = { tmps := #[Value.agg #[Value.slice a1 n1 c1, Value.slice a2 n2 c2], Value.slice p np cp, Value.pointer (some { block := b, off := 0 }), s3, s4, s5, Value.pointer (some { block := g, off := 0 }), s7, Value.pointer (some { block := e, off := 0 }), Value.pointer (some { block := e + 1, off := 0 }), Value.pointer (some { block := e + 1 + 1, off := 0 }), s11, s12, s13, s14, s15, s16, s17, s18, s19, s20, s21, s22, s23, s24, s25, s26, s27, s28, s29, s30, s31, s32, Value.slice p np cp, Value.int .i64 (np : Int), Value.int .i64 (k : Int), s36, s37, s38, s39, s40, s41, s42, s43, s44, s45, s46, s47, s48, s49, s50, s51, s52, s53, s54, s55, s56, s57, s58, s59, s60, s61, s62, s63, s64, s65, s66, s67, s68], defers := Ds.map mrk } ∧ k ≤ np ∧ Hid (Inv l L U all e Y k q r Ds W)) (fun a W => np - (intOf (a.tmps.getD 35 undef)).toNat) ⟨0, 0, 0, [], _, _, _, _, _, _, _, _, _, _, _, _, _, _, _, _, _, _, _, _, _, _, _, _, _, _, _, _, _, _, _, _, _, _, _, _, _, _, _, _, _, _, _, _, _, _, _, _, _, _, _, _, _, _, _, _, _, _, _, rfl, Nat.zero_le _, ?_⟩ ?_
      · refine ⟨by simp [rkF], HY.out.2.1, HY.out.2.2.1, Below.refl _ _, by simp, List.nodup_nil, by simp⟩
      · rintro a W ⟨k, q, r, Ds, s3, s4, s5, s7, s11, s12, s13, s14, s15, s16, s17, s18, s19, s20, s21, s22, s23, s24, s25, s26, s27, s28, s29, s30, s31, s32, s36, s37, s38, s39, s40, s41, s42, s43, s44, s45, s46, s47, s48, s49, s50, s51, s52, s53, s54, s55, s56, s57, s58, s59, s60, s61, s62, s63, s64, s65, s66, s67, s68, rfl, hk, HI⟩
        obtain ⟨iF, iP, iR, iB, iD, iN, iG⟩ := HI.out
        have hB4W : Below w4.heap.size w4 W := by rw [he]; exact HY.out.2.2.2.trans (iB.mono (Nat.le_succ e))
        have hWs : e + 1 + 1 + 1 ≤ W.heap.size := by have := iB.size; omega
        have HBW := Lib.hid (HHB4.out.trans (hB4W.mono (by have := HHB4.out.size; omega)))
        have Q1 := Lib.hid ((O1.out.below b4).below hB4W)
        have Q3 := Lib.hid ((O3.out.below b4).below hB4W)
        have u1 := (hB4W.cell (p := ⟨b, 0, none⟩) (by show b < _; omega)).trans ((b4.cell (p := ⟨b, 0, none⟩) (by show b < _; omega)).trans t1)
        have u2 := (hB4W.cell (p := ⟨b, 1, none⟩) (by show b < _; omega)).trans ((b4.cell (p := ⟨b, 1, none⟩) (by show b < _; omega)).trans t2)
        have hAW := (hB4W.block g (by omega)).trans ((b4.block g (by omega)).trans HA3.out)
        have hEW := (iB.block e (by omega)).trans HY.out.1
        have hge : g < e := by omega
        have hbe : b < e := by omega
        have HJ := Lib.hid (And.intro iF (And.intro iP (And.intro iR (And.intro iB (And.intro iD (And.intro iN (And.intro iG (And.intro hAW hEW))))))))
        clear iF iP iR iB iD iN iG hAW hEW hB4W HI
        by_cases hlt : k < np
        · have hin : (k : Int) < (np : Int) := by omega
          have hi00 : (0 : Int) ≤ (k : Int) := by omega
          obtain ⟨bp, off, x, rfl, hx, e1⟩ := Q3.out.at k hlt
          have HX := Lib.hid hx
          have HAS := Lib.hid (Idx.good_asc HG.out.1).1
          obtain ⟨i, hi⟩ := Option.isSome_iff_exists.1 (isAt_keys.2 (HOK.out k x (by rw [HL3.out]; exact hlt) hx).1)
          have hp1 := pl_of HAS.out hi
          have hs1 : (isAt l x).isSome = true := by rw [hi]; rfl
          have HI2 := Lib.hid hi
          have hil : i < 10 := Nat.lt_of_lt_of_le (isAt_lt hi) hl10
          have HPL := Lib.hid (Avr.placeOfContext_any a1 a2 n1 c1 n2 c2 l x W hz1 Q1.out HAS.out)
          rw [hp1, hs1] at HPL
          have hsm : IntKind.u64.wrap (2 ^ i - 1) = ((2 ^ i - 1 : Nat) : Int) := by
            have h1 : 2 ^ i ≤ 2 ^ 10 := Nat.pow_le_pow_right (by decide) (by omega)
            have h2 : 0 < 2 ^ i := Nat.two_pow_pos _
            have h3 : ((2 ^ i : Nat) : Int) = (2 : Int) ^ i := by simp
            rw [IntKind.wrap_u64, ← h3]
            omega
          clear hx hi hp1 hs1
          gi_upto_region 12 with (first | (refine ⟨trivial, ?_⟩; gi_at_call 52; refine (callsIn_wide.2 HPL.out).mono ?_; rintro e' v1 ⟨rfl, b5⟩) | (refine ⟨trivial, ?_⟩; gi_at_call 53; refine (callsIn_wide.2 (set_any i (by omega) _)).mono ?_; rintro e' w' ⟨rfl, hw'⟩; have hw2 := hw'.symm; subst hw2; clear hw'))
          have hv1 := b5.size
          have hAv := (b5.block g (by omega)).trans HJ.out.2.2.2.2.2.2.2.1
          have k0 : v1.cell? ⟨g, 0, none⟩ = some (.int .u64 (all : Int)) := cell_of hAv (i := 0) rfl
          have k1 : v1.cell? ⟨g, 1, none⟩ = some (.int .u64 (U 0 : Int)) := cell_of hAv (i := 1) rfl
          have k2 : v1.cell? ⟨g, 2, none⟩ = some (.int .u64 (U 1 : Int)) := cell_of hAv (i := 2) rfl
          have k3 : v1.cell? ⟨g, 3, none⟩ = some (.int .u64 (U 2 : Int)) := cell_of hAv (i := 3) rfl
          have k4 : v1.cell? ⟨g, 4, none⟩ = some (.int .u64 (U 3 : Int)) := cell_of hAv (i := 4) rfl
          have k5 : v1.cell? ⟨g, 5, none⟩ = some (.int .u64 (U 4 : Int)) := cell_of hAv (i := 5) rfl
          have k6 : v1.cell? ⟨g, 6, none⟩ = some (.int .u64 (U 5 : Int)) := cell_of hAv (i := 6) rfl
          have k7 : v1.cell? ⟨g, 7, none⟩ = some (.int .u64 (U 6 : Int)) := cell_of hAv (i := 7) rfl
          have k8 : v1.cell? ⟨g, 8, none⟩ = some (.int .u64 (U 7 : Int)) := cell_of hAv (i := 8) rfl
          have k9 : v1.cell? ⟨g, 9, none⟩ = some (.int .u64 (U 8 : Int)) := cell_of hAv (i := 9) rfl
          have k10 : v1.cell? ⟨g, 10, none⟩ = some (.int .u64 (U 9 : Int)) := cell_of hAv (i := 10) rfl
          have kp : v1.cell? ⟨e + 1, 0, none⟩ = some (.int .u64 (q : Int)) := cell_of ((b5.block (e + 1) (by omega)).trans HJ.out.2.1) (i := 0) rfl
          have hRq : Rep l q (L.take k) := by
            have := rkF_rep (rd := rd U all) (n := l.length) HG.out.1 HOK.out k (by rw [HL3.out]; exact hk)
            rw [HJ.out.1] at this
            exact this
          have hqn := hRq.1
          have hq10 : q < 1024 := p_lt hl10 hqn
          have hall10 : all < 1024 := by rw [← HALL.out.1]; exact all_lt hl10
          have HUB : Hid (∀ i, i < 10 → U i < 1024) := fun i _ => by rw [← HALL.out.2]; exact ups_lt l m hl10 i
          have HBV := Lib.hid (HBW.out.trans (b5.mono HBW.out.size))
          have HN := Lib.hid (next_any all q U hall10 hq10 HUB.out v1 (HV.out.below HBV.out))
          have hnl := nxt_lt U all q
          have hsl : 2 ^ i - 1 < 1024 := by have := Tz.pow_lt hil; omega
          have e4 := and_is (nxt U all q) (2 ^ i - 1) hnl hsl
          obtain ⟨ss, hss⟩ : ∃ ss, nxt U all q &&& (2 ^ i - 1) = ss := ⟨_, rfl⟩
          have hss10 : ss < 1024 := by rw [← hss]; exact Nat.lt_of_le_of_lt Nat.and_le_left hnl
          rw [hss] at e4
          have HSS := Lib.hid hss
          have J5 := Lib.hid b5
          unfold arr at HN
          clear hAv hRq hss b5 u1 u2 e1
          gi_wp2_with (first | (refine ⟨trivial, ?_⟩; gi_at_call 55; refine (callsIn_wide.2 HN.out).mono ?_; rintro e' w2 ⟨rfl, b2⟩) | (refine ⟨trivial, ?_⟩; gi_at_call 54; refine (callsIn_wide.2 (indices_any ss _)).mono ?_; rintro e' w' ⟨rfl, rfl⟩))
          have b52 : Below W.heap.size W w2 := J5.out.trans (b2.mono J5.out.size)
          have hlt2 := b52.size
          have iP := (b52.block (e + 1) (by omega)).trans HJ.out.2.1
          have iR := (b52.block (e + 1 + 1) (by omega)).trans HJ.out.2.2.1
          have iB : Below (e + 1) Y w2 := HJ.out.2.2.2.1.trans (b52.mono (by omega))
          have iD : ∀ D ∈ Ds, w2.heap[D]? = some (.deferred (some [])) := fun D hD => (b52.block D (Array.getElem?_eq_some_iff.1 (HJ.out.2.2.2.2.1 D hD)).1).trans (HJ.out.2.2.2.2.1 D hD)
          obtain ⟨W6, hW6⟩ : ∃ W6, w2.alloc (.cells #[.int .u64 (ss : Int)] 61) = W6 := ⟨_, rfl⟩
          have hbs : W6.heap[w2.heap.size]? = some (.cells #[.int .u64 (ss : Int)] 61 (0, 0)) := by rw [← hW6]; exact World.alloc_heap_new w2 _
          have hs6 : W6.heap.size = w2.heap.size + 1 := by rw [← hW6]; simp
          have al : ∀ {k : Nat} {o : Obj}, w2.heap[k]? = some o → W6.heap[k]? = some o := fun h => by rw [← hW6, Below.heap_alloc _ _ _ (Array.getElem?_eq_some_iff.1 h).1]; exact h
          have jB : Below (e + 1) Y W6 := by rw [← hW6]; exact iB.alloc (by omega) _
          have jP := al iP
          have jR := al iR
          have jD : ∀ D ∈ Ds, W6.heap[D]? = some (.deferred (some [])) := fun D hD => al (iD D hD)
          have hDlt : ∀ D ∈ Ds, D < w2.heap.size := fun D hD => (Array.getElem?_eq_some_iff.1 (iD D hD)).1
          have HBY := Lib.hid (HHB4.out.trans (HY.out.2.2.2.mono (by have := HHB4.out.size; omega)))
          have hwe : w.heap.size ≤ e + 1 := by omega
          rw [hW6]
          clear hW6 al iP iR iB iD b52 b2 k0 k1 k2 k3 k4 k5 k6 k7 k8 k9 k10 kp
          refine range_own rfl (by omega) (gf := 74) (lb := #[.pointer (some ⟨w2.heap.size, 0, none⟩)]) rfl trivial (enters_of Tryd.func74 (by kernel_rfl) rfl)
            (it_any 7 (by omega) w2.heap.size ss hss10) hbs
            (fun pre W => (W.heap[e + 1]? = some (.cells #[.int .u64 (q : Int)] 61 (0, 0)) ∧ W.heap[e + 1 + 1]? = some (.cells #[.int .i64 (pf U all l.length q r pre)] 3 (0, 0))) ∧ (Below (e + 1) Y W ∧ ∀ D ∈ Ds, W.heap[D]? = some (.deferred (some []))))
            (fun _ _ _ => False)
            (BearsC.and (BearsC.and (bears_block (fun _ => _) (fun _ => rfl) (by omega)) (bears_block (fun pre => .cells #[.int .i64 (pf U all l.length q r pre)] 3 (0, 0)) (fun _ => rfl) (by omega))) (BearsC.and (bears_below (by omega) (by omega) (by omega)) (bears_all Ds _ (fun D hD => ⟨by have := hDlt D hD; omega, by have := hDlt D hD; omega⟩))))
            (fun _ _ _ _ _ hs _ _ => hs) (fun s W h => HV.out.below (HBY.out.trans (h.2.1.mono hwe)))
            ⟨⟨jP, jR⟩, jB, jD⟩ ?a1 ?assign ?body ?done ?stop
          case assign =>
            intro l' x' W' K hK
            gi_wp2
            exact hK
          case stop =>
            rintro D c pre W' _ _ h _
            exact h.elim
          case done =>
            rintro D W' hD ⟨⟨qP, qR⟩, qB, qD⟩ hK
            have cp : W'.cell? ⟨e + 1, 0, none⟩ = some (.int .u64 (q : Int)) := cell_of qP (i := 0) rfl
            have fp : W'.frozen? ⟨e + 1, 0, none⟩ = false := by simp [World.frozen?, qP]
            have e5 : bits .or .u64 (q : Int) (2 ^ i : Int) = ((q ||| 2 ^ i : Nat) : Int) := by
              rw [← or_is _ _ hq10 (Tz.pow_lt hil)]
              simp
            have hmx : Tryd.prog.follows .mixedOrders = true := by kernel_rfl
            have HQ := Lib.hid (And.intro qP (And.intro qR (And.intro qB (And.intro qD hK))))
            clear qP qR qB qD hK
            gi_wp2
            refine RkR.region15q _ _ _ _ _ _ _ _ _ _ _ _ _ _ _ _ _ _ _ _ _ _ _ _ _ _ _ _ _ _ _ _ _ _ _ _ _ _ _ _ _ _ _ _ _ _ _ _ _ _ _ _ _ _ _ _ _ _ _ _ _ _ _ _ _ _ _ _ (e + 1) i q (q ||| 2 ^ i) W' (by omega) cp fp e5 (by omega) (fun u63 u64 u65 u66 => ?_)
            gi_wp2
            have hDD := HQ.out.2.2.2.2
            have hss2 : ss < 2 ^ i := by
              rw [← HSS.out]
              exact Nat.lt_of_le_of_lt Nat.and_le_right (by have := Nat.two_pow_pos i; omega)
            have hbl : bl ss = (List.range i).filter (rd U all q) := by
              rw [bl_range (by omega) hss2]
              refine List.filter_congr (fun z hz => ?_)
              rw [← HSS.out, Nat.testBit_and, Nat.testBit_two_pow_sub_one, decide_eq_true (List.mem_range.1 hz), Bool.and_true]
              rfl
            have hne : ∀ E, W'.heap[E]? = some (.deferred (some [])) → E ≠ e + 1 := fun E hE ee => by
              subst ee
              rw [HQ.out.1] at hE
              cases hE
            refine ⟨⟨k + 1, q ||| 2 ^ i, pf U all l.length q r (bl ss), D :: Ds, _, _, _, _, _, _, _, _, _, _, _, _, _, _, _, _, _, _, _, _, _, _, _, _, _, _, _, _, _, _, _, _, _, _, _, _, _, _, _, _, _, _, _, _, _, _, _, _, _, _, _, _, _, _, _, _, _, _, _, rfl, by omega, ?_⟩, by simp [intOf]; omega⟩
            refine ⟨?_, Boxed.set (t := 61) _ HQ.out.1, (Below.heap_setCell _ _ _ _ (by show e + 1 + 1 ≠ e + 1; omega)).trans HQ.out.2.1, (HQ.out.2.2.1.setCell (p := ⟨e + 1, 0, none⟩) (Nat.le_refl _) _).drew, fun E hE => ?_, ?_, fun E hE => ?_⟩
            · rw [rkF_next HX.out HI2.out, HJ.out.1, hbl]
              rfl
            · rcases List.mem_cons.1 hE with ee | ee
              · rw [ee]
                exact (Below.heap_setCell _ _ _ _ (hne D hDD)).trans hDD
              · have h1 := HQ.out.2.2.2.1 E ee
                exact (Below.heap_setCell _ _ _ _ (hne E h1)).trans h1
            · refine List.nodup_cons.2 ⟨fun hm => ?_, HJ.out.2.2.2.2.2.1⟩
              have := hDlt D hm
              omega
            · rcases List.mem_cons.1 hE with ee | ee
              · rw [ee]
                omega
              · exact HJ.out.2.2.2.2.2.2.1 E ee
          case body =>
            rintro l' pre x' W' ⟨⟨qP, qR⟩, qB, qD⟩ hpre hWs
            have hxn : x' ∈ bl ss := hpre.subset (by simp)
            have hbit := (mem_bl hss10).1 hxn
            rw [← HSS.out, Nat.testBit_and, Nat.testBit_two_pow_sub_one, Bool.and_eq_true, decide_eq_true_eq] at hbit
            have hrd : rd U all q x' = true := hbit.1
            have hxf := rd_fine HALL.out.1.symm hall10 q x' hqn hrd
            have hx10 : x' < 10 := by omega
            have hq2 : q ||| 2 ^ x' < 2 ^ l.length := or_lt hqn hxf.1
            have hq2k : q ||| 2 ^ x' < 1024 := p_lt hl10 hq2
            have e3 : bits .or .u64 (q : Int) (2 ^ x' : Int) = ((q ||| 2 ^ x' : Nat) : Int) := by
              rw [← or_is _ _ hq10 (Tz.pow_lt hx10)]
              simp
            have hpf : pf U all l.length q r (pre ++ [x']) = wrap64 (pf U all l.length q r pre + v (rd U all) l.length (q ||| 2 ^ x')) := by unfold pf; rw [List.foldl_append]; rfl
            have hC2 := HC.out.2 (q ||| 2 ^ x') hq2k
            have hcf : cf (rd U all) l.length 0 (q ||| 2 ^ x') = v (rd U all) l.length (q ||| 2 ^ x') := by
              unfold cf
              rw [if_pos ⟨Nat.zero_le _, by omega⟩]
            rw [hcf] at hC2
            have hPF := Lib.hid hpf
            obtain ⟨q2, hq2e⟩ : ∃ q2, q ||| 2 ^ x' = q2 := ⟨_, rfl⟩
            rw [hq2e] at e3 hC2 hPF hq2k
            obtain ⟨fo, hfo⟩ : ∃ fo, pf U all l.length q r pre = fo := ⟨_, rfl⟩
            obtain ⟨vv, hvv⟩ : ∃ vv, v (rd U all) l.length q2 = vv := ⟨_, rfl⟩
            rw [hfo] at qR hPF
            rw [hvv] at hC2 hPF
            have c1 : W'.cell? ⟨e + 1, 0, none⟩ = some (.int .u64 (q : Int)) := cell_of qP (i := 0) rfl
            have c2 : W'.cell? ⟨e + 1 + 1, 0, none⟩ = some (.int .i64 fo) := cell_of qR (i := 0) rfl
            have c3 : W'.cell? ⟨e, q2, none⟩ = some (.int .i64 vv) := cell_of ((qB.block e (by omega)).trans HY.out.1) hC2
            have f2 : W'.frozen? ⟨e + 1 + 1, 0, none⟩ = false := by simp [World.frozen?, qR]
            have hi2 : (q2 : Int) < 1024 := by omega
            have HJ2 := Lib.hid (And.intro qP (And.intro qR (And.intro qB qD)))
            clear qP qR qB qD hpre hxn hbit hrd hpf hC2 hcf hfo hvv hq2e
            gi_wp2
            refine RkR.region14 _ _ _ _ _ _ _ _ _ _ _ _ _ _ _ _ _ _ _ _ _ _ _ _ _ _ _ _ _ _ _ _ _ _ _ _ _ _ _ _ _ _ _ _ _ _ _ _ _ _ _ _ _ _ _ _ _ _ _ _ _ _ _ _ _ e (e + 1) (e + 1 + 1) x' q q2 fo vv W' (by omega) c1 c2 c3 f2 e3 hi2 (by omega) (fun a' => ?_)
            refine ⟨((KeepsOthers.setCell _ _ _).trans (KeepsOthers.drew _)).from _, Below.heap_setCell _ _ _ _ (by show w2.heap.size ≠ e + 1 + 1; omega), ⟨(Below.heap_setCell _ _ _ _ (by show e + 1 ≠ e + 1 + 1; omega)).trans HJ2.out.1, ?_⟩, (HJ2.out.2.2.1.setCell (p := ⟨e + 1 + 1, 0, none⟩) (by show e + 1 ≤ e + 1 + 1; omega) _).drew, fun D hD => ?_⟩
            · rw [hPF.out, ← EnI.wrap_is]
              exact Boxed.set (t := 3) _ HJ2.out.2.1
            · have h1 := HJ2.out.2.2.2 D hD
              exact (Below.heap_setCell _ _ _ _ (by
                show D ≠ e + 1 + 1
                intro ee
                subst ee
                rw [HJ2.out.2.1] at h1
                cases h1)).trans h1
        · obtain rfl : k = np := by omega
          have hin : ¬ (k : Int) < (k : Int) := by omega
          have cr : W.cell? ⟨e + 1 + 1, 0, none⟩ = some (.int .i64 r) := cell_of HJ.out.2.2.1 (i := 0) rfl
          have HV2 : Hid ((rkF (rd (ups l m) (2 ^ l.length - 1)) l.length l L).1 = r) := by
            have h0 := HJ.out.1
            rw [List.take_of_length_le (by rw [HL3.out]; exact Nat.le_refl _)] at h0
            unfold Hid
            rw [HALL.out.1, HALL.out.2, h0]
          gi_wp2
          show LeavesInM Fence.wide 8 Tryd.prog Tryd.f23 _ _ (Ds.map mrk) .returning W
          refine leaves_all Ds W HJ.out.2.2.2.2.2.1 HJ.out.2.2.2.2.1 (fun W' hTn => ?_)
          refine ⟨_, results_tmp2 rfl _ _ _, ?_⟩
          rw [HE.out, HV2.out]
          exact ⟨rfl, by first | exact hTn.2 w HBW.out (fun D hD => by have := HJ.out.2.2.2.2.2.2.1 D hD; omega) | (rw [← hb0]; exact hTn.2 w HBW.out (fun D hD => by have := HJ.out.2.2.2.2.2.2.1 D hD; omega))⟩
  · have hgc : (good l m && !cyc l m) = false := by
      cases h1 : good l m with
      | false => rfl
      | true =>
        cases h2 : cyc l m with
        | true => rfl
        | false => exact absurd ⟨h1, h2⟩ hg
    rw [if_neg hg, hgc]
    have HE := Lib.hid (rk_no (L := L) hg)
    have hbo := below_alloc W1 (.cells #[.int .u64 0, .int .u64 0, .int .u64 0, .int .u64 0, .int .u64 0, .int .u64 0, .int .u64 0, .int .u64 0, .int .u64 0, .int .u64 0, .int .u64 0] 64)
    have HBO := Lib.hid (HB1.out.trans (hbo.mono HB1.out.size))
    clear hg hgc hbo
    unfold arr
    gi_wp2_with (refine ⟨trivial, ?_⟩)
    show LeavesInM Fence.wide 8 Tryd.prog Tryd.f23 _ _ [] .returning _
    refine ⟨_, results_tmp2 rfl _ _ _, ?_⟩
    rw [HE.out]
    exact ⟨rfl, by first | exact HBO.out | (rw [← hb0]; exact HBO.out)⟩
end Go.Proofs.YtjllbbkpmmnkgaaDoor.RkP

namespace Go.Proofs.YtjllbbkpmmnkgaaDoor.RkS
open Go.RowKit Pairs Rec Chain Find2 GoodM Keep GivesI Lows Order Bit Table RedS BlM Nxt Tz SqM Org IsqM IsLater IsqS EnM EnI CntS CntM RkM
set_option linter.unusedVariables false
set_option maxRecDepth 100000 in
set_option maxHeartbeats 8000000 in
theorem spec_any (a1 a2 p : Option Addr) (n1 c1 n2 c2 np cp : Nat) (l m : List (Int × Int)) (L : List Int) (w : World) (hz1 : n1 ≤ 1048576) (hz3 : np ≤ 1048576) (h1 : Holds w a1 n1 l) (h2 : Holds w a2 n2 m) (h3 : HoldsI w p np L) :
    Calls Tryd.prog 22 #[.agg #[.slice a1 n1 c1, .slice a2 n2 c2], .slice p np cp] w fun e w' => e = .returned (.tuple #[.int .i64 (rkP l m L).1, .bool (rkP l m L).2]) ∧ Below w.heap.size w w' := by
  obtain ⟨b, hb0⟩ : ∃ b, w.heap.size = b := ⟨_, rfl⟩
  have hb := below_alloc w (.cells #[.slice a1 n1 c1, .slice a2 n2 c2] 33)
  have hf := box_first w (.slice a1 n1 c1) (.slice a2 n2 c2) 33
  have hf2 := box_second w (.slice a1 n1 c1) (.slice a2 n2 c2) 33
  rw [hb0] at hf hf2
  have hsz : (w.alloc (.cells #[.slice a1 n1 c1, .slice a2 n2 c2] 33)).heap.size = b + 1 := by simp [hb0]
  have H1 := Lib.hid (h1.below hb)
  have H2 := Lib.hid (h2.below hb)
  have H3 := Lib.hid (h3.below hb)
  have HL1 := Lib.hid h1.1
  have HL3 := Lib.hid h3.1
  have HB := Lib.hid hb
  clear h1 h2 h3 hb
  go_enter Tryd.func22, Tryd.ntmps22
  go_wp2_with fail
  generalize w.alloc (.cells #[.slice a1 n1 c1, .slice a2 n2 c2] 33) = W0 at *
  refine (l5Good_any a1 a2 n1 c1 n2 c2 l m W0 H1.out H2.out).mono ?_
  rintro e w1 ⟨rfl, b1⟩
  have r1 := (b1.cell (p := ⟨b, 0, none⟩) (by show b < _; omega)).trans hf
  have r2 := (b1.cell (p := ⟨b, 1, none⟩) (by show b < _; omega)).trans hf2
  have HB1 := Lib.hid (HB.out.trans (b1.mono HB.out.size))
  have M1 := Lib.hid (H1.out.below b1)
  have M2 := Lib.hid (H2.out.below b1)
  have M3 := Lib.hid (H3.out.below b1)
  have hsz1 := b1.size
  clear hf hf2 b1
  by_cases hg : good l m = true ∧ cyc l m = false
  · have hgc : (good l m && !cyc l m) = true := by rw [hg.1, hg.2]; rfl
    rw [hgc]
    have HG := Lib.hid hg
    have HA := Lib.hid (Idx.good_asc hg.1).1
    have hn10 : n1 ≤ 10 := by rw [← HL1.out]; exact (Table.good_few hg.1).1
    have HIS := Lib.hid (l8Is_any a1 a2 p n1 c1 n2 c2 np cp l m L w1 hz1 hz3 M1.out M2.out M3.out hg.1)
    clear hg hgc
    cases hs : isSq l m L with
    | false =>
      have HE := Lib.hid (rk_no2 hs)
      rw [hs] at HIS
      clear hs
      go_wp2_with (go_at_call 38; refine HIS.out.mono ?_; rintro e w2 ⟨rfl, b2⟩; have HB2 := Lib.hid (HB1.out.trans (b2.mono HB1.out.size)))
      go_ret2
      rw [HE.out]
      exact ⟨rfl, by first | exact HB2.out | (rw [← hb0]; exact HB2.out)⟩
    | true =>
      have HE := Lib.hid (rk_yes HG.out hs)
      have HOK := Lib.hid (isSq_yes hs).1
      rw [hs] at HIS
      clear hs
      go_wp2_with (go_at_call 38; refine HIS.out.mono ?_; rintro e w2 ⟨rfl, b2⟩; have HB2 := Lib.hid (HB1.out.trans (b2.mono HB1.out.size)); have s1 := (b2.cell (p := ⟨b, 0, none⟩) (by show b < _; omega)).trans r1; have s2 := (b2.cell (p := ⟨b, 1, none⟩) (by show b < _; omega)).trans r2; have N1 := Lib.hid (M1.out.below b2); have N2 := Lib.hid (M2.out.below b2); have N3 := Lib.hid (M3.out.below b2); have hsz2 := b2.size; clear b2 r1 r2)
      refine (later_any a1 a2 n1 c1 n2 c2 l m w2 HG.out.1 N1.out N2.out).mono ?_
      rintro e w3 ⟨gt, T, rfl, hge, hT, TT, b3⟩
      have q1 := (b3.cell (p := ⟨b, 0, none⟩) (by show b < _; omega)).trans s1
      have q2 := (b3.cell (p := ⟨b, 1, none⟩) (by show b < _; omega)).trans s2
      have HB3 := Lib.hid (HB2.out.trans (b3.mono HB2.out.size))
      have HTT := Lib.hid TT
      have HT := Lib.hid hT
      have O1 := Lib.hid (N1.out.below b3)
      have O3 := Lib.hid (N3.out.below b3)
      have hsz3 := b3.size
      clear hT TT b3 hge s1 s2
      go_wp2_with fail
      refine (counts_any (some ⟨gt, 0, none⟩) n1 n1 T w3 hn10 HT.out (fun k t ht => bd hn10 (HTT.out.bd k t ht))).mono ?_
      rintro e w4 ⟨g, C, rfl, hge, hC, hCI, b4⟩
      have t1 := (b4.cell (p := ⟨b, 0, none⟩) (by show b < _; omega)).trans q1
      have t2 := (b4.cell (p := ⟨b, 1, none⟩) (by show b < _; omega)).trans q2
      have HB4 := Lib.hid (HB3.out.trans (b4.mono HB3.out.size))
      have HT4 := Lib.hid (HT.out.below b4)
      have P1 := Lib.hid (O1.out.below b4)
      have P3 := Lib.hid (O3.out.below b4)
      have hsz4 := b4.size
      have HAG := Lib.hid (rkF_agree HG.out.1 HL1.out HTT.out HOK.out)
      obtain ⟨N, hN⟩ : ∃ N, 2 ^ n1 = N := ⟨_, rfl⟩
      have HCI : Hid (∀ q, q < N → w4.cell? ⟨g, q, none⟩ = some (.int .i64 (v (rm T n1) n1 q))) := fun q hq => by
        have h0 := hCI.2 q (by omega)
        have e : cf (rm T n1) n1 0 q = v (rm T n1) n1 q := by
          unfold cf
          rw [if_pos ⟨Nat.zero_le _, by omega⟩]
        rw [e] at h0
        simp only [World.cell?, hC]
        exact h0
      have hgl : g < w4.heap.size := (Array.getElem?_eq_some_iff.1 hC).1
      have HN := Lib.hid hN
      have hN10 : N ≤ 1024 := by rw [← hN]; exact Nat.pow_le_pow_right (n := 2) (j := 10) (by decide) hn10
      rw [hN]
      clear hC hCI hN b4 hge q1 q2
      go_wp2_with fail
      go_loopw [8, 9, 10] (fun s8 s9 s10 wr => ∃ (k q : Nat) (r : Int), k ≤ np ∧ s10 = .int .i64 k ∧ s9 = .int .i64 (q : Int) ∧ s8 = .int .i64 r ∧ Hid (rkF (rm T n1) n1 l (L.take k) = (r, q)) ∧ Hid (Below w4.heap.size w4 wr)) (fun _ _ s10 _ => np - (intOf s10).toNat)
      case atStart => exact ⟨0, 0, 0, Nat.zero_le _, rfl, rfl, rfl, by unfold Hid; simp [rkF], Below.refl _ _⟩
      case round =>
        obtain ⟨k, q, r, hk, rfl, rfl, rfl, HF, HBel⟩ := hrel
        have hwsz := HBel.out.size
        have hRep : Rep l q (L.take k) := by
          have := (HAG.out k (by rw [HL3.out]; exact hk)).2
          rw [HF.out] at this
          exact this
        have hq2 : q < N := by
          have := hRep.1
          rw [HL1.out, HN.out] at this
          exact this
        clear hRep
        by_cases hlt : k < np
        · obtain ⟨bp, off, x, rfl, hx, e1⟩ := (P3.out.below HBel.out).at k hlt
          have u1 := (HBel.out.cell (p := ⟨b, 0, none⟩) (by show b < _; omega)).trans t1
          have u2 := (HBel.out.cell (p := ⟨b, 1, none⟩) (by show b < _; omega)).trans t2
          have hin : (k : Int) < (np : Int) := by omega
          have hi00 : (0 : Int) ≤ (k : Int) := by omega
          have HX := Lib.hid hx
          have Q1 := Lib.hid (P1.out.below HBel.out)
          have k1 := cell_regrown u1
          have k2 := cell_regrown u2
          have k3 := cell_regrown e1
          have cU : ∀ d os, Calls Tryd.prog 50 #[.agg #[.slice a1 n1 c1, .slice a2 n2 c2], .int .i64 x] (Sort.grow (redrawn wr d) os) fun e w'' => e = .returned (.int .i64 (find l x)) ∧ ∃ p : Regrown, w'' = Sort.grow (redrawn wr p.d) p.os := fun d os => Calls.regrown_of (l2Find_any a1 _ n1 c1 n2 c2 l x _ (by omega) (Q1.out.below (below_regrown wr d os)))
          clear hx
          go_upto_region 9 with fail
          refine wp_region_quiet_below (by kernel_rfl) (by kernel_rfl) ?_
          repeat (go_big_quiet_step (first | (go_at_call 50; exact cU _ _)))
          refine wpQuiet_nil ?_
          intro _ hw'
          obtain ⟨⟨dq, osq⟩, hw''⟩ := hw'
          subst hw''
          have hbq := below_regrown wr dq osq
          have HB5 := Lib.hid (HBel.out.trans (hbq.mono HBel.out.size))
          clear k1 k2 k3 cU u1 u2 e1 Q1 hbq
          generalize Sort.grow (redrawn wr dq) osq = W5 at *
          obtain ⟨i, hi⟩ := Option.isSome_iff_exists.1 (isAt_keys.2 (HOK.out k x (by rw [HL3.out]; exact hlt) HX.out).1)
          have HI := Lib.hid hi
          have hil : i < n1 := by rw [← HL1.out]; exact isAt_lt hi
          rw [find_some hi]
          clear hi
          have HNX := Lib.hid (rkF_next (rd := rm T n1) (n := n1) HX.out HI.out)
          have HCC : Hid (∀ j, j < N → W5.cell? ⟨g, j, none⟩ = some (.int .i64 (v (rm T n1) n1 j))) := fun j hj => (HB5.out.cell (p := ⟨g, j, none⟩) hgl).trans (HCI.out j hj)
          have HT5 := Lib.hid (HT4.out.below HB5.out)
          go_wp2_with fail
          go_loopw [8, 12] (fun s8 s12 wr => ∃ j : Nat, j ≤ i ∧ s12 = .int .i64 j ∧ s8 = .int .i64 (rkI (rm T n1) n1 q r j) ∧ wr = W5) (fun _ s12 _ => i - (intOf s12).toNat)
          case atStart => exact ⟨0, Nat.zero_le _, rfl, rfl, rfl⟩
          case round =>
            obtain ⟨j, hj, rfl, rfl, hwr⟩ := hrel
            have hw2 := hwr.symm
            subst hw2
            clear hwr
            by_cases hlj : j < i
            · have hin2 : (j : Int) < (i : Int) := by omega
              have hj00 : (0 : Int) ≤ (j : Int) := by omega
              have HC := Lib.hid (ready_any (some ⟨gt, 0, none⟩) n1 n1 T q j W5 hn10 (by omega) (by omega) HT5.out (fun k t ht => bd hn10 (HTT.out.bd k t ht)))
              cases hr : rdy T q j with
              | false =>
                have hrm : rm T n1 q j = false := by unfold rm; rw [hr]; simp
                have HNO := Lib.hid (rkI_no (n := n1) (r := r) hrm)
                rw [hr] at HC
                clear hr hrm
                obtain ⟨rr, hrr⟩ : ∃ rr, rkI (rm T n1) n1 q r j = rr := ⟨_, rfl⟩
                rw [hrr] at HNO ⊢
                clear hrr
                go_wp2_with (go_at_call 51; refine HC.out.mono ?_; rintro e w' ⟨rfl, hw'⟩; have hw2 := hw'.symm; subst hw2; clear hw')
                exact ⟨⟨j + 1, by omega, by go_num, by rw [HNO.out], trivial⟩, by simp [intOf]; omega⟩
              | true =>
                have hrm : rm T n1 q j = true := by unfold rm; rw [hr]; simp; omega
                have HYE := Lib.hid (rkI_yes (n := n1) (r := r) hrm)
                have hqN : q ||| 2 ^ j < N := by rw [← HN.out]; exact or_lt (by rw [HN.out]; exact hq2) (by omega)
                have c2 := HCC.out (q ||| 2 ^ j) hqN
                have hsh2 := shl_or q j (by omega) (Table.pow_lt (show j < n1 by omega) hn10)
                have hsh3 : bits .or .i64 (q : Int) (IntKind.i64.wrap (2 ^ j)) = ((q ||| 2 ^ j : Nat) : Int) := by
                  rw [CntS.wrap_is]
                  exact hsh2
                have hsh4 : bits .or .i64 (q : Int) (IntKind.i64.wrap (2 ^ min (IntKind.u64.wrap (j : Int)).toNat 64)) = ((q ||| 2 ^ j : Nat) : Int) := by
                  have e : min (IntKind.u64.wrap (j : Int)).toNat 64 = j := by rw [IntKind.wrap_u64]; omega
                  rw [e]
                  exact hsh3
                rw [hr] at HC
                clear hr hrm
                obtain ⟨rr, hrr⟩ : ∃ rr, rkI (rm T n1) n1 q r j = rr := ⟨_, rfl⟩
                obtain ⟨z, hz⟩ : ∃ z, q ||| 2 ^ j = z := ⟨_, rfl⟩
                rw [hrr, hz] at HYE
                rw [hrr]
                rw [hz] at c2 hsh2 hsh3 hsh4 hqN
                obtain ⟨vv, hvv⟩ : ∃ vv, v (rm T n1) n1 z = vv := ⟨_, rfl⟩
                rw [hvv] at HYE c2
                have hz0 : (0 : Int) ≤ (z : Int) := by omega
                have hzN : (z : Int) < (N : Int) := by omega
                clear hrr hz hvv
                go_wp2_with (go_at_call 51; refine HC.out.mono ?_; rintro e w' ⟨rfl, hw'⟩; have hw2 := hw'.symm; subst hw2; clear hw')
                exact ⟨⟨j + 1, by omega, by go_num, by rw [HYE.out], trivial⟩, by simp [intOf]; omega⟩
            · obtain rfl : j = i := by omega
              have hin2 : ¬ (j : Int) < (j : Int) := by omega
              have hj00 : (0 : Int) ≤ (j : Int) := by omega
              have hsh2 := shl_or q j (by omega) (Table.pow_lt hil hn10)
              have hsh3 : bits .or .i64 (q : Int) (IntKind.i64.wrap (2 ^ j)) = ((q ||| 2 ^ j : Nat) : Int) := by
                rw [CntS.wrap_is]
                exact hsh2
              have hsh4 : bits .or .i64 (q : Int) (IntKind.i64.wrap (2 ^ min (IntKind.u64.wrap (j : Int)).toNat 64)) = ((q ||| 2 ^ j : Nat) : Int) := by
                have e : min (IntKind.u64.wrap (j : Int)).toNat 64 = j := by rw [IntKind.wrap_u64]; omega
                rw [e]
                exact hsh3
              have HNX2 : Hid (rkF (rm T n1) n1 l (L.take (k + 1)) = (rkI (rm T n1) n1 q r j, q ||| 2 ^ j)) := by
                unfold Hid
                rw [HNX.out, HF.out]
              obtain ⟨rr, hrr⟩ : ∃ rr, rkI (rm T n1) n1 q r j = rr := ⟨_, rfl⟩
              obtain ⟨z, hz⟩ : ∃ z, q ||| 2 ^ j = z := ⟨_, rfl⟩
              rw [hrr, hz] at HNX2
              rw [hz] at hsh2 hsh3 hsh4
              rw [hrr]
              clear hrr hz
              go_wp2_with fail
              exact ⟨⟨k + 1, z, rr, by omega, by go_num, rfl, rfl, HNX2, HB5⟩, by simp [intOf]; omega⟩
        · obtain rfl : k = np := by omega
          have hin : ¬ (k : Int) < (k : Int) := by omega
          have HV : Hid ((rkF (rd (ups l m) (2 ^ l.length - 1)) l.length l L).1 = r) := by
            have h0 := (HAG.out k (by rw [HL3.out]; exact Nat.le_refl _)).1
            rw [HF.out, List.take_of_length_le (by rw [HL3.out]; exact Nat.le_refl _)] at h0
            unfold Hid
            rw [HL1.out, ← h0]
          have HB6 := Lib.hid (HB4.out.trans (HBel.out.mono HB4.out.size))
          go_wp2_with fail
          go_ret2
          rw [HE.out, HV.out]
          exact ⟨rfl, by first | exact HB6.out | (rw [← hb0]; exact HB6.out)⟩
  · have hgc : (good l m && !cyc l m) = false := by
      cases h1 : good l m with
      | false => rfl
      | true =>
        cases h2 : cyc l m with
        | true => rfl
        | false => exact absurd ⟨h1, h2⟩ hg
    rw [hgc]
    have HE := Lib.hid (rk_no (L := L) hg)
    clear hg hgc
    go_wp2_with fail
    go_ret2
    rw [HE.out]
    exact ⟨rfl, by first | exact HB1.out | (rw [← hb0]; exact HB1.out)⟩
end Go.Proofs.YtjllbbkpmmnkgaaDoor.RkS
