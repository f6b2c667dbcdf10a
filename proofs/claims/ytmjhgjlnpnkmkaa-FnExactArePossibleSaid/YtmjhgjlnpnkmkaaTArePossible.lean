/- The program's elementsThat over relations: those that meet a condition. -/
import Derived.Test.YtmjhgjlnpnkmkaaOrder
import Derived.Test.YtmjhgjlnpnkmkaaIdx
import Derived.Test.YtmjhgjlnpnkmkaaGivesRL
import Derived.Test.YtmjhgjlnpnkmkaaFuncM
import Derived.Test.YtmjhgjlnpnkmkaaThat
import Derived.Maps.AppendAt
import Derived.Test.YtmjhgjlnpnkmkaaIvI
import Derived.Test.YtmjhgjlnpnkmkaaEvS
import Derived.Test.YtmjhgjlnpnkmkaaFcM
import Derived.Test.YtmjhgjlnpnkmkaaLpF
import Derived.Test.YtmjhgjlnpnkmkaaEvP
import Derived.Test.YtmjhgjlnpnkmkaaQsh
import Derived.Sort.CutIn
import Derived.Test.YtmjhgjlnpnkmkaaConsistB
import Derived.Test.YtmjhgjlnpnkmkaaLawKit
import Derived.Test.YtmjhgjlnpnkmkaaDaT
import Derived.Test.YtmjhgjlnpnkmkaaIntT
import Derived.Test.YtmjhgjlnpnkmkaaDa
namespace Go.Proofs.Ytmjhgjlnpnkmkaa.Elems
open Go.RowKit Pairs Rec Chain Find2 Keep
theorem cell_two_new (w : World) (x y : Value) (t : TypeId) : ∀ j u, [x, y][j]? = some u → (w.alloc (.cells #[x, y] t)).cell? ((⟨w.heap.size, 0, none⟩ : Addr).add j) = some u := by
  intro j u hj
  match j, hj with
  | 0, hj =>
    simp at hj
    subst hj
    exact box_first w x y t
  | 1, hj =>
    simp at hj
    subst hj
    exact box_second w x y t
theorem flat_append (l1 l2 : List (Int × Int)) : flat (l1 ++ l2) = flat l1 ++ flat l2 := by unfold flat; rw [List.flatMap_append]
theorem filt_next (q : Int × Int → Bool) {m : List (Int × Int)} {k : Nat} {x y : Int} (hx : m[k]? = some (x, y)) : (m.take (k + 1)).filter q = (m.take k).filter q ++ (if q (x, y) = true then [(x, y)] else []) := by
  rw [List.take_add_one, hx, List.filter_append]
  cases h : q (x, y) <;> simp [h]
theorem filt_len (q : Int × Int → Bool) (m : List (Int × Int)) (k : Nat) : ((m.take k).filter q).length ≤ k :=
  Nat.le_trans (List.length_filter_le _ _) (by rw [List.length_take]; omega)
theorem own_form {T : TypeId} {B n : Nat} {w : World} {v : Value} {xs : List Value} (h : w.ownsRow B T 2 v n xs) : ∃ p d, v = .slice p n d := by
  rcases h.2 with ⟨hv, hn⟩ | ⟨g, cap, cur, hv, _⟩
  · subst hn
    exact ⟨none, 0, hv⟩
  · exact ⟨_, cap, hv⟩
theorem empty_own {T : TypeId} (w : World) : (w.alloc (.cells #[] T)).ownsRow w.heap.size T 2 (.slice (some ⟨w.heap.size, 0, none⟩) 0 0) 0 [] :=
  World.ownsRow_made w #[] 0 (Nat.le_refl _) (by unfold maxLen; omega) (by simp)
def ResR (L : List (Int × Int)) (w : World) (e : Ending) (w' : World) : Prop :=
  ∃ (p : Option Addr) (k d : Nat), e = .returned (.slice p k d) ∧ w'.ownsRow w.heap.size 110 2 (.slice p k d) k (flat L) ∧ k ≤ 1048576 ∧ Below w.heap.size w w'
def G1 (B : Nat) (w wr : World) (v : Value) (L : List (Int × Int)) : Prop := wr.ownsRow B 110 2 v L.length (flat L) ∧ Below B w wr
end Go.Proofs.Ytmjhgjlnpnkmkaa.Elems

namespace Go.Proofs.Ytmjhgjlnpnkmkaa.IvS
open Go.RowKit Pairs Rec RecEq Chain Find2 GoodM Keep GivesI Da DaT DaG EvM IvM RepI IvI Elems
set_option linter.unusedVariables false
def GV (B : Nat) (w wr : World) (v : Value) (L : List (Int × Int)) : Prop := wr.ownsRow B 64 2 v L.length (flat L) ∧ Below B w wr
def OwnR (L : List (Int × Int)) (w : World) (e : Ending) (w' : World) : Prop :=
  ∃ (p : Option Addr) (d : Nat), e = .returned (.slice p L.length d) ∧ w'.ownsRow w.heap.size 64 2 (.slice p L.length d) L.length (flat L) ∧ Below w.heap.size w w'
/-- The box of the round: an interval, and all that stood before it. -/
def Bx (wr wi : World) (v : Int × Int) : Prop := wi.heap[wr.heap.size]? = some (.cells #[.int .i64 v.1, .int .i64 v.2] 64) ∧ Below wr.heap.size wr wi
theorem Bx.new (wr : World) (a b : Int) : Bx wr (wr.alloc (.cells #[.int .i64 a, .int .i64 b] 64)) (a, b) := by
  refine ⟨?_, below_alloc wr _⟩
  show (wr.heap.push _)[wr.heap.size]? = _
  rw [Array.getElem?_push, if_pos rfl]
theorem Bx.cells {wr wi : World} {v : Int × Int} (h : Bx wr wi v) : (wi.cell? ⟨wr.heap.size, 0, none⟩ = some (.int .i64 v.1) ∧ wi.cell? ⟨wr.heap.size, 1, none⟩ = some (.int .i64 v.2)) ∧ wi.frozen? ⟨wr.heap.size, 0, none⟩ = false ∧ wi.frozen? ⟨wr.heap.size, 1, none⟩ = false := by
  refine ⟨⟨?_, ?_⟩, ?_, ?_⟩
  · unfold World.cell?; rw [h.1]; rfl
  · unfold World.cell?; rw [h.1]; rfl
  · unfold World.frozen?; rw [h.1]; rfl
  · unfold World.frozen?; rw [h.1]; rfl
theorem Bx.quiet {wr wi : World} {v : Int × Int} (h : Bx wr wi v) (d : Nat) (os : Array Obj) : Bx wr (Sort.grow (redrawn wi d) os) v := by
  have hlt : wr.heap.size < wi.heap.size := (Array.getElem?_eq_some_iff.1 h.1).1
  have hb := below_regrown wi d os
  refine ⟨?_, h.2.trans (hb.mono (Nat.le_of_lt hlt))⟩
  rw [hb.block _ hlt]
  exact h.1
theorem Bx.put {wr wi : World} {v : Int × Int} (h : Bx wr wi v) (a b : Int) : Bx wr ((wi.setCell ⟨wr.heap.size, 0, none⟩ (.int .i64 a)).setCell ⟨wr.heap.size, 1, none⟩ (.int .i64 b)) (a, b) := by
  refine ⟨?_, (h.2.setCell (p := ⟨wr.heap.size, 0, none⟩) (Nat.le_refl _) _).setCell (p := ⟨wr.heap.size, 1, none⟩) (Nat.le_refl _) _⟩
  have h1 := heap_setCell_same wi wr.heap.size 0 _ _ (.int .i64 a) h.1
  have h2 := heap_setCell_same _ wr.heap.size 1 _ _ (.int .i64 b) h1
  exact h2
theorem take_own {l : List (Int × Int)} {L : List Dt} {k : Nat} {x y : Int} (h : l[k]? = some (x, y)) : (own l L).take (k + 1) = (own l L).take k ++ [iv L x] := by
  rw [List.take_add_one, own_at h]; rfl
set_option maxRecDepth 100000 in
set_option maxHeartbeats 8000000 in
theorem l9Own_any (a1 a2 p : Option Addr) (n1 c1 n2 c2 np cp : Nat) (l : List (Int × Int)) (L : List Dt) (w : World) (hz : n1 ≤ 10) (hp : np ≤ 1048576) (h : Holds w a1 n1 l) (hL : HoldsD w p np L) (hE : evi l L = true) :
    Calls Try.prog 57 #[.agg #[.slice a1 n1 c1, .slice a2 n2 c2], .slice p np cp] w (OwnR (own l L) w) := by
  obtain ⟨i0, hi, hy0, hy1, hy2⟩ := info_parts infoV
  obtain ⟨W, hW⟩ : ∃ W, w.alloc (.cells #[.slice a1 n1 c1, .slice a2 n2 c2] 33) = W := ⟨_, rfl⟩
  have hWs : W.heap.size = w.heap.size + 1 := by rw [← hW]; simp
  have hb : Below w.heap.size w W := by rw [← hW]; exact below_alloc w _
  have hf : W.cell? ⟨w.heap.size, 0, none⟩ = some (.slice a1 n1 c1) := by rw [← hW]; exact box_first w _ _ _
  have H1 := Lib.hid (h.below hb)
  have HL := Lib.hid (hL.below hb)
  have HE := Lib.hid hE
  have HB := Lib.hid hb
  have HLL := Lib.hid hL.1
  have HL1 := Lib.hid h.1
  have HWS := Lib.hid hWs
  have hfz := World.block_lt_of_cell? W _ hf
  have HG0 : Hid (GV W.heap.size W (W.alloc (.cells #[] 64)) (.slice (some ⟨W.heap.size, 0, none⟩) 0 0) ((own l L).take 0)) := ⟨Elems.empty_own W, below_alloc W _⟩
  clear h hL hb hE hWs
  go_enter Try.func57, Try.ntmps57
  go_wp2_with fail
  clear hW
  generalize W.alloc (.cells #[] 64) = V at *
  go_loopw [5, 6] (fun s5 s6 wr => ∃ k : Nat, k ≤ n1 ∧ s6 = .int .i64 k ∧ Hid (GV W.heap.size W wr s5 ((own l L).take k))) (fun _ s6 _ => n1 - (intOf s6).toNat)
  case atStart => exact ⟨0, Nat.zero_le _, rfl, HG0⟩
  case round =>
    clear HG0
    obtain ⟨k, hk, rfl, HR⟩ := hrel
    obtain ⟨wo, rfl⟩ : ∃ z, z = wr := ⟨wr, rfl⟩
    by_cases hlt : k < n1
    · have hkn : (k : Int) < (n1 : Int) := by omega
      have hk0 : (0 : Int) ≤ (k : Int) := by omega
      have q1 := (HR.out.2.cell (p := ⟨w.heap.size, 0, none⟩) hfz).trans hf
      obtain ⟨b, off, x, y, rfl, hx, e1, e2⟩ := (H1.out.below HR.out.2).at k hlt
      have HX := Lib.hid hx
      have HX0 := Lib.hid (Bx.new wo (-20000) 2100)
      have hfr := Nat.lt_of_lt_of_le hfz HR.out.2.size
      have hbr := World.block_lt_of_cell? wo _ e1
      clear hx e2
      go_wp2_with fail
      generalize wo.alloc (.cells #[.int .i64 (-20000), .int .i64 2100] 64) = Y at *
      go_loopw [8] (fun s8 wi => ∃ j : Nat, j ≤ np ∧ s8 = .int .i64 j ∧ Hid (Bx wo wi (iv (L.take j) x))) (fun s8 _ => np - (intOf s8).toNat)
      case atStart => exact ⟨0, Nat.zero_le _, rfl, HX0⟩
      case round =>
        clear HX0
        obtain ⟨j, hj, rfl, HI⟩ := hrel
        have z1 := (HI.out.2.cell (p := ⟨w.heap.size, 0, none⟩) hfr).trans q1
        have z2 := (HI.out.2.cell hbr).trans e1
        by_cases hlj : j < np
        · have hjn : (j : Int) < (np : Int) := by omega
          have hj0 : (0 : Int) ≤ (j : Int) := by omega
          obtain ⟨b2, off2, u, y2, z2', rfl, hu, g1, g2, g3⟩ := ((HL.out.below HR.out.2).below HI.out.2).at j hlj
          have HU := Lib.hid (iv_next HE.out hu x)
          have k1 := cell_regrown z1
          have k2 := cell_regrown z2
          have k3 := cell_regrown g1
          have hr1 := World.block_lt_of_cell? wr _ g1
          clear hu
          by_cases hux : u = x
          · have HU2 : Hid (iv (L.take (j + 1)) x = (y2, z2')) := by unfold Hid; rw [HU.out, if_pos hux]
            have hde : (u == x) = true := by simp [hux]
            clear HU
            go_wp2_with fail
            refine wp_region_quiet_below (by kernel_rfl) (by kernel_rfl) ?_
            repeat (go_big_quiet_step (fail))
            refine wpQuiet_nil ?_
            intro _ hw'
            obtain ⟨⟨dq, osq⟩, hw''⟩ := hw'
            subst hw''
            have hbq := below_regrown wr dq osq
            have HIQ := Lib.hid (HI.out.quiet dq osq)
            have v1 := (hbq.cell (World.block_lt_of_cell? wr _ g1)).trans g1
            have v2 := (hbq.cell (World.block_lt_of_cell? wr _ g2)).trans g2
            have v3 := (hbq.cell (World.block_lt_of_cell? wr _ g3)).trans g3
            clear k1 k2 k3 g1 g2 g3 hbq HI z1 z2 hr1
            generalize Sort.grow (redrawn wr dq) osq = W5 at *
            obtain ⟨⟨c1', c2'⟩, f1, f2⟩ := HIQ.out.cells
            have HI2 : Hid (Bx wo ((W5.setCell ⟨wo.heap.size, 0, none⟩ (.int .i64 y2)).setCell ⟨wo.heap.size, 1, none⟩ (.int .i64 z2')) (iv (L.take (j + 1)) x)) := by
              unfold Hid
              rw [HU2.out]
              exact HIQ.out.put y2 z2'
            go_wp2_with fail
            exact ⟨⟨j + 1, by omega, by go_num, HI2⟩, by simp [intOf]; omega⟩
          · have HU2 : Hid (iv (L.take (j + 1)) x = iv (L.take j) x) := by unfold Hid; rw [HU.out, if_neg hux]
            have hde : (u == x) = false := by simp [hux]
            clear HU
            go_wp2_with fail
            refine wp_region_quiet_below (by kernel_rfl) (by kernel_rfl) ?_
            repeat (go_big_quiet_step (fail))
            refine wpQuiet_nil ?_
            intro _ hw'
            obtain ⟨⟨dq, osq⟩, hw''⟩ := hw'
            subst hw''
            have HIQ : Hid (Bx wo (Sort.grow (redrawn wr dq) osq) (iv (L.take (j + 1)) x)) := by
              unfold Hid
              rw [HU2.out]
              exact HI.out.quiet dq osq
            clear k1 k2 k3 g1 g2 g3 HI z1 z2 hr1
            generalize Sort.grow (redrawn wr dq) osq = W5 at *
            go_wp2_with fail
            exact ⟨⟨j + 1, by omega, by go_num, HIQ⟩, by simp [intOf]; omega⟩
        · obtain rfl : j = np := by omega
          have hjj : ¬ (j : Int) < (j : Int) := by omega
          have HI3 : Hid (Bx wo wr (iv L x)) := by
            have := HI.out
            rw [List.take_of_length_le (by rw [HLL.out]; exact Nat.le_refl _)] at this
            exact this
          obtain ⟨⟨c1', c2'⟩, f1, f2⟩ := HI3.out.cells
          have hown := ownsRow_below HR.out.1 HI3.out.2
          have hln : ((own l L).take k).length ≤ 10 := by rw [List.length_take, own_len]; omega
          have hs5 : W.heap.size ≤ wr.heap.size := Nat.le_trans HR.out.2.size HI3.out.2.size
          clear HI
          go_wp2_with (at_builtin; refine wpList_append_own _ rfl _ _ 48 rfl W.heap.size 64 i0 (.agg #[.int .i64 0, .int .i64 0]) 2 16 Try.underlying48 hi hy0 hy1 hy2 rfl (by decide) _ _ _ rfl (hown.alloc _) ⟨wr.heap.size, 0, none⟩ 1 1 [.int .i64 (iv L x).1, .int .i64 (iv L x).2] rfl rfl (cell_two_new _ _ _ _) (by simp [Value.oneCell']) (by unfold maxLen; omega) (by omega) (by simp; omega) ?_; intro v' w9 hown' hgrow hnil)
          have HG9 : Hid (GV W.heap.size W w9 v' ((own l L).take (k + 1))) := by
            unfold Hid GV
            rw [take_own HX.out, List.length_append, Elems.flat_append]
            exact ⟨hown', ((HR.out.2.trans (HI3.out.2.mono HR.out.2.size)).alloc hs5 _).grown hgrow (by simp; omega) (fun j hj => (hown.lt j hj).1)⟩
          clear hown' hgrow hown hnil
          exact ⟨⟨k + 1, by omega, by go_num, HG9⟩, by simp [intOf]; omega⟩
    · obtain rfl : k = n1 := by omega
      have hkn : ¬ (k : Int) < (k : Int) := by omega
      have q1 := (HR.out.2.cell (p := ⟨w.heap.size, 0, none⟩) hfz).trans hf
      have HO : Hid (wo.ownsRow W.heap.size 64 2 u5 (own l L).length (flat (own l L)) ∧ Below W.heap.size W wo) := by
        have := HR.out
        rw [List.take_of_length_le (by rw [own_len, HL1.out]; exact Nat.le_refl _)] at this
        exact this
      clear HR
      obtain ⟨p', d, rfl⟩ := Elems.own_form HO.out.1
      go_wp2_with fail
      go_ret
      exact ⟨_, _, rfl, ownsRow_base HO.out.1 HB.out.size, HB.out.trans (HO.out.2.mono HB.out.size)⟩
end Go.Proofs.Ytmjhgjlnpnkmkaa.IvS

namespace Go.Proofs.Ytmjhgjlnpnkmkaa.FcI
open Go.RowKit Go.Shelf Pairs Rec RecEq Chain Find2 GoodM Keep GivesI Order Idx Da DaT DaG EvM EvP IvM IvI LpM LpI LpF FcM Qsp Qsh
attribute [local go_sem] Oper.semAt_some
set_option linter.unusedVariables false
def Says4 (f : FuncId) : Prop := ∀ (a1 a2 p : Option Addr) (n1 c1 n2 c2 np cp : Nat) (l m : List (Int × Int)) (L : List Dt) (w : World), n1 ≤ 1048576 → n2 ≤ 1048576 → np ≤ 1048576 → Holds w a1 n1 l → Holds w a2 n2 m → HoldsD w p np L →
    Calls Try.prog f #[.agg #[.slice a1 n1 c1, .slice a2 n2 c2], .slice p np cp] w fun e w' => e = .returned (.tuple #[.int .i64 (fcP l m L).1, .int .i64 (fcP l m L).2.1, .bool (fcP l m L).2.2.1, .bool (fcP l m L).2.2.2]) ∧ Below w.heap.size w w'
/-- A record's box and four boxes for results. -/
theorem boxes5 (w : World) (u v a b c d : Value) (t t1 t2 t3 t4 : TypeId) : ∃ W, (((((w.alloc (.cells #[u, v] t)).alloc (.cells #[a] t1)).alloc (.cells #[b] t2)).alloc (.cells #[c] t3)).alloc (.cells #[d] t4)) = W ∧ W.heap.size = w.heap.size + 5 ∧
    W.heap[w.heap.size]? = some (.cells #[u, v] t) ∧ W.heap[w.heap.size + 1]? = some (.cells #[a] t1) ∧ W.heap[w.heap.size + 2]? = some (.cells #[b] t2) ∧ W.heap[w.heap.size + 3]? = some (.cells #[c] t3) ∧ W.heap[w.heap.size + 4]? = some (.cells #[d] t4) ∧ Below w.heap.size w W := by
  have new : ∀ (w : World) (o : Obj) (k : Nat), k = w.heap.size → (w.alloc o).heap[k]? = some o := fun w o k h => by
    subst h
    show (w.heap.push o)[w.heap.size]? = _
    rw [Array.getElem?_push, if_pos rfl]
  have old : ∀ (w : World) (o : Obj) (k : Nat), k < w.heap.size → (w.alloc o).heap[k]? = w.heap[k]? := fun w o k h => Below.heap_alloc w o k h
  refine ⟨_, rfl, by simp, ?_, ?_, ?_, ?_, ?_, ?_⟩
  · rw [old _ _ _ (by simp <;> omega), old _ _ _ (by simp <;> omega), old _ _ _ (by simp <;> omega), old _ _ _ (by simp), new _ _ _ rfl]
  · rw [old _ _ _ (by simp <;> omega), old _ _ _ (by simp <;> omega), old _ _ _ (by simp), new _ _ _ (by simp)]
  · rw [old _ _ _ (by simp <;> omega), old _ _ _ (by simp), new _ _ _ (by simp)]
  · rw [old _ _ _ (by simp), new _ _ _ (by simp)]
  · rw [new _ _ _ (by simp)]
  · exact ((((Below.refl _ w).alloc (Nat.le_refl _) _).alloc (by simp) _).alloc (by simp <;> omega) _).alloc (by simp <;> omega) _ |>.alloc (by simp <;> omega) _
structure B4v (W : World) (b : Nat) (v1 v2 v3 v4 : Value) : Prop where
  one : Boxed W (b + 1) 3 v1
  two : Boxed W (b + 1 + 1) 3 v2
  three : Boxed W (b + 1 + 1 + 1) 4 v3
  four : Boxed W (b + 1 + 1 + 1 + 1) 4 v4
abbrev B4 (W : World) (b : Nat) (x y : Int) (u v : Bool) : Prop := B4v W b (.int .i64 x) (.int .i64 y) (.bool u) (.bool v)
theorem B4v.s1 {W : World} {b : Nat} {v1 v2 v3 v4 : Value} (h : B4v W b v1 v2 v3 v4) (u : Value) : B4v (W.setCell ⟨b + 1, 0, none⟩ u) b u v2 v3 v4 := ⟨h.one.set _, h.two.other (by omega) _, h.three.other (by omega) _, h.four.other (by omega) _⟩
theorem B4v.s2 {W : World} {b : Nat} {v1 v2 v3 v4 : Value} (h : B4v W b v1 v2 v3 v4) (u : Value) : B4v (W.setCell ⟨b + 1 + 1, 0, none⟩ u) b v1 u v3 v4 := ⟨h.one.other (by omega) _, h.two.set _, h.three.other (by omega) _, h.four.other (by omega) _⟩
theorem B4v.s3 {W : World} {b : Nat} {v1 v2 v3 v4 : Value} (h : B4v W b v1 v2 v3 v4) (u : Value) : B4v (W.setCell ⟨b + 1 + 1 + 1, 0, none⟩ u) b v1 v2 u v4 := ⟨h.one.other (by omega) _, h.two.other (by omega) _, h.three.set _, h.four.other (by omega) _⟩
theorem B4v.s4 {W : World} {b : Nat} {v1 v2 v3 v4 : Value} (h : B4v W b v1 v2 v3 v4) (u : Value) : B4v (W.setCell ⟨b + 1 + 1 + 1 + 1, 0, none⟩ u) b v1 v2 v3 u := ⟨h.one.other (by omega) _, h.two.other (by omega) _, h.three.other (by omega) _, h.four.set _⟩
theorem B4v.set {W : World} {b : Nat} {v1 v2 v3 v4 : Value} {x' y' : Int} {u' v' : Bool} (h : B4v W b v1 v2 v3 v4) :
    B4 ((((W.setCell ⟨b + 1, 0, none⟩ (.int .i64 x')).setCell ⟨b + 1 + 1, 0, none⟩ (.int .i64 y')).setCell ⟨b + 1 + 1 + 1, 0, none⟩ (.bool u')).setCell ⟨b + 1 + 1 + 1 + 1, 0, none⟩ (.bool v')) b x' y' u' v' :=
  (((h.s1 _).s2 _).s3 _).s4 _
theorem B4v.below {W W' : World} {b : Nat} {v1 v2 v3 v4 : Value} (h : B4v W b v1 v2 v3 v4) (hb : Below W.heap.size W W') : B4v W' b v1 v2 v3 v4 :=
  ⟨(hb.block _ h.one.lt).trans h.one, (hb.block _ h.two.lt).trans h.two, (hb.block _ h.three.lt).trans h.three, (hb.block _ h.four.lt).trans h.four⟩
/-- A world of the class: some draws, some new blocks, some writes into the four boxes. -/
structure Gw where
  d : Nat
  os : Array Obj
  ws : List (Fin 4 × Value)
instance : Inhabited Gw := ⟨⟨0, #[], []⟩⟩
def puts (b : Nat) (W : World) (ws : List (Fin 4 × Value)) : World := ws.foldl (fun X u => X.setCell ⟨b + 1 + u.1.val, 0, none⟩ u.2) W
def optW (W : World) (b : Nat) (q : Gw) : World := puts b (Sort.grow (redrawn W q.d) q.os) q.ws
theorem puts_cell {b : Nat} {p : Addr} {v : Value} (h1 : p.block ≤ b ∨ b + 1 + 3 < p.block) : ∀ (ws : List (Fin 4 × Value)) (W : World), W.cell? p = some v → (puts b W ws).cell? p = some v
  | [], W, h => h
  | u :: ws, W, h => puts_cell h1 ws _ (by
      have := u.1.isLt
      rw [World.cell?_setCell_far _ _ _ _ (by show b + 1 + u.1.val ≠ p.block; omega)]
      exact h)
theorem optW_cell {W : World} {b k o : Nat} {v : Value} (h : W.cell? ⟨k, o, none⟩ = some v) (hk : k ≤ b ∨ b + 1 + 3 < k) (q : Gw) : (optW W b q).cell? ⟨k, o, none⟩ = some v :=
  puts_cell hk _ _ (cell_regrown h q.d q.os)
theorem puts_b4 {b : Nat} : ∀ (ws : List (Fin 4 × Value)) (W : World) (v1 v2 v3 v4 : Value), B4v W b v1 v2 v3 v4 → ∃ u1 u2 u3 u4, B4v (puts b W ws) b u1 u2 u3 u4
  | [], W, _, _, _, _, h => ⟨_, _, _, _, h⟩
  | (⟨0, _⟩, x) :: ws, W, _, _, _, _, h => puts_b4 ws _ _ _ _ _ (h.s1 x)
  | (⟨1, _⟩, x) :: ws, W, _, _, _, _, h => puts_b4 ws _ _ _ _ _ (h.s2 x)
  | (⟨2, _⟩, x) :: ws, W, _, _, _, _, h => puts_b4 ws _ _ _ _ _ (h.s3 x)
  | (⟨3, _⟩, x) :: ws, W, _, _, _, _, h => puts_b4 ws _ _ _ _ _ (h.s4 x)
theorem puts_below {n₀ b : Nat} {w : World} (hb : n₀ ≤ b) : ∀ (ws : List (Fin 4 × Value)) (W : World), Below n₀ w W → Below n₀ w (puts b W ws)
  | [], W, h => h
  | u :: ws, W, h => puts_below hb ws _ (h.setCell (p := ⟨b + 1 + u.1.val, 0, none⟩) (by show n₀ ≤ b + 1 + u.1.val; omega) _)
theorem puts_others {b : Nat} {w : World} : ∀ (ws : List (Fin 4 × Value)) (W : World), KeepsOthers w W → KeepsOthers w (puts b W ws)
  | [], W, h => h
  | u :: ws, W, h => puts_others ws _ (h.trans (KeepsOthers.setCell _ _ _))
theorem put_one {W : World} {b d : Nat} {os : Array Obj} {ws : List (Fin 4 × Value)} (k : Fin 4) (v : Value) : optW W b ⟨d, os, ws ++ [(k, v)]⟩ = (optW W b ⟨d, os, ws⟩).setCell ⟨b + 1 + k.val, 0, none⟩ v := by
  unfold optW puts
  rw [List.foldl_append]
  rfl
theorem B4v.putObj {W : World} {b D : Nat} {v1 v2 v3 v4 : Value} (h : B4v W b v1 v2 v3 v4) (hD : b + 1 + 1 + 1 + 1 < D) (o : Obj) : B4v (W.putObj D o) b v1 v2 v3 v4 :=
  ⟨(World.putObj_heap_other (by omega)).trans h.one, (World.putObj_heap_other (by omega)).trans h.two, (World.putObj_heap_other (by omega)).trans h.three, (World.putObj_heap_other (by omega)).trans h.four⟩
theorem others4 (W : World) (b : Nat) (u1 u2 u3 u4 : Value) : KeepsOthers W ((((W.setCell ⟨b + 1, 0, none⟩ u1).setCell ⟨b + 1 + 1, 0, none⟩ u2).setCell ⟨b + 1 + 1 + 1, 0, none⟩ u3).setCell ⟨b + 1 + 1 + 1 + 1, 0, none⟩ u4) :=
  (((KeepsOthers.setCell _ _ _).trans (KeepsOthers.setCell _ _ _)).trans (KeepsOthers.setCell _ _ _)).trans (KeepsOthers.setCell _ _ _)
theorem below_set4 {n₀ : Nat} {w W : World} {b : Nat} {u1 u2 u3 u4 : Value} (h : Below n₀ w W) (hb : n₀ ≤ b) :
    Below n₀ w ((((W.setCell ⟨b + 1, 0, none⟩ u1).setCell ⟨b + 1 + 1, 0, none⟩ u2).setCell ⟨b + 1 + 1 + 1, 0, none⟩ u3).setCell ⟨b + 1 + 1 + 1 + 1, 0, none⟩ u4) :=
  (((h.setCell (p := ⟨b + 1, 0, none⟩) (by show n₀ ≤ b + 1; omega) _).setCell (p := ⟨b + 1 + 1, 0, none⟩) (by show n₀ ≤ b + 1 + 1; omega) _).setCell (p := ⟨b + 1 + 1 + 1, 0, none⟩) (by show n₀ ≤ b + 1 + 1 + 1; omega) _).setCell (p := ⟨b + 1 + 1 + 1 + 1, 0, none⟩) (by show n₀ ≤ b + 1 + 1 + 1 + 1; omega) _
theorem results4 (T : Array Value) (b : Nat) (x y : Int) (u v : Bool) (W : World) (h : B4 W b x y u v) (h4 : T[4]?.getD undef = .pointer (some ⟨b + 1, 0, none⟩)) (h5 : T[5]?.getD undef = .pointer (some ⟨b + 1 + 1, 0, none⟩)) (h6 : T[6]?.getD undef = .pointer (some ⟨b + 1 + 1 + 1, 0, none⟩)) (h7 : T[7]?.getD undef = .pointer (some ⟨b + 1 + 1 + 1 + 1, 0, none⟩)) :
    (results Try.f25 T).run Try.prog W = .ok (.tuple #[.int .i64 x, .int .i64 y, .bool u, .bool v]) W := by
  have c1 := h.one.cell
  have c2 := h.two.cell
  have c3 := h.three.cell
  have c4 := h.four.cell
  simp [results, Try.results25, go_sem, h4, h5, h6, h7, c1, c2, c3, c4]
def NoC (l m : List (Int × Int)) (L : List Dt) (pre : List (Px l m)) : Prop := (pre.map (fun x => x.1)).find? (cf (own l L)) = none
theorem noC_next {l m : List (Int × Int)} {L : List Dt} {pre : List (Px l m)} {x : Px l m} (h : NoC l m L pre) (hx : cf (own l L) x.1 = false) : NoC l m L (pre ++ [x]) := by
  unfold NoC at *
  rw [List.map_append]
  exact fc_next h hx
theorem others_below {W W' : World} (h : Below W.heap.size W W') : KeepsOthers W W' :=
  ⟨h.size, fun k o hk _ => (h.block k (Array.getElem?_eq_some_iff.1 hk).1).trans hk⟩
theorem ints_of {w : World} {B g n : Nat} {T : TypeId} {O : List (Int × Int)} (h : w.ownsRow B T 2 (.slice (some ⟨g, 0, none⟩) n n) n (flat O)) : Ints w g := by
  obtain ⟨h1, h2⟩ := h
  rcases h2 with ⟨e, _⟩ | ⟨g', cap, cur, e, hB, hg, hle, hcap, hsz, hcur⟩
  · cases e
  · injection e with e1 e2 e3
    injection e1 with e1
    injection e1 with e1
    subst e1 e3
    refine ⟨fun es c h => (by rw [hg] at h; cases h), fun r h => ?_⟩
    unfold World.cell? at h
    rw [hg] at h
    simp only [Option.isSome_none, Bool.false_eq_true, if_false] at h
    have hm : (Value.map r) ∈ flat O := by
      rw [← hcur]
      have h0 : cur.toList[0]? = some (.map r) := by rw [Array.getElem?_toList]; exact h
      have hl : (cur.toList.take (n * 2)) = cur.toList := List.take_of_length_le (by rw [Array.length_toList, hsz]; exact Nat.le_refl _)
      rw [hl]
      exact List.mem_of_getElem? h0
    unfold flat at hm
    rw [List.mem_flatMap] at hm
    obtain ⟨p, _, hp⟩ := hm
    simp at hp
set_option maxRecDepth 100000 in
set_option maxHeartbeats 8000000 in
theorem impl_any : Says4 25 := by
  intro a1 a2 p n1 c1 n2 c2 np cp l m L w z1 z2 z3 h1 h2 h3
  obtain ⟨W, hW, hWs, k0, k1, k2, k3, k4, hb⟩ := boxes5 w (.slice a1 n1 c1) (.slice a2 n2 c2) (.int .i64 0) (.int .i64 0) (.bool false) (.bool false) 33 3 3 4 4
  have H1 := Lib.hid (h1.below hb)
  have HH1 := Lib.hid h1
  have H2 := Lib.hid (h2.below hb)
  have H3 := Lib.hid (h3.below hb)
  have HB := Lib.hid hb
  have HK := Lib.hid (And.intro k0 (And.intro k1 (And.intro k2 (And.intro k3 k4))))
  have HE := Lib.hid (EvP.impl_any a1 a2 p n1 c1 n2 c2 np cp l m L W z1 z2 z3 H1.out H2.out H3.out)
  have f1 : W.cell? ⟨w.heap.size, 0, none⟩ = some (.slice a1 n1 c1) := by unfold World.cell?; rw [k0]; rfl
  have f2 : W.cell? ⟨w.heap.size, 1, none⟩ = some (.slice a2 n2 c2) := by unfold World.cell?; rw [k0]; rfl
  clear h1 h2 h3 hb k0 k1 k2 k3 k4
  refine (callsIn_wide (n := 8)).1 ?_
  refine callsIn_of_wp_marks Try.func25 rfl trivial ?_ rfl
  simp only [Try.ntmps25, List.size_toArray, List.length_cons, List.length_nil, Nat.reduceAdd, Nat.reduceSub, Array.replicate_succ, Array.replicate_zero, List.push_toArray, List.append_toArray, List.nil_append, List.cons_append]
  have HR0 : Hid (B4 W w.heap.size 0 0 false false) := ⟨HK.out.2.1, HK.out.2.2.1, HK.out.2.2.2.1, HK.out.2.2.2.2⟩
  cases hev : evP l m L with
  | false =>
    have HF := Lib.hid (fcP_no hev)
    rw [hev] at HE
    clear hev
    gi_upto_region 2 with (refine ⟨trivial, ?_⟩; gi_at_call 17; refine (callsIn_wide.2 HE.out).mono ?_; rintro e w1 ⟨rfl, b1⟩)
    have HR := Lib.hid ((HR0.out.below b1))
    have r1 := HR.out.one.cell
    have r2 := HR.out.two.cell
    have r3 := HR.out.three.cell
    have r4 := HR.out.four.cell
    have r5 := HR.out.one.frozen
    have r6 := HR.out.two.frozen
    have r7 := HR.out.three.frozen
    have r8 := HR.out.four.frozen
    have HB1 := Lib.hid (HB.out.trans (b1.mono HB.out.size))
    clear b1
    gi_wp2
    refine ⟨_, results4 _ w.heap.size 0 0 false false _ HR.out.set rfl rfl rfl rfl, ?_⟩
    rw [HF.out]
    exact ⟨rfl, below_set4 HB1.out (Nat.le_refl _)⟩
  | true =>
    have HF := Lib.hid (fcP_yes hev)
    obtain ⟨hg, hevi⟩ := ev_parts hev
    have HG := Lib.hid hg
    have HEV := Lib.hid hevi
    have hl10 : l.length ≤ 10 := (Table.good_few hg).1
    have hn10 : n1 ≤ 10 := by rw [← H1.out.1]; exact hl10
    rw [hev] at HE
    clear hev hg hevi
    gi_upto_region 3 with (refine ⟨trivial, ?_⟩; gi_at_call 17; refine (callsIn_wide.2 HE.out).mono ?_; rintro e w1 ⟨rfl, b1⟩)
    have HR1 := Lib.hid (HR0.out.below b1)
    have g1 := (b1.cell (p := ⟨w.heap.size, 0, none⟩) (by show w.heap.size < _; omega)).trans f1
    have g2 := (b1.cell (p := ⟨w.heap.size, 1, none⟩) (by show w.heap.size < _; omega)).trans f2
    have HB1 := Lib.hid (HB.out.trans (b1.mono HB.out.size))
    have H11 := Lib.hid (H1.out.below b1)
    have H12 := Lib.hid (H2.out.below b1)
    have H13 := Lib.hid (H3.out.below b1)
    have hs1 := b1.size
    have HI := Lib.hid (intervalsOf_any a1 a2 p n1 c1 n2 c2 np cp l L w1 hn10 z3 H11.out (good_asc HG.out).1 H13.out HEV.out)
    clear b1 f1 f2 HE
    gi_upto_region 4 with (refine ⟨trivial, ?_⟩; gi_at_call 63; refine (callsIn_wide.2 HI.out).mono ?_; rintro e w2 ⟨g, rfl, hO⟩)
    have hgs : w1.heap.size ≤ g := hO.1
    have hgl : g < w2.heap.size := (hO.2.1.lt g rfl).2
    have hs2 : w1.heap.size ≤ w2.heap.size := by omega
    have b2 : Below w1.heap.size w1 w2 := hO.2.2
    have ba := below_alloc w2 (.cells #[.slice (some ⟨g, 0, none⟩) n1 n1] 48)
    have b2a := b2.trans (ba.mono hs2)
    have HO2 := Lib.hid (hO.below ba)
    have HBX : Hid (Boxed (w2.alloc (.cells #[.slice (some ⟨g, 0, none⟩) n1 n1] 48)) w2.heap.size 48 (.slice (some ⟨g, 0, none⟩) n1 n1)) := Boxed.new w2 _ _
    have HR2 := Lib.hid (HR1.out.below b2a)
    have y1 := (b2a.cell (p := ⟨w.heap.size, 0, none⟩) (by show w.heap.size < _; omega)).trans g1
    have y2 := (b2a.cell (p := ⟨w.heap.size, 1, none⟩) (by show w.heap.size < _; omega)).trans g2
    have HB2 := Lib.hid (HB1.out.trans (b2a.mono HB1.out.size))
    have H21 := Lib.hid (H11.out.below b2a)
    have H22 := Lib.hid (H12.out.below b2a)
    have hss : (w2.alloc (.cells #[.slice (some ⟨g, 0, none⟩) n1 n1] 48)).heap.size = w2.heap.size + 1 := by simp
    have HLP := Lib.hid (laterPairs_any a1 a2 n1 c1 n2 c2 l m _ HG.out H21.out H22.out)
    clear g1 g2 b2 ba b2a hO HI
    obtain ⟨W2, hW2⟩ : ∃ W2, w2.alloc (.cells #[.slice (some ⟨g, 0, none⟩) n1 n1] 48) = W2 := ⟨_, rfl⟩
    rw [hW2] at HO2 HBX HR2 y1 y2 HB2 H21 H22 hss HLP ⊢
    clear hW2
    gi_wp2_with (refine ⟨trivial, ?_⟩; gi_at_call 64; refine (callsIn_wide.2 HLP.out).mono ?_; rintro e w3 ⟨br, bo, bx, rfl, lr, lo, lord, lbr, lbo, lb⟩)
    have HEnv : Hid (Env w3 l m a1 n1 c1 br bo bx g) := by
      refine ⟨HG.out, lr, lo, lord, H21.out.below lb, by omega, by omega, fun hp b off e => ?_, ints_of (ownsRow_below HO2.out.2.1 lb), Nat.lt_of_lt_of_le (by omega) lb.size⟩
      rcases H11.out.2 with h | ⟨b', off', e', hb', _⟩
      · omega
      · rw [e] at e'
        injection e' with e'
        injection e' with e'
        omega
    have HB3 := Lib.hid (HB2.out.trans (lb.mono HB2.out.size))
    have HO3 := Lib.hid (HO2.out.below lb)
    have HBX3 : Hid (w3.cell? ⟨w2.heap.size, 0, none⟩ = some (.slice (some ⟨g, 0, none⟩) n1 n1)) := (lb.cell HBX.out.lt).trans HBX.out.cell
    have HR3 := Lib.hid (HR2.out.below lb)
    have HY3 : Hid (w3.cell? ⟨w.heap.size, 0, none⟩ = some (.slice a1 n1 c1)) := (lb.cell (p := ⟨w.heap.size, 0, none⟩) (by show w.heap.size < _; omega)).trans y1
    have H31 := Lib.hid (H21.out.below lb)
    have hlb := lb.size
    have HNB : Hid (∀ b off, a1 = some ⟨b, off, none⟩ → 0 < n1 → b ≤ w.heap.size ∨ w.heap.size + 1 + 3 < b) := by
      intro b off e hp
      rcases HH1.out.2 with h | ⟨b', off', e', hb', _⟩
      · omega
      · rw [e] at e'
        injection e' with e'
        injection e' with e'
        omega
    have HLT : Hid (w.heap.size + 1 + 1 + 1 + 1 < w3.heap.size ∧ w2.heap.size < w3.heap.size) := ⟨by omega, by omega⟩
    clear lr lo lord lbr lbo lb y1 y2 HLP
    refine wpIn_rangeFunc_ownF (α := Px l m) rfl (by decide) (gf := 100) (lb := #[.pointer (some ⟨br, 0, none⟩), .pointer (some ⟨bo, 0, none⟩)]) rfl trivial (enters_of Try.func100 (by kernel_rfl) rfl)
      (lp_stops 7 (by omega) l m a1 n1 c1 br bo bx g w3.heap.size w3 rfl HEnv.out) (fun h k => h.trans k) (fun W l0 o o' hl ho hc _ => kpB_b W l0 o o' hl ho hc) (Below.refl _ _) (fun _ => rfl)
      (fun pre W => NoC l m L pre ∧ Below w3.heap.size w3 W)
      (fun c pre W => c = .ret ∧ ∃ (x : Nat × Nat) (pre' : List (Nat × Nat)), pre.map (·.1) = pre' ++ [x] ∧ pre'.find? (cf (own l L)) = none ∧ cf (own l L) x = true ∧ B4 W w.heap.size (num l x.1) (num l x.2) true true ∧ Below w.heap.size w W)
      (OwnFrom.and (ownFrom_pure _ _) (ownFrom_below (Nat.le_refl _) (Nat.le_refl _))) ?ownx ⟨(rfl : NoC l m L []), Below.refl _ _⟩ ?a1 ?assign ?body ?done ?stop
    case ownx =>
      intro c pre W W' row hs hg hr
      obtain ⟨e, x, pre', h1, h2, h3, h4, h5⟩ := hs
      have hlt := HLT.out.1
      have hne : ∀ k, k < w3.heap.size → some k ≠ row := fun k hk e => by
        have := (hr k e.symm).1
        omega
      refine ⟨e, x, pre', h1, h2, h3, ⟨h4.one.kept hg (hne _ (by omega)), h4.two.kept hg (hne _ (by omega)), h4.three.kept hg (hne _ (by omega)), h4.four.kept hg (hne _ (by omega))⟩, h5.grown hg h5.size (fun k hk => ?_)⟩
      have := (hr k hk).1
      omega
    case assign =>
      intro l0 x W K hK
      gi_wp2
      exact hK
    case body =>
      rintro l0 pre x W ⟨hf, hbW⟩ _
      obtain ⟨⟨i, j⟩, hx⟩ := x
      obtain ⟨hi, hj, _⟩ := mem_prs.1 hx
      simp only at hi hj
      obtain ⟨⟨oa, ob⟩, ho1⟩ : ∃ q, (own l L)[i]? = some q := ⟨_, List.getElem?_eq_getElem (by rw [own_len]; exact hi)⟩
      obtain ⟨⟨pa, pb⟩, ho2⟩ : ∃ q, (own l L)[j]? = some q := ⟨_, List.getElem?_eq_getElem (by rw [own_len]; exact hj)⟩
      have hln : l.length = n1 := H1.out.1
      have hin : (i : Int) < (n1 : Int) := by omega
      have hjn : (j : Int) < (n1 : Int) := by omega
      have hRow := ownsRow_below HO3.out.2.1 hbW
      have v1 := hRow.cellAt (i * 2 + 1) (by omega)
      have v2 := hRow.cellAt (j * 2) (by omega)
      rw [(flat_get _ _ _ _ ho1).2] at v1
      rw [(flat_get _ _ _ _ ho2).1] at v2
      have v3 := (hbW.cell HLT.out.2).trans HBX3.out
      have v4 := (hbW.cell (p := ⟨w.heap.size, 0, none⟩) (by show w.heap.size < _; have := HLT.out.1; omega)).trans HY3.out
      have HC := Lib.hid (And.intro hbW hf)
      obtain ⟨b1', off1, x1, y1', ha1, hx1, e1, _⟩ := (H31.out.below hbW).at i (by omega)
      obtain ⟨b2', off2, x2, y2', ha2, hx2, e2, _⟩ := (H31.out.below hbW).at j (by omega)
      rw [ha1] at ha2
      injection ha2 with ha2
      injection ha2 with hb1 hb2 _
      subst hb1 hb2
      rw [ha1] at v4
      have HNB1 := Lib.hid (HNB.out _ _ ha1 (by omega))
      have HN1 : Hid (num l i = x1) := num_at hx1
      have HN2 : Hid (num l j = x2) := num_at hx2
      have hcf : cf (own l L) (i, j) = decide (ob < pa) := by unfold cf; rw [tt_at ho1, fr_at ho2]
      have HCF := Lib.hid hcf
      clear hf hRow ho1 ho2 hbW hcf hx1 hx2 ha1
      have k1 := cell_regrown v1
      have k2 := cell_regrown v2
      have k3 := cell_regrown v3
      gi_wp2
      refine region_at (l := l0) 11 (by kernel_rfl) (by kernel_rfl) ?_
      simp only [List.take_succ_cons, List.take_zero, List.drop_succ_cons, List.drop_zero]
      repeat (go_big_quiet_step (fail))
      refine wpQuiet_nil ?_
      intro _ hw'
      obtain ⟨⟨dq, osq⟩, hw''⟩ := hw'
      subst hw''
      have HBQ := Lib.hid (below_regrown W dq osq)
      have u1 := k1 dq osq
      have m4 := cell_regrown v4 dq osq
      have m5 := cell_regrown e1 dq osq
      have m6 := cell_regrown e2 dq osq
      generalize Sort.grow (redrawn W dq) osq = W5 at *
      clear k1 k2 k3 v1 v2 v3 v4 e1 e2 u1
      by_cases hlt : ob < pa
      · rw [decide_eq_true hlt] at HCF
        have HHC := Lib.hid HCF.out
        gi_wp2
        have hbw := HLT.out.1
        have k4 := optW_cell (b := w.heap.size) m4 (by omega)
        have k5 := optW_cell (b := w.heap.size) m5 HNB1.out
        have k6 := optW_cell (b := w.heap.size) m6 HNB1.out
        clear m4 m5 m6
        refine region_held (l := l0) 12 (fun w' => ∃ q : Gw, w' = optW W5 w.heap.size q) (by kernel_rfl) (by kernel_rfl) (fun _ _ _ _ h => h) ⟨⟨W5.drawn + 1, #[], []⟩, by unfold optW puts; rw [Sort.grow_empty]; rfl⟩ ?_
        simp only [List.take_succ_cons, List.take_zero, List.drop_succ_cons, List.drop_zero]
        repeat (go_big_quiet_step (fail))
        refine wpQuiet_nil ?_
        rintro _ ⟨⟨dq2, osq2, s⟩, rfl⟩
        have HB5 : Hid (Below w3.heap.size w3 W5) := HC.out.1.trans (HBQ.out.mono HC.out.1.size)
        have hq := below_regrown W5 dq2 osq2
        have hB6 := HB5.out.trans (hq.mono HB5.out.size)
        have HBW6 : Hid (Below w.heap.size w (optW W5 w.heap.size ⟨dq2, osq2, s⟩)) := puts_below (Nat.le_refl _) _ _ (HB3.out.trans (hB6.mono HB3.out.size))
        have HKO : Hid (KeepsOthers W (optW W5 w.heap.size ⟨dq2, osq2, s⟩)) := puts_others _ _ ((others_below HBQ.out).trans (others_below hq))
        obtain ⟨x1', x2', x3', x4', hR6⟩ : ∃ x1 x2 x3 x4, B4v (optW W5 w.heap.size ⟨dq2, osq2, s⟩) w.heap.size x1 x2 x3 x4 := puts_b4 s _ _ _ _ _ (HR3.out.below hB6)
        have r1 := hR6.one.cell
        have r2 := hR6.two.cell
        have r3 := hR6.three.cell
        have r4 := hR6.four.cell
        have r5 := hR6.one.frozen
        have r6 := hR6.two.frozen
        have r7 := hR6.three.frozen
        have r8 := hR6.four.frozen
        have HR6 := Lib.hid hR6
        clear hR6 hB6 hq
        refine rowH_step (by rfl) ?_
        gi_wp2
        refine ⟨⟨⟨dq2, osq2, s ++ [(0, .int .i64 x1)]⟩, by rw [put_one 0]; rfl⟩, ?_⟩
        refine rowH_step (by rfl) ?_
        gi_wp2
        refine ⟨⟨⟨dq2, osq2, s ++ [(0, .int .i64 x1)] ++ [(1, .int .i64 x2)]⟩, by rw [put_one 1, put_one 0]; rfl⟩, ?_⟩
        refine rowH_step (by rfl) ?_
        gi_wp2
        refine ⟨⟨⟨dq2, osq2, s ++ [(0, .int .i64 x1)] ++ [(1, .int .i64 x2)] ++ [(2, .bool true)]⟩, by rw [put_one 2, put_one 1, put_one 0]; rfl⟩, ?_⟩
        refine rowH_step (by rfl) ?_
        gi_wp2
        refine ⟨⟨⟨dq2, osq2, s ++ [(0, .int .i64 x1)] ++ [(1, .int .i64 x2)] ++ [(2, .bool true)] ++ [(3, .bool true)]⟩, by rw [put_one 3, put_one 2, put_one 1, put_one 0]; rfl⟩, ?_⟩
        refine rowH_nil ?_
        gi_wp2
        refine ⟨((((HKO.out.trans (KeepsOthers.setCell _ _ _)).trans (KeepsOthers.setCell _ _ _)).trans (KeepsOthers.setCell _ _ _)).trans (KeepsOthers.setCell _ _ _)), rfl, (i, j), pre.map (fun x => x.1), by rw [List.map_append]; rfl, (by have h9 := HC.out.2; unfold NoC at h9; exact h9), HHC.out, ?_, below_set4 HBW6.out (Nat.le_refl _)⟩
        rw [show num l (i, j).1 = x1 from HN1.out, show num l (i, j).2 = x2 from HN2.out]
        exact HR6.out.set
      · rw [decide_eq_false hlt] at HCF
        gi_wp2
        exact ⟨others_below HBQ.out, KpB.of_below HBQ.out, noC_next HC.out.2 HCF.out, HC.out.1.trans (HBQ.out.mono HC.out.1.size)⟩
    case done =>
      rintro D xs W hD hS ⟨hf, hbW⟩ hK
      have HRW := Lib.hid (HR3.out.below hbW)
      have r1 := HRW.out.one.cell
      have r2 := HRW.out.two.cell
      have r3 := HRW.out.three.cell
      have r4 := HRW.out.four.cell
      have r5 := HRW.out.one.frozen
      have r6 := HRW.out.two.frozen
      have r7 := HRW.out.three.frozen
      have r8 := HRW.out.four.frozen
      have HQ := Lib.hid (And.intro hf (And.intro (HB3.out.trans (hbW.mono HB3.out.size)) (And.intro hK (And.intro hD hS))))
      clear hf hbW hK hS
      gi_wp2
      have hlt := HLT.out.1
      have hK4 := (others4 W w.heap.size (.int .i64 0) (.int .i64 0) (.bool false) (.bool true)).same D _ HQ.out.2.2.1 rfl
      refine ⟨by simp, .inl ⟨_, _, rfl, run_takeDeferred hK4, ?_⟩⟩
      refine ⟨_, results4 _ w.heap.size 0 0 false true _ (B4v.putObj HRW.out.set (by omega) _) rfl rfl rfl rfl, ?_⟩
      have hn : fc l m L = none := by
        have h9 := HQ.out.1
        unfold NoC at h9
        rw [HQ.out.2.2.2.2] at h9
        exact h9
      rw [HF.out, hn]
      exact ⟨rfl, (below_set4 HQ.out.2.1 (Nat.le_refl _)).trans (belowK_b (w := w) (Nat.le_refl _) _ D _ _ (by omega) hK4 rfl rfl)⟩
    case stop =>
      rintro D c pre W hD hS ⟨rfl, x, pre', hpre, hf, hc, hR, hbW⟩ hK
      have HQ := Lib.hid (And.intro hbW (And.intro hK hR))
      have hfc : fc l m L = some x := by
        rw [hpre] at hS
        exact fc_hit hS hf hc
      have HFC := Lib.hid hfc
      clear hbW hK hR hpre hf hc hS hfc
      gi_wp2
      have hlt := HLT.out.1
      refine ⟨by simp, .inl ⟨_, _, rfl, run_takeDeferred HQ.out.2.1, ?_⟩⟩
      refine ⟨_, results4 _ w.heap.size _ _ true true _ (B4v.putObj HQ.out.2.2 (by omega) _) rfl rfl rfl rfl, ?_⟩
      rw [HF.out, HFC.out]
      exact ⟨rfl, HQ.out.1.trans (belowK_b (w := w) (Nat.le_refl _) _ D _ _ (by omega) HQ.out.2.1 rfl rfl)⟩
end Go.Proofs.Ytmjhgjlnpnkmkaa.FcI

namespace Go.Proofs.Ytmjhgjlnpnkmkaa.ApM
open Go.RowKit Pairs Find2 GoodM Chain Da EvM IvM LpM FcM
def dt (ds : List Int) (i : Nat) : Int := ds[i]?.getD 0
theorem dt_at {ds : List Int} {i : Nat} {x : Int} (h : ds[i]? = some x) : dt ds i = x := by unfold dt; rw [h]; rfl
def inn (O : List (Int × Int)) (ds : List Int) (i : Nat) : Bool := decide (fr O i ≤ dt ds i) && decide (dt ds i ≤ tt O i)
def okd (ds : List Int) (x : Nat × Nat) : Bool := !decide (dt ds x.1 < dt ds x.2)
noncomputable def poss (l m : List (Int × Int)) (L : List Dt) (ds : List Int) : Bool := (List.range l.length).all (inn (own l L) ds) && (prs l m).all (okd ds)
def areD (l : List (Int × Int)) (ds : List Int) : Bool := (ds.length == l.length) && !ds.any (fun y => !yr y)
noncomputable def apP (l m : List (Int × Int)) (L : List Dt) (ds : List Int) : Bool × Bool := if (evP l m L && areD l ds) = true then (poss l m L ds, true) else (false, false)
theorem apP_ev {l m : List (Int × Int)} {L : List Dt} {ds : List Int} (h : evP l m L = false) : apP l m L ds = (false, false) := by unfold apP; rw [h]; rfl
theorem apP_da {l m : List (Int × Int)} {L : List Dt} {ds : List Int} (h : areD l ds = false) : apP l m L ds = (false, false) := by unfold apP; rw [h, Bool.and_false]; rfl
theorem apP_ok {l m : List (Int × Int)} {L : List Dt} {ds : List Int} (h : evP l m L = true) (h2 : areD l ds = true) : apP l m L ds = (poss l m L ds, true) := by unfold apP; rw [h, h2]; rfl
theorem areD_len {l : List (Int × Int)} {ds : List Int} (h : ds.length ≠ l.length) : areD l ds = false := by
  unfold areD
  have : (ds.length == l.length) = false := by simp [h]
  rw [this]; rfl
theorem areD_yr {l : List (Int × Int)} {ds : List Int} {i : Nat} {x : Int} (h : ds[i]? = some x) (hy : yr x = false) : areD l ds = false := by
  unfold areD
  have : ds.any (fun y => !yr y) = true := List.any_eq_true.2 ⟨x, List.mem_of_getElem? h, by simp [hy]⟩
  rw [this, Bool.not_true, Bool.and_false]
theorem areD_all {l : List (Int × Int)} {ds : List Int} (hl : ds.length = l.length) (h : ∀ j x, j < ds.length → ds[j]? = some x → yr x = true) : areD l ds = true := by
  unfold areD
  have e : ds.any (fun y => !yr y) = false := by
    rw [List.any_eq_false]
    intro x hx
    obtain ⟨j, hj, e⟩ := List.mem_iff_getElem.1 hx
    rw [h j x hj (by rw [List.getElem?_eq_getElem hj, e])]
    simp
  rw [e]
  simp [hl]
noncomputable def psO (l m : List (Int × Int)) (L : List Dt) (ds : List Int) (i : Nat) : Bool := (List.range i).all (inn (own l L) ds) && (upto l m i 0).all (okd ds)
noncomputable def psI (l m : List (Int × Int)) (L : List Dt) (ds : List Int) (i j : Nat) : Bool := (List.range (i + 1)).all (inn (own l L) ds) && (upto l m i j).all (okd ds)
theorem psO_zero (l m : List (Int × Int)) (L : List Dt) (ds : List Int) : psO l m L ds 0 = true := rfl
theorem psI_zero (l m : List (Int × Int)) (L : List Dt) (ds : List Int) (i : Nat) : psI l m L ds i 0 = (psO l m L ds i && inn (own l L) ds i) := by
  unfold psI psO
  rw [List.range_succ, List.all_append]
  simp only [List.all_cons, List.all_nil, Bool.and_true]
  cases (List.range i).all (inn (own l L) ds) <;> cases inn (own l L) ds i <;> simp
theorem psI_hit {l m : List (Int × Int)} {L : List Dt} {ds : List Int} {i j : Nat} (h : lt l m i j = true) : psI l m L ds i (j + 1) = (psI l m L ds i j && okd ds (i, j)) := by
  unfold psI
  rw [upto_hit h, List.all_append]
  simp only [List.all_cons, List.all_nil, Bool.and_true, Bool.and_assoc]
theorem psI_miss {l m : List (Int × Int)} {L : List Dt} {ds : List Int} {i j : Nat} (h : lt l m i j = false) : psI l m L ds i (j + 1) = psI l m L ds i j := by
  unfold psI
  rw [upto_miss h]
theorem psI_end (l m : List (Int × Int)) (L : List Dt) (ds : List Int) (i : Nat) : psI l m L ds i l.length = psO l m L ds (i + 1) := by
  unfold psI psO
  rw [upto_next]
theorem psO_end (l m : List (Int × Int)) (L : List Dt) (ds : List Int) : psO l m L ds l.length = poss l m L ds := by
  unfold psO poss
  rw [upto_all]
theorem inn_at {O : List (Int × Int)} {ds : List Int} {i : Nat} {x y z : Int} (h : O[i]? = some (x, y)) (hz : ds[i]? = some z) : inn O ds i = (decide (x ≤ z) && decide (z ≤ y)) := by
  unfold inn; rw [fr_at h, tt_at h, dt_at hz]
theorem okd_at {ds : List Int} {i j : Nat} {x y : Int} (h : ds[i]? = some x) (h2 : ds[j]? = some y) : okd ds (i, j) = !decide (x < y) := by
  unfold okd; rw [dt_at h, dt_at h2]
theorem poss_in {l m : List (Int × Int)} {L : List Dt} {ds : List Int} {i : Nat} (hi : i < l.length) (h : inn (own l L) ds i = false) : poss l m L ds = false := by
  unfold poss
  have e : (List.range l.length).all (inn (own l L) ds) = false := List.all_eq_false.2 ⟨i, List.mem_range.2 hi, by rw [h]; simp⟩
  rw [e]; rfl
theorem poss_ok {l m : List (Int × Int)} {L : List Dt} {ds : List Int} {x : Nat × Nat} (hx : x ∈ prs l m) (h : okd ds x = false) : poss l m L ds = false := by
  unfold poss
  have e : (prs l m).all (okd ds) = false := List.all_eq_false.2 ⟨x, hx, by rw [h]; simp⟩
  rw [e, Bool.and_false]
theorem poss_all {l m : List (Int × Int)} {L : List Dt} {ds : List Int} (h1 : (List.range l.length).all (inn (own l L) ds) = true) (h2 : (prs l m).all (okd ds) = true) : poss l m L ds = true := by
  unfold poss
  rw [h1, h2]; rfl
end Go.Proofs.Ytmjhgjlnpnkmkaa.ApM

namespace Go.Proofs.Ytmjhgjlnpnkmkaa.ApS
open Go.RowKit Pairs Rec RecEq Chain Find2 GoodM Keep GivesI Da DaT DaG EvM IvM LpM FcM ApM IvS Lows Order Bit Table Idx That IsLater Consist
set_option linter.unusedVariables false
def SaysA (f : FuncId) : Prop := ∀ (a1 a2 p r : Option Addr) (n1 c1 n2 c2 np cp nr cr : Nat) (l m : List (Int × Int)) (L : List Dt) (ds : List Int) (w : World), n1 ≤ 1048576 → n2 ≤ 1048576 → np ≤ 1048576 → nr ≤ 1048576 → Holds w a1 n1 l → Holds w a2 n2 m → HoldsD w p np L → HoldsI w r nr ds →
    Calls Try.prog f #[.agg #[.slice a1 n1 c1, .slice a2 n2 c2], .slice p np cp, .slice r nr cr] w fun e w' => e = .returned (.tuple #[.bool (apP l m L ds).1, .bool (apP l m L ds).2]) ∧ Below w.heap.size w w'
theorem l1In_is (x a b : Int) (w : World) : Calls Try.prog 60 #[.int .i64 x, .int .i64 a, .int .i64 b] w fun e w' => e = .returned (.bool (decide (a ≤ x) && decide (x ≤ b))) ∧ Below w.heap.size w w' := by
  by_cases h : a ≤ x ∧ x ≤ b
  · refine (Good2.l1In_true x a b h.1 h.2 w).mono ?_
    rintro e w' ⟨rfl, rfl⟩
    exact ⟨by rw [decide_eq_true h.1, decide_eq_true h.2]; rfl, Below.refl _ _⟩
  · refine (Good2.l1In_false x a b h w).mono ?_
    rintro e w' ⟨rfl, rfl⟩
    refine ⟨?_, Below.refl _ _⟩
    have e : (decide (a ≤ x) && decide (x ≤ b)) = false := by rw [Bool.and_eq_false_iff, decide_eq_false_iff_not, decide_eq_false_iff_not]; omega
    rw [e]
set_option maxRecDepth 100000 in
set_option maxHeartbeats 8000000 in
theorem spec_any : SaysA 20 := by
  intro a1 a2 p r n1 c1 n2 c2 np cp nr cr l m L ds w z1 z2 z3 z4 h1 h2 h3 h4
  obtain ⟨W, hW⟩ : ∃ W, w.alloc (.cells #[.slice a1 n1 c1, .slice a2 n2 c2] 33) = W := ⟨_, rfl⟩
  have hb : Below w.heap.size w W := by rw [← hW]; exact below_alloc w _
  have hf : W.cell? ⟨w.heap.size, 0, none⟩ = some (.slice a1 n1 c1) := by rw [← hW]; exact box_first w _ _ _
  have hf2 : W.cell? ⟨w.heap.size, 1, none⟩ = some (.slice a2 n2 c2) := by rw [← hW]; exact box_second w _ _ _
  have H1 := Lib.hid (h1.below hb)
  have H2 := Lib.hid (h2.below hb)
  have H3 := Lib.hid (h3.below hb)
  have H4 := Lib.hid (h4.below hb)
  have HB := Lib.hid hb
  have HL1 := Lib.hid h1.1
  have HLD := Lib.hid h4.1
  clear h1 h2 h3 h4 hb
  go_enter Try.func20, Try.ntmps20
  go_wp2_with fail
  clear hW
  refine (EvS.l9Good_any a1 a2 p n1 c1 n2 c2 np cp l m L W z1 z2 z3 H1.out H2.out H3.out).mono ?_
  rintro e w1 ⟨rfl, b1⟩
  have r1 := (b1.cell (World.block_lt_of_cell? W _ hf)).trans hf
  have r2 := (b1.cell (World.block_lt_of_cell? W _ hf2)).trans hf2
  have HB1 := Lib.hid (HB.out.trans (b1.mono HB.out.size))
  have K1 := Lib.hid (H1.out.below b1)
  have K2 := Lib.hid (H2.out.below b1)
  have K3 := Lib.hid (H3.out.below b1)
  have K4 := Lib.hid (H4.out.below b1)
  clear b1 hf hf2 H1 H2 H3 H4
  cases hev : evP l m L with
  | false =>
    have HF := Lib.hid (apP_ev (ds := ds) hev)
    clear hev
    go_wp2_with fail
    go_ret2
    exact ⟨by rw [HF.out]; rfl, HB1.out⟩
  | true =>
    by_cases hnr : nr = n1
    · subst hnr
      have hev2 := Lib.hid hev
      obtain ⟨hg, hevi⟩ := ev_parts hev
      have HG := Lib.hid hg
      have HEV := Lib.hid hevi
      have hn10 : nr ≤ 10 := by rw [← HL1.out]; exact (Table.good_few hg).1
      have HLO : Hid ((own l L).length = nr) := by unfold Hid; rw [own_len, HL1.out]
      clear hev hg hevi
      go_wp2_with fail
      refine (l9Own_any a1 a2 p nr c1 n2 c2 np cp l L w1 hn10 z3 K1.out K3.out HEV.out).mono ?_
      rintro e w2 ⟨p', d, rfl, hown, b2⟩
      rw [HLO.out]
      rw [HLO.out] at hown
      have HO := Lib.hid (Keep.holds_own hown)
      have s1 := (b2.cell (World.block_lt_of_cell? w1 _ r1)).trans r1
      have s2 := (b2.cell (World.block_lt_of_cell? w1 _ r2)).trans r2
      have HB2 := Lib.hid (HB1.out.trans (b2.mono HB1.out.size))
      have J1 := Lib.hid (K1.out.below b2)
      have J2 := Lib.hid (K2.out.below b2)
      have J4 := Lib.hid (K4.out.below b2)
      clear b2 hown r1 r2 K1 K2 K3 K4
      go_wp2_with fail
      refine (later_any a1 a2 nr c1 n2 c2 l m w2 HG.out J1.out J2.out).mono ?_
      rintro e w3 ⟨g, T, rfl, hge, hT, TT, b3⟩
      have HB3 := Lib.hid (HB2.out.trans (b3.mono HB2.out.size))
      have M1 := Lib.hid (J1.out.below b3)
      have M4 := Lib.hid (J4.out.below b3)
      have MO := Lib.hid (HO.out.below b3)
      have HT := Lib.hid TT
      have HTT := Lib.hid hT
      clear b3 s1 s2 J1 J2 J4 HO hT TT hge
      go_wp2_with fail
      go_loopw [10, 11] (fun s10 s11 wr => ∃ (i : Nat) (pb : Bool), i ≤ nr ∧ s10 = .bool pb ∧ s11 = .int .i64 i ∧ Hid (psO l m L ds i = pb ∧ (∀ j x, j < i → ds[j]? = some x → yr x = true) ∧ Below w3.heap.size w3 wr)) (fun _ s11 _ => nr - (intOf s11).toNat)
      case atStart => exact ⟨0, true, Nat.zero_le _, rfl, rfl, rfl, fun j x hj _ => absurd hj (by omega), Below.refl _ _⟩
      case round =>
        obtain ⟨i, pb, hi, rfl, rfl, HR⟩ := hrel
        obtain ⟨wo, rfl⟩ : ∃ z, z = wr := ⟨wr, rfl⟩
        by_cases hlt : i < nr
        · have hin : (i : Int) < (nr : Int) := by omega
          have hi0 : (0 : Int) ≤ (i : Int) := by omega
          obtain ⟨bd1, od1, dv, rfl, hdv, g0⟩ := (M4.out.below HR.out.2.2).at i hlt
          obtain ⟨b3, o3, f1, t1, rfl, ho1, g1, g2⟩ := (MO.out.below HR.out.2.2).at i hlt
          have HDV := Lib.hid hdv
          have HINN := Lib.hid (inn_at ho1 hdv)
          clear hdv ho1
          go_wp2_with fail
          refine (EvS.l9Year_any dv _).mono ?_
          rintro e w5 ⟨rfl, rfl⟩
          cases hy : yr dv with
          | false =>
            have HF := Lib.hid (apP_da (m := m) (L := L) (areD_yr (l := l) HDV.out hy))
            have HQ := Lib.hid HR.out.2.2
            clear hy HR
            go_wp2_with fail
            go_ret2
            exact ⟨by rw [HF.out]; rfl, HB3.out.trans (HQ.out.mono HB3.out.size)⟩
          | true =>
            have HYS : Hid (∀ j x, j < i + 1 → ds[j]? = some x → yr x = true) := fun j x hj hx => by
              by_cases e : j = i
              · subst e
                have := HDV.out
                rw [hx] at this
                injection this with this
                rw [this]
                exact hy
              · exact HR.out.2.1 j x (by omega) hx
            have k1 := cell_regrown g0
            have k2 := cell_regrown g1
            have k3 := cell_regrown g2
            have HP0 := Lib.hid HR.out.1
            have HBW := Lib.hid HR.out.2.2
            clear hy HR
            cases pb with
            | false =>
              have HI0 : Hid (psI l m L ds i 0 = false) := by unfold Hid; rw [psI_zero, HP0.out]; rfl
              go_wp2_with fail
              refine wp_region_quiet_below (by kernel_rfl) (by kernel_rfl) ?_
              repeat (go_big_quiet_step (fail))
              refine wpQuiet_nil ?_
              intro _ hw'
              obtain ⟨⟨dq, osq⟩, hw''⟩ := hw'
              subst hw''
              have hbq := below_regrown wo dq osq
              have HST := Lib.hid (And.intro HI0.out (HBW.out.trans (hbq.mono HBW.out.size)))
              clear k1 k2 k3 hbq g0 g1 g2
              generalize Sort.grow (redrawn wo dq) osq = W5 at *
              go_wp2_with fail
              go_loopw [10, 12] (fun s10 s12 wi => ∃ (j : Nat) (pb : Bool), j ≤ nr ∧ s10 = .bool pb ∧ s12 = .int .i64 j ∧ Hid (psI l m L ds i j = pb ∧ Below w3.heap.size w3 wi)) (fun _ s12 _ => nr - (intOf s12).toNat)
              case atStart => exact ⟨0, _, Nat.zero_le _, rfl, rfl, HST.out⟩
              case round =>
                clear HST
                obtain ⟨j, pc, hj, rfl, rfl, HI⟩ := hrel
                by_cases hlj : j < nr
                · have hjn : (j : Int) < (nr : Int) := by omega
                  have hj0 : (0 : Int) ≤ (j : Int) := by omega
                  obtain ⟨bb, off, z, hp, hz, e1⟩ := (HTT.out.below HI.out.2).at i hlt
                  obtain ⟨x, hx, rfl⟩ := row_at hz
                  injection hp with hp
                  injection hp with hp1 hp2
                  subst hp1 hp2
                  rw [Nat.zero_add] at e1
                  obtain ⟨b1, o1, x1, y1, -, hx1, -, -⟩ := (M1.out.below HI.out.2).at i hlt
                  obtain ⟨b1', o1', x2, y2, -, hx2, -, -⟩ := (M1.out.below HI.out.2).at j hlj
                  obtain ⟨b4, o4, d1, hp4, hd1, g1⟩ := (M4.out.below HI.out.2).at i hlt
                  injection hp4 with hp4
                  injection hp4 with hp1 hp2
                  subst hp1 hp2
                  obtain ⟨b5, o5, d2, hp5, hd2, g2⟩ := (M4.out.below HI.out.2).at j hlj
                  injection hp5 with hp5
                  injection hp5 with hp1 hp2
                  subst hp1 hp2
                  have hx10 := bd hn10 (HT.out.bd i x hx)
                  have HXB : Hid (x.testBit j = lt l m i j) := by
                    unfold Hid lt
                    rw [LpM.num_at hx1, LpM.num_at hx2]
                    exact tbit HG.out HL1.out HT.out (Consist.num_at HG.out hx1) (Consist.num_at HG.out hx2) hx
                  have HOK := Lib.hid (okd_at hd1 hd2)
                  have k1 := cell_regrown e1
                  have k2 := cell_regrown g1
                  have k3 := cell_regrown g2
                  have cU : ∀ d os, Calls Try.prog 61 #[.int .i64 x, .int .i64 j] (Sort.grow (redrawn wr d) os) fun e w'' => e = .returned (.bool (lt l m i j)) ∧ ∃ p : Regrown, w'' = Sort.grow (redrawn wr p.d) p.os := fun d os => Calls.regrown_of (by
                    refine (l4Bit_any x j hx10 (by omega) _).mono ?_
                    rintro e w' ⟨rfl, rfl⟩
                    exact ⟨by rw [HXB.out], Below.refl _ _⟩)
                  clear hx hz hx1 hx2 hd1 hd2
                  cases hlt2 : lt l m i j with
                  | false =>
                    have HN : Hid (psI l m L ds i (j + 1) = pc) := by unfold Hid; rw [psI_miss hlt2]; exact HI.out.1
                    rw [hlt2] at cU
                    clear hlt2
                    go_wp2_with fail
                    refine wp_region_quiet_below (by kernel_rfl) (by kernel_rfl) ?_
                    repeat (go_big_quiet_step ((go_at_call 61; exact cU _ _)))
                    refine wpQuiet_nil ?_
                    intro _ hw'
                    obtain ⟨⟨dq, osq⟩, hw''⟩ := hw'
                    subst hw''
                    have hbq := below_regrown wr dq osq
                    have HQ := Lib.hid (And.intro HN.out (HI.out.2.trans (hbq.mono HI.out.2.size)))
                    clear k1 k2 k3 cU e1 g1 g2 hbq
                    generalize Sort.grow (redrawn wr dq) osq = W6 at *
                    go_wp2_with fail
                    exact ⟨⟨j + 1, pc, by omega, rfl, by go_num, HQ⟩, by simp [intOf]; omega⟩
                  | true =>
                    rw [hlt2] at cU
                    have HUP := Lib.hid (psI_hit (L := L) (ds := ds) hlt2)
                    clear hlt2
                    by_cases hc : d1 < d2
                    · have hcd : decide (d1 < d2) = true := by simp [hc]
                      have HN : Hid (psI l m L ds i (j + 1) = false) := by unfold Hid; rw [HUP.out, HOK.out, hcd, Bool.not_true, Bool.and_false]
                      go_wp2_with fail
                      refine wp_region_quiet_below (by kernel_rfl) (by kernel_rfl) ?_
                      repeat (go_big_quiet_step ((go_at_call 61; exact cU _ _)))
                      refine wpQuiet_nil ?_
                      intro _ hw'
                      obtain ⟨⟨dq, osq⟩, hw''⟩ := hw'
                      subst hw''
                      have hbq := below_regrown wr dq osq
                      have HQ := Lib.hid (And.intro HN.out (HI.out.2.trans (hbq.mono HI.out.2.size)))
                      clear k1 k2 k3 cU e1 g1 g2 hbq
                      generalize Sort.grow (redrawn wr dq) osq = W6 at *
                      go_wp2_with fail
                      exact ⟨⟨j + 1, false, by omega, rfl, by go_num, HQ⟩, by simp [intOf]; omega⟩
                    · have hcd : decide (d1 < d2) = false := by simp [hc]
                      have HN : Hid (psI l m L ds i (j + 1) = pc) := by unfold Hid; rw [HUP.out, HOK.out, hcd, Bool.not_false, Bool.and_true]; exact HI.out.1
                      go_wp2_with fail
                      refine wp_region_quiet_below (by kernel_rfl) (by kernel_rfl) ?_
                      repeat (go_big_quiet_step ((go_at_call 61; exact cU _ _)))
                      refine wpQuiet_nil ?_
                      intro _ hw'
                      obtain ⟨⟨dq, osq⟩, hw''⟩ := hw'
                      subst hw''
                      have hbq := below_regrown wr dq osq
                      have HQ := Lib.hid (And.intro HN.out (HI.out.2.trans (hbq.mono HI.out.2.size)))
                      clear k1 k2 k3 cU e1 g1 g2 hbq
                      generalize Sort.grow (redrawn wr dq) osq = W6 at *
                      go_wp2_with fail
                      exact ⟨⟨j + 1, pc, by omega, rfl, by go_num, HQ⟩, by simp [intOf]; omega⟩
                · obtain rfl : j = nr := by omega
                  have hjj : ¬ (j : Int) < (j : Int) := by omega
                  have HQ : Hid (psO l m L ds (i + 1) = pc ∧ (∀ j x, j < i + 1 → ds[j]? = some x → yr x = true) ∧ Below w3.heap.size w3 wr) := by
                    refine ⟨?_, HYS.out, HI.out.2⟩
                    rw [← psI_end, HL1.out]
                    exact HI.out.1
                  clear HI HYS
                  go_wp2_with fail
                  exact ⟨⟨i + 1, pc, by omega, rfl, by go_num, HQ⟩, by simp [intOf]; omega⟩
            | true =>
              obtain ⟨q, hq⟩ : ∃ q, (decide (f1 ≤ dv) && decide (dv ≤ t1)) = q := ⟨_, rfl⟩
              have HI0 : Hid (psI l m L ds i 0 = q) := by unfold Hid; rw [psI_zero, HP0.out, HINN.out, hq]; rfl
              have cV : ∀ d os, Calls Try.prog 60 #[.int .i64 dv, .int .i64 f1, .int .i64 t1] (Sort.grow (redrawn wo d) os) fun e w'' => e = .returned (.bool q) ∧ ∃ p : Regrown, w'' = Sort.grow (redrawn wo p.d) p.os := fun d os => Calls.regrown_of (by rw [← hq]; exact l1In_is dv f1 t1 _)
              clear hq
              go_wp2_with fail
              refine wp_region_quiet_below (by kernel_rfl) (by kernel_rfl) ?_
              repeat (go_big_quiet_step ((go_at_call 60; exact cV _ _)))
              refine wpQuiet_nil ?_
              intro _ hw'
              obtain ⟨⟨dq, osq⟩, hw''⟩ := hw'
              subst hw''
              have hbq := below_regrown wo dq osq
              have HST := Lib.hid (And.intro HI0.out (HBW.out.trans (hbq.mono HBW.out.size)))
              clear k1 k2 k3 hbq g0 g1 g2 cV
              generalize Sort.grow (redrawn wo dq) osq = W5 at *
              go_wp2_with fail
              go_loopw [10, 12] (fun s10 s12 wi => ∃ (j : Nat) (pb : Bool), j ≤ nr ∧ s10 = .bool pb ∧ s12 = .int .i64 j ∧ Hid (psI l m L ds i j = pb ∧ Below w3.heap.size w3 wi)) (fun _ s12 _ => nr - (intOf s12).toNat)
              case atStart => exact ⟨0, _, Nat.zero_le _, rfl, rfl, HST.out⟩
              case round =>
                clear HST
                obtain ⟨j, pc, hj, rfl, rfl, HI⟩ := hrel
                by_cases hlj : j < nr
                · have hjn : (j : Int) < (nr : Int) := by omega
                  have hj0 : (0 : Int) ≤ (j : Int) := by omega
                  obtain ⟨bb, off, z, hp, hz, e1⟩ := (HTT.out.below HI.out.2).at i hlt
                  obtain ⟨x, hx, rfl⟩ := row_at hz
                  injection hp with hp
                  injection hp with hp1 hp2
                  subst hp1 hp2
                  rw [Nat.zero_add] at e1
                  obtain ⟨b1, o1, x1, y1, -, hx1, -, -⟩ := (M1.out.below HI.out.2).at i hlt
                  obtain ⟨b1', o1', x2, y2, -, hx2, -, -⟩ := (M1.out.below HI.out.2).at j hlj
                  obtain ⟨b4, o4, d1, hp4, hd1, g1⟩ := (M4.out.below HI.out.2).at i hlt
                  injection hp4 with hp4
                  injection hp4 with hp1 hp2
                  subst hp1 hp2
                  obtain ⟨b5, o5, d2, hp5, hd2, g2⟩ := (M4.out.below HI.out.2).at j hlj
                  injection hp5 with hp5
                  injection hp5 with hp1 hp2
                  subst hp1 hp2
                  have hx10 := bd hn10 (HT.out.bd i x hx)
                  have HXB : Hid (x.testBit j = lt l m i j) := by
                    unfold Hid lt
                    rw [LpM.num_at hx1, LpM.num_at hx2]
                    exact tbit HG.out HL1.out HT.out (Consist.num_at HG.out hx1) (Consist.num_at HG.out hx2) hx
                  have HOK := Lib.hid (okd_at hd1 hd2)
                  have k1 := cell_regrown e1
                  have k2 := cell_regrown g1
                  have k3 := cell_regrown g2
                  have cU : ∀ d os, Calls Try.prog 61 #[.int .i64 x, .int .i64 j] (Sort.grow (redrawn wr d) os) fun e w'' => e = .returned (.bool (lt l m i j)) ∧ ∃ p : Regrown, w'' = Sort.grow (redrawn wr p.d) p.os := fun d os => Calls.regrown_of (by
                    refine (l4Bit_any x j hx10 (by omega) _).mono ?_
                    rintro e w' ⟨rfl, rfl⟩
                    exact ⟨by rw [HXB.out], Below.refl _ _⟩)
                  clear hx hz hx1 hx2 hd1 hd2
                  cases hlt2 : lt l m i j with
                  | false =>
                    have HN : Hid (psI l m L ds i (j + 1) = pc) := by unfold Hid; rw [psI_miss hlt2]; exact HI.out.1
                    rw [hlt2] at cU
                    clear hlt2
                    go_wp2_with fail
                    refine wp_region_quiet_below (by kernel_rfl) (by kernel_rfl) ?_
                    repeat (go_big_quiet_step ((go_at_call 61; exact cU _ _)))
                    refine wpQuiet_nil ?_
                    intro _ hw'
                    obtain ⟨⟨dq, osq⟩, hw''⟩ := hw'
                    subst hw''
                    have hbq := below_regrown wr dq osq
                    have HQ := Lib.hid (And.intro HN.out (HI.out.2.trans (hbq.mono HI.out.2.size)))
                    clear k1 k2 k3 cU e1 g1 g2 hbq
                    generalize Sort.grow (redrawn wr dq) osq = W6 at *
                    go_wp2_with fail
                    exact ⟨⟨j + 1, pc, by omega, rfl, by go_num, HQ⟩, by simp [intOf]; omega⟩
                  | true =>
                    rw [hlt2] at cU
                    have HUP := Lib.hid (psI_hit (L := L) (ds := ds) hlt2)
                    clear hlt2
                    by_cases hc : d1 < d2
                    · have hcd : decide (d1 < d2) = true := by simp [hc]
                      have HN : Hid (psI l m L ds i (j + 1) = false) := by unfold Hid; rw [HUP.out, HOK.out, hcd, Bool.not_true, Bool.and_false]
                      go_wp2_with fail
                      refine wp_region_quiet_below (by kernel_rfl) (by kernel_rfl) ?_
                      repeat (go_big_quiet_step ((go_at_call 61; exact cU _ _)))
                      refine wpQuiet_nil ?_
                      intro _ hw'
                      obtain ⟨⟨dq, osq⟩, hw''⟩ := hw'
                      subst hw''
                      have hbq := below_regrown wr dq osq
                      have HQ := Lib.hid (And.intro HN.out (HI.out.2.trans (hbq.mono HI.out.2.size)))
                      clear k1 k2 k3 cU e1 g1 g2 hbq
                      generalize Sort.grow (redrawn wr dq) osq = W6 at *
                      go_wp2_with fail
                      exact ⟨⟨j + 1, false, by omega, rfl, by go_num, HQ⟩, by simp [intOf]; omega⟩
                    · have hcd : decide (d1 < d2) = false := by simp [hc]
                      have HN : Hid (psI l m L ds i (j + 1) = pc) := by unfold Hid; rw [HUP.out, HOK.out, hcd, Bool.not_false, Bool.and_true]; exact HI.out.1
                      go_wp2_with fail
                      refine wp_region_quiet_below (by kernel_rfl) (by kernel_rfl) ?_
                      repeat (go_big_quiet_step ((go_at_call 61; exact cU _ _)))
                      refine wpQuiet_nil ?_
                      intro _ hw'
                      obtain ⟨⟨dq, osq⟩, hw''⟩ := hw'
                      subst hw''
                      have hbq := below_regrown wr dq osq
                      have HQ := Lib.hid (And.intro HN.out (HI.out.2.trans (hbq.mono HI.out.2.size)))
                      clear k1 k2 k3 cU e1 g1 g2 hbq
                      generalize Sort.grow (redrawn wr dq) osq = W6 at *
                      go_wp2_with fail
                      exact ⟨⟨j + 1, pc, by omega, rfl, by go_num, HQ⟩, by simp [intOf]; omega⟩
                · obtain rfl : j = nr := by omega
                  have hjj : ¬ (j : Int) < (j : Int) := by omega
                  have HQ : Hid (psO l m L ds (i + 1) = pc ∧ (∀ j x, j < i + 1 → ds[j]? = some x → yr x = true) ∧ Below w3.heap.size w3 wr) := by
                    refine ⟨?_, HYS.out, HI.out.2⟩
                    rw [← psI_end, HL1.out]
                    exact HI.out.1
                  clear HI HYS
                  go_wp2_with fail
                  exact ⟨⟨i + 1, pc, by omega, rfl, by go_num, HQ⟩, by simp [intOf]; omega⟩
        · obtain rfl : i = nr := by omega
          have hii : ¬ (i : Int) < (i : Int) := by omega
          have HF : Hid (apP l m L ds = (pb, true)) := by
            unfold Hid
            rw [apP_ok hev2.out (areD_all (by rw [HLD.out, HL1.out]) (fun j x hj => HR.out.2.1 j x (by rw [HLD.out] at hj; exact hj))), ← psO_end, HL1.out, HR.out.1]
          have HQ := Lib.hid HR.out.2.2
          clear HR
          go_wp2_with fail
          go_ret2
          exact ⟨by rw [HF.out]; rfl, HB3.out.trans (HQ.out.mono HB3.out.size)⟩
    · have HF := Lib.hid (apP_da (m := m) (L := L) (areD_len (l := l) (ds := ds) (by rw [HLD.out, HL1.out]; exact hnr)))
      have hn1 : ¬ (nr : Int) = (n1 : Int) := by omega
      have hn2 : ((nr : Int) == (n1 : Int)) = false := by simp; omega
      clear hev
      go_wp2_with fail
      go_ret2
      exact ⟨by rw [HF.out]; rfl, HB1.out⟩
end Go.Proofs.Ytmjhgjlnpnkmkaa.ApS

namespace Go.Proofs.Ytmjhgjlnpnkmkaa.FuncI
open Go.RowKit Pairs Rec Keep GivesI
set_option maxRecDepth 100000 in
set_option maxHeartbeats 4000000 in
theorem index_any (f : FuncId) (bs : Array Value) (q : Int → Bool) (a : Option Addr) (n c : Nat) (L : List Int) (w : World) (hn : n ≤ 1048576) (h1 : HoldsI w a n L)
    (hcall : ∀ (args : Array Value) (W : World), (callFunc f args).run Try.prog W = .ok (.enter f args) W)
    (hf : ∀ x wr, x ∈ L → Below w.heap.size w wr → Calls Try.prog f (#[.int .i64 x] ++ bs) wr fun e w' => e = .returned (.bool (q x)) ∧ Below wr.heap.size wr w') :
    Calls Try.prog 115 #[.slice a n c, .func (.func f) #[] bs] w fun e w' => e = .returned (.int .i64 (ix q L)) ∧ Below w.heap.size w w' := by
  have H1 := Lib.hid h1
  have HL1 := Lib.hid h1.1
  have HF := Lib.hid hf
  have HC := Lib.hid hcall
  clear h1 hf hcall
  go_enter Try.func115, Try.ntmps115
  go_wp2_with fail
  go_loopw [8] (fun s8 wr => ∃ k : Nat, k ≤ n ∧ s8 = .int .i64 k ∧ Hid (∀ j y, j < k → L[j]? = some y → q y = false) ∧ Hid (Below w.heap.size w wr)) (fun s8 _ => n - (intOf s8).toNat)
  case atStart => exact ⟨0, Nat.zero_le _, rfl, fun j y hj _ => by omega, Below.refl _ _⟩
  case round =>
    obtain ⟨k, hk, rfl, HP, HR⟩ := hrel
    by_cases hlt : k < n
    · obtain ⟨b, off, x, rfl, hx, e1⟩ := (H1.out.below HR.out).at k hlt
      have HX := Lib.hid hx
      have hkn : (k : Int) < (n : Int) := by omega
      have hk0 : (0 : Int) ≤ (k : Int) := by omega
      clear hx
      go_wp2_with fail
      rw [HC.out, Oper.upon_enter]
      refine (HF.out x _ (List.mem_of_getElem? HX.out) HR.out).mono ?_
      rintro e w8 ⟨rfl, b8⟩
      have HR8 := Lib.hid (HR.out.trans (b8.mono HR.out.size))
      clear b8 e1
      cases hq : q x with
      | true =>
        have HA := Lib.hid (ix_hit HP.out HX.out hq)
        clear hq
        go_wp2_with fail
        go_ret
        exact ⟨by rw [HA.out]; rfl, HR8.out⟩
      | false =>
        have HP2 : Hid (∀ j y, j < k + 1 → L[j]? = some y → q y = false) := fun j y hj hy => by
          by_cases e : j = k
          · subst e
            have h := HX.out
            rw [hy] at h
            injection h with h
            rw [h]
            exact hq
          · exact HP.out j y (by omega) hy
        clear hq
        go_wp2_with fail
        exact ⟨⟨k + 1, by omega, by go_num, HP2, HR8⟩, by simp [intOf]; omega⟩
    · obtain rfl : k = n := by omega
      have hkn : ¬ (k : Int) < (k : Int) := by omega
      have hp := HP.out
      have HQ := Lib.hid (ix_none (q := q) (L := L) (by rw [HL1.out]; exact hp)).1
      clear hp
      go_wp2_with fail
      go_ret
      exact ⟨by rw [HQ.out]; rfl, HR.out⟩
set_option maxRecDepth 100000 in
set_option maxHeartbeats 4000000 in
theorem contains_any (f : FuncId) (bs : Array Value) (q : Int → Bool) (a : Option Addr) (n c : Nat) (L : List Int) (w : World) (hn : n ≤ 1048576) (h1 : HoldsI w a n L)
    (hcall : ∀ (args : Array Value) (W : World), (callFunc f args).run Try.prog W = .ok (.enter f args) W)
    (hf : ∀ x wr, x ∈ L → Below w.heap.size w wr → Calls Try.prog f (#[.int .i64 x] ++ bs) wr fun e w' => e = .returned (.bool (q x)) ∧ Below wr.heap.size wr w') :
    Calls Try.prog 97 #[.slice a n c, .func (.func f) #[] bs] w fun e w' => e = .returned (.bool (L.any q)) ∧ Below w.heap.size w w' := by
  have HI := Lib.hid (index_any f bs q a n c L w hn h1 hcall hf)
  have HX := Lib.hid (ix_any (q := q) (L := L))
  clear hcall hf h1
  generalize ix q L = i at *
  go_enter Try.func97, Try.ntmps97
  go_wp2_with fail
  refine HI.out.mono ?_
  rintro e w1 ⟨rfl, b1⟩
  have HB := Lib.hid b1
  clear b1
  by_cases h0 : (0 : Int) ≤ i
  · have HA := Lib.hid (HX.out.1 h0)
    go_wp2_with fail
    go_ret
    exact ⟨by rw [HA.out]; rfl, HB.out⟩
  · have HA : Hid (L.any q = false) := by
      unfold Hid
      cases h : L.any q with
      | false => rfl
      | true => exact absurd (HX.out.2 h) h0
    go_wp2_with fail
    go_ret
    exact ⟨by rw [HA.out]; simp [h0], HB.out⟩
end Go.Proofs.Ytmjhgjlnpnkmkaa.FuncI

namespace Go.Proofs.Ytmjhgjlnpnkmkaa.ApI
open Go.RowKit Go.Shelf Pairs Rec RecEq Chain Find2 GoodM Keep GivesI Order Idx Da DaT DaG EvM EvP IvM IvI LpM LpI LpF FcM FcI ApM ApS Qsp Qsh
attribute [local go_sem] Oper.semAt_some
set_option linter.unusedVariables false
theorem noYear_any (y : Int) (w : World) : Calls Try.prog 95 #[.int .i64 y] w fun e w' => e = .returned (.bool (!yr y)) ∧ Below w.heap.size w w' := by
  go_enter Try.func95, Try.ntmps95
  go_wp2_with fail
  refine (EvI.isYear_any y w).mono ?_
  rintro e w2 ⟨rfl, rfl⟩
  obtain ⟨b, hb⟩ : ∃ b, yr y = b := ⟨_, rfl⟩
  have HV := Lib.hid hb
  rw [hb]
  clear hb
  go_wp2_with fail
  go_ret
  exact ⟨by rw [HV.out]; rfl, Below.refl _ _⟩
set_option maxRecDepth 100000 in
set_option maxHeartbeats 4000000 in
theorem areDates_any (a1 a2 r : Option Addr) (n1 c1 n2 c2 nr cr : Nat) (l : List (Int × Int)) (ds : List Int) (w : World) (hn : nr ≤ 1048576) (hl : l.length = n1) (h : HoldsI w r nr ds) :
    Calls Try.prog 62 #[.agg #[.slice a1 n1 c1, .slice a2 n2 c2], .slice r nr cr] w fun e w' => e = .returned (.bool (areD l ds)) ∧ Below w.heap.size w w' := by
  have hb := below_alloc w (.cells #[.slice a1 n1 c1, .slice a2 n2 c2] 33)
  have hf := box_first w (.slice a1 n1 c1) (.slice a2 n2 c2) 33
  have H := Lib.hid (h.below hb)
  have HB := Lib.hid hb
  have HL := Lib.hid (And.intro hl h.1)
  clear h hb hl
  go_enter Try.func62, Try.ntmps62
  by_cases he : nr = n1
  · subst he
    have HA : Hid (areD l ds = !ds.any (fun y => !yr y)) := by unfold Hid areD; rw [HL.out.1, HL.out.2]; simp
    go_wp2_with fail
    generalize w.alloc (.cells #[.slice a1 nr c1, .slice a2 n2 c2] 33) = W at *
    refine (FuncI.contains_any 95 #[] (fun y => !yr y) r nr cr ds W hn H.out (fun args W => rfl) (fun x wr _ _ => noYear_any x wr)).mono ?_
    rintro e w1 ⟨rfl, b1⟩
    have HB1 := Lib.hid (HB.out.trans (b1.mono HB.out.size))
    clear b1
    generalize ds.any (fun y => !yr y) = b at *
    go_wp2_with fail
    go_ret
    exact ⟨by rw [HA.out]; rfl, HB1.out⟩
  · have HA := Lib.hid (areD_len (l := l) (ds := ds) (by rw [HL.out.1, HL.out.2]; exact he))
    have h1 : ¬ (nr : Int) = (n1 : Int) := by omega
    have h2 : ((nr : Int) == (n1 : Int)) = false := by simp; omega
    go_wp2_with fail
    go_ret
    exact ⟨by rw [HA.out]; rfl, HB.out⟩
/-- The boxes of a record, of the dates and of the two results. -/
theorem boxes4 (w : World) (u v a c d : Value) (t t1 t2 t3 : TypeId) : ∃ W, ((((w.alloc (.cells #[u, v] t)).alloc (.cells #[a] t1)).alloc (.cells #[c] t2)).alloc (.cells #[d] t3)) = W ∧ W.heap.size = w.heap.size + 4 ∧
    W.heap[w.heap.size]? = some (.cells #[u, v] t) ∧ W.heap[w.heap.size + 1]? = some (.cells #[a] t1) ∧ W.heap[w.heap.size + 2]? = some (.cells #[c] t2) ∧ W.heap[w.heap.size + 3]? = some (.cells #[d] t3) ∧ Below w.heap.size w W := by
  have new : ∀ (w : World) (o : Obj) (k : Nat), k = w.heap.size → (w.alloc o).heap[k]? = some o := fun w o k h => by
    subst h
    show (w.heap.push _)[w.heap.size]? = _
    rw [Array.getElem?_push, if_pos rfl]
  have old : ∀ (w : World) (o : Obj) (k : Nat), k < w.heap.size → (w.alloc o).heap[k]? = w.heap[k]? := fun w o k h => Below.heap_alloc w o k h
  refine ⟨_, rfl, by simp, ?_, ?_, ?_, ?_, ?_⟩
  · rw [old _ _ _ (by simp <;> omega), old _ _ _ (by simp <;> omega), old _ _ _ (by simp), new _ _ _ rfl]
  · rw [old _ _ _ (by simp <;> omega), old _ _ _ (by simp), new _ _ _ (by simp)]
  · rw [old _ _ _ (by simp), new _ _ _ (by simp)]
  · rw [new _ _ _ (by simp)]
  · exact ((((Below.refl _ w).alloc (Nat.le_refl _) _).alloc (by simp) _).alloc (by simp <;> omega) _).alloc (by simp <;> omega) _
structure B2 (W : World) (b : Nat) (u v : Bool) : Prop where
  one : Boxed W (b + 1 + 1) 4 (.bool u)
  two : Boxed W (b + 1 + 1 + 1) 4 (.bool v)
theorem B2.set {W : World} {b : Nat} {u v u' v' : Bool} (h : B2 W b u v) : B2 ((W.setCell ⟨b + 1 + 1, 0, none⟩ (.bool u')).setCell ⟨b + 1 + 1 + 1, 0, none⟩ (.bool v')) b u' v' :=
  ⟨(h.one.set _).other (by omega) _, (h.two.other (by omega) _).set _⟩
theorem B2.below {W W' : World} {b : Nat} {u v : Bool} (h : B2 W b u v) (hb : Below W.heap.size W W') : B2 W' b u v :=
  ⟨(hb.block _ h.one.lt).trans h.one, (hb.block _ h.two.lt).trans h.two⟩
theorem B2.putObj {W : World} {b D : Nat} {u v : Bool} (h : B2 W b u v) (hD : b + 1 + 1 + 1 < D) (o : Obj) : B2 (W.putObj D o) b u v :=
  ⟨(World.putObj_heap_other (by omega)).trans h.one, (World.putObj_heap_other (by omega)).trans h.two⟩
theorem others2 (W : World) (b : Nat) (u1 u2 : Value) : KeepsOthers W ((W.setCell ⟨b + 1 + 1, 0, none⟩ u1).setCell ⟨b + 1 + 1 + 1, 0, none⟩ u2) :=
  (KeepsOthers.setCell _ _ _).trans (KeepsOthers.setCell _ _ _)
theorem below_set2 {n₀ : Nat} {w W : World} {b : Nat} {u1 u2 : Value} (h : Below n₀ w W) (hb : n₀ ≤ b) :
    Below n₀ w ((W.setCell ⟨b + 1 + 1, 0, none⟩ u1).setCell ⟨b + 1 + 1 + 1, 0, none⟩ u2) :=
  (h.setCell (p := ⟨b + 1 + 1, 0, none⟩) (by show n₀ ≤ b + 1 + 1; omega) _).setCell (p := ⟨b + 1 + 1 + 1, 0, none⟩) (by show n₀ ≤ b + 1 + 1 + 1; omega) _
theorem results2 (T : Array Value) (b : Nat) (u v : Bool) (W : World) (h : B2 W b u v) (h6 : T[6]?.getD undef = .pointer (some ⟨b + 1 + 1, 0, none⟩)) (h7 : T[7]?.getD undef = .pointer (some ⟨b + 1 + 1 + 1, 0, none⟩)) :
    (results Try.f22 T).run Try.prog W = .ok (.tuple #[.bool u, .bool v]) W := by
  have c1 := h.one.cell
  have c2 := h.two.cell
  simp [results, Try.results22, go_sem, h6, h7, c1, c2]
def AllOk (l m : List (Int × Int)) (ds : List Int) (pre : List (Px l m)) : Prop := (pre.map (fun x => x.1)).all (okd ds) = true
theorem allOk_next {l m : List (Int × Int)} {ds : List Int} {pre : List (Px l m)} {x : Px l m} (h : AllOk l m ds pre) (hx : okd ds x.1 = true) : AllOk l m ds (pre ++ [x]) := by
  unfold AllOk at *
  rw [List.map_append, List.all_append, h]
  simp [hx]
set_option maxRecDepth 100000 in
set_option maxHeartbeats 8000000 in
theorem impl_any : SaysA 22 := by
  intro a1 a2 p r n1 c1 n2 c2 np cp nr cr l m L ds w z1 z2 z3 z4 h1 h2 h3 h4
  obtain ⟨W, hW, hWs, k0, k1, k2, k3, hb⟩ := boxes4 w (.slice a1 n1 c1) (.slice a2 n2 c2) (.slice r nr cr) (.bool false) (.bool false) 33 40 4 4
  have H1 := Lib.hid (h1.below hb)
  have HH1 := Lib.hid h1
  have H2 := Lib.hid (h2.below hb)
  have H3 := Lib.hid (h3.below hb)
  have H4 := Lib.hid (h4.below hb)
  have HLN := Lib.hid (And.intro h1.1 h4.1)
  have HB := Lib.hid hb
  have HE := Lib.hid (EvP.impl_any a1 a2 p n1 c1 n2 c2 np cp l m L W z1 z2 z3 H1.out H2.out H3.out)
  have f1 : W.cell? ⟨w.heap.size, 0, none⟩ = some (.slice a1 n1 c1) := by unfold World.cell?; rw [k0]; rfl
  have f2 : W.cell? ⟨w.heap.size, 1, none⟩ = some (.slice a2 n2 c2) := by unfold World.cell?; rw [k0]; rfl
  have f3 : W.cell? ⟨w.heap.size + 1, 0, none⟩ = some (.slice r nr cr) := by unfold World.cell?; rw [k1]; rfl
  have HR0 : Hid (B2 W w.heap.size false false) := ⟨k2, k3⟩
  clear h1 h2 h3 h4 hb k0 k1 k2 k3
  refine (callsIn_wide (n := 8)).1 ?_
  refine callsIn_of_wp_marks Try.func22 rfl trivial ?_ rfl
  simp only [Try.ntmps22, List.size_toArray, List.length_cons, List.length_nil, Nat.reduceAdd, Nat.reduceSub, Array.replicate_succ, Array.replicate_zero, List.push_toArray, List.append_toArray, List.nil_append, List.cons_append]
  cases hev : evP l m L with
  | false =>
    have HF := Lib.hid (apP_ev (ds := ds) hev)
    rw [hev] at HE
    clear hev
    gi_upto_region 2 with (refine ⟨trivial, ?_⟩; gi_at_call 17; refine (callsIn_wide.2 HE.out).mono ?_; rintro e w1 ⟨rfl, b1⟩)
    refine ⟨trivial, ?_⟩
    have HR := Lib.hid ((HR0.out.below b1))
    have r1 := HR.out.one.cell
    have r2 := HR.out.two.cell
    have r5 := HR.out.one.frozen
    have r6 := HR.out.two.frozen
    have HB1 := Lib.hid (HB.out.trans (b1.mono HB.out.size))
    clear b1
    gi_wp2
    refine ⟨_, results2 _ w.heap.size false false _ HR.out.set rfl rfl, ?_⟩
    rw [HF.out]
    exact ⟨rfl, below_set2 HB1.out (Nat.le_refl _)⟩
  | true =>
    obtain ⟨hg, hevi⟩ := ev_parts hev
    have HEV0 := Lib.hid hev
    have HG := Lib.hid hg
    have HEV := Lib.hid hevi
    have hl10 : l.length ≤ 10 := (Table.good_few hg).1
    have hn10 : n1 ≤ 10 := by rw [← HLN.out.1]; exact hl10
    rw [hev] at HE
    clear hev hg hevi
    cases had : areD l ds with
    | false =>
      have HF := Lib.hid (apP_da (m := m) (L := L) had)
      gi_upto_region 2 with (first | (refine ⟨trivial, ?_⟩; gi_at_call 17; refine (callsIn_wide.2 HE.out).mono ?_; rintro e w1 ⟨rfl, b1⟩; have HDA := Lib.hid (areDates_any a1 a2 r n1 c1 n2 c2 nr cr l ds w1 z4 HLN.out.1 (H4.out.below b1)); rw [had] at HDA; have B1 := Lib.hid b1; have f1' := (b1.cell (World.block_lt_of_cell? W _ f1)).trans f1; have f2' := (b1.cell (World.block_lt_of_cell? W _ f2)).trans f2; have f3' := (b1.cell (World.block_lt_of_cell? W _ f3)).trans f3; clear b1 f1 f2 f3) | (refine ⟨trivial, ?_⟩; gi_at_call 62; refine (callsIn_wide.2 HDA.out).mono ?_; rintro e w2 ⟨rfl, b2⟩))
      have b1 := B1.out.trans (b2.mono B1.out.size)
      have HR := Lib.hid ((HR0.out.below b1))
      have r1 := HR.out.one.cell
      have r2 := HR.out.two.cell
      have r5 := HR.out.one.frozen
      have r6 := HR.out.two.frozen
      have HB1 := Lib.hid (HB.out.trans (b1.mono HB.out.size))
      clear b1
      gi_wp2
      refine ⟨_, results2 _ w.heap.size false false _ HR.out.set rfl rfl, ?_⟩
      rw [HF.out]
      exact ⟨rfl, below_set2 HB1.out (Nat.le_refl _)⟩
    | true =>
      have HF := Lib.hid (apP_ok (m := m) (L := L) HEV0.out had)
      have hnr : nr = n1 := by
        have e := had
        unfold areD at e
        rw [Bool.and_eq_true] at e
        have e1 := e.1
        rw [beq_iff_eq, HLN.out.1, HLN.out.2] at e1
        exact e1
      subst hnr
      gi_upto_region 3 with (first | (refine ⟨trivial, ?_⟩; gi_at_call 17; refine (callsIn_wide.2 HE.out).mono ?_; rintro e w1 ⟨rfl, b1⟩; have HDA := Lib.hid (areDates_any a1 a2 r nr c1 n2 c2 nr cr l ds w1 z4 HLN.out.1 (H4.out.below b1)); rw [had] at HDA; have B1 := Lib.hid b1; have f1' := (b1.cell (World.block_lt_of_cell? W _ f1)).trans f1; have f2' := (b1.cell (World.block_lt_of_cell? W _ f2)).trans f2; have f3' := (b1.cell (World.block_lt_of_cell? W _ f3)).trans f3; clear b1 f1 f2 f3) | (refine ⟨trivial, ?_⟩; gi_at_call 62; refine (callsIn_wide.2 HDA.out).mono ?_; rintro e w2 ⟨rfl, b2⟩))
      clear had
      have b1 := B1.out.trans (b2.mono B1.out.size)
      have HR1 := Lib.hid (HR0.out.below b1)
      have g1 := (b2.cell (World.block_lt_of_cell? w1 _ f1')).trans f1'
      have g2 := (b2.cell (World.block_lt_of_cell? w1 _ f2')).trans f2'
      have g3 := (b2.cell (World.block_lt_of_cell? w1 _ f3')).trans f3'
      have HB1 := Lib.hid (HB.out.trans (b1.mono HB.out.size))
      have H11 := Lib.hid (H1.out.below b1)
      have H12 := Lib.hid (H2.out.below b1)
      have H13 := Lib.hid (H3.out.below b1)
      have H14 := Lib.hid (H4.out.below b1)
      have hs1 := b1.size
      have HI := Lib.hid (intervalsOf_any a1 a2 p nr c1 n2 c2 np cp l L w2 hn10 z3 H11.out (good_asc HG.out).1 H13.out HEV.out)
      clear b1 b2 f1' f2' f3' HE HDA
      gi_wp2_with (refine ⟨trivial, ?_⟩; gi_at_call 63; refine (callsIn_wide.2 HI.out).mono ?_; rintro e w3 ⟨g, rfl, hO⟩)
      have hgs : w2.heap.size ≤ g := hO.1
      have hgl : g < w3.heap.size := (hO.2.1.lt g rfl).2
      have b3 : Below w2.heap.size w2 w3 := hO.2.2
      have HO3 := Lib.hid hO
      have hrow3 := hO.2.1
      have HR3 := Lib.hid (HR1.out.below b3)
      have y1 := (b3.cell (World.block_lt_of_cell? w2 _ g1)).trans g1
      have y2 := (b3.cell (World.block_lt_of_cell? w2 _ g2)).trans g2
      have y3 := (b3.cell (World.block_lt_of_cell? w2 _ g3)).trans g3
      have HB3 := Lib.hid (HB1.out.trans (b3.mono HB1.out.size))
      have H31 := Lib.hid (H11.out.below b3)
      have H32 := Lib.hid (H12.out.below b3)
      have H34 := Lib.hid (H14.out.below b3)
      have hs3 := b3.size
      clear g1 g2 g3 b3 hO HI
      have HH3 := Lib.hid (Keep.holds_own hrow3)
      refine wpIn_wide.2 ?_
      go_loopw [26] (fun s26 wr => ∃ k : Nat, k ≤ nr ∧ s26 = .int .i64 k ∧ Hid ((List.range k).all (inn (own l L) ds) = true ∧ Below w3.heap.size w3 wr)) (fun s26 _ => nr - (intOf s26).toNat)
      case atStart => exact ⟨0, Nat.zero_le _, rfl, rfl, Below.refl _ _⟩
      case round =>
        obtain ⟨k, hk, rfl, HQ⟩ := hrel
        by_cases hlt : k < nr
        · obtain ⟨⟨f1, t1⟩, ho1⟩ : ∃ q, (own l L)[k]? = some q := ⟨_, List.getElem?_eq_getElem (by rw [own_len, HLN.out.1]; exact hlt)⟩
          obtain ⟨bd1, od1, dv, rfl, hdv, e1⟩ := (H34.out.below HQ.out.2).at k hlt
          have hki : (k : Int) < (nr : Int) := by omega
          have hk0 : (0 : Int) ≤ (k : Int) := by omega
          have hRow := ownsRow_below hrow3 HQ.out.2
          have v1 := hRow.cellAt (k * 2) (by omega)
          have v2 := hRow.cellAt (k * 2 + 1) (by omega)
          rw [(flat_get _ _ _ _ ho1).1] at v1
          rw [(flat_get _ _ _ _ ho1).2] at v2
          have q3 := (HQ.out.2.cell (World.block_lt_of_cell? w3 _ y3)).trans y3
          have HIN := Lib.hid (inn_at ho1 hdv)
          have hbz := below_alloc wr (.cells #[.int .i64 f1, .int .i64 t1] 64)
          have u1 := box_first wr (.int .i64 f1) (.int .i64 t1) 64
          have u2 := box_second wr (.int .i64 f1) (.int .i64 t1) 64
          have d1 := (hbz.cell (World.block_lt_of_cell? wr _ e1)).trans e1
          have d3 := (hbz.cell (World.block_lt_of_cell? wr _ q3)).trans q3
          have HY := Lib.hid (HQ.out.2.trans (hbz.mono HQ.out.2.size))
          have HP := Lib.hid HQ.out.1
          clear hRow ho1 hdv hbz HQ
          go_wp2_with fail
          clear v1 v2 e1 q3
          generalize wr.alloc (.cells #[.int .i64 f1, .int .i64 t1] 64) = Y at *
          have k1 := cell_regrown d1
          have k2 := cell_regrown d3
          have k3 := cell_regrown u1
          have k4 := cell_regrown u2
          by_cases hc1 : dv < f1
          · have hb1 : decide (dv < f1) = true := decide_eq_true hc1
            have HN : Hid (poss l m L ds = false) := poss_in (i := k) (by rw [HLN.out.1]; exact hlt) (by rw [HIN.out, decide_eq_false (by omega : ¬ f1 ≤ dv)]; rfl)
            refine wp_region_quiet_below (by kernel_rfl) (by kernel_rfl) ?_
            repeat (go_big_quiet_step (fail))
            refine wpQuiet_nil ?_
            intro _ hw'
            obtain ⟨⟨dq, osq⟩, hw''⟩ := hw'
            subst hw''
            have hbq := below_regrown Y dq osq
            have hBY := HY.out.trans (hbq.mono HY.out.size)
            have HRQ := Lib.hid (HR3.out.below hBY)
            have HB9 := Lib.hid (HB3.out.trans (hBY.mono HB3.out.size))
            have r1 := HRQ.out.one.cell
            have r2 := HRQ.out.two.cell
            have r5 := HRQ.out.one.frozen
            have r6 := HRQ.out.two.frozen
            clear k1 k2 k3 k4 hbq hBY d1 d3 u1 u2
            generalize Sort.grow (redrawn Y dq) osq = W5 at *
            go_wp2_with fail
            refine ⟨_, results2 _ w.heap.size false true _ HRQ.out.set rfl rfl, ?_⟩
            rw [HF.out, HN.out]
            exact ⟨rfl, below_set2 HB9.out (Nat.le_refl _)⟩
          · have hb1 : decide (dv < f1) = false := decide_eq_false hc1
            by_cases hc2 : t1 < dv
            · have hb2 : decide (t1 < dv) = true := decide_eq_true hc2
              have HN : Hid (poss l m L ds = false) := poss_in (i := k) (by rw [HLN.out.1]; exact hlt) (by rw [HIN.out, decide_eq_false (by omega : ¬ dv ≤ t1), Bool.and_false])
              refine wp_region_quiet_below (by kernel_rfl) (by kernel_rfl) ?_
              repeat (go_big_quiet_step (fail))
              refine wpQuiet_nil ?_
              intro _ hw'
              obtain ⟨⟨dq, osq⟩, hw''⟩ := hw'
              subst hw''
              have hbq := below_regrown Y dq osq
              have hBY := HY.out.trans (hbq.mono HY.out.size)
              have HRQ := Lib.hid (HR3.out.below hBY)
              have HB9 := Lib.hid (HB3.out.trans (hBY.mono HB3.out.size))
              have r1 := HRQ.out.one.cell
              have r2 := HRQ.out.two.cell
              have r5 := HRQ.out.one.frozen
              have r6 := HRQ.out.two.frozen
              clear k1 k2 k3 k4 hbq hBY d1 d3 u1 u2
              generalize Sort.grow (redrawn Y dq) osq = W5 at *
              go_wp2_with fail
              refine ⟨_, results2 _ w.heap.size false true _ HRQ.out.set rfl rfl, ?_⟩
              rw [HF.out, HN.out]
              exact ⟨rfl, below_set2 HB9.out (Nat.le_refl _)⟩
            · have hb2 : decide (t1 < dv) = false := decide_eq_false hc2
              have HN : Hid ((List.range (k + 1)).all (inn (own l L) ds) = true) := by
                unfold Hid
                rw [List.range_succ, List.all_append, HP.out]
                simp only [List.all_cons, List.all_nil, Bool.and_true, Bool.true_and]
                rw [HIN.out, decide_eq_true (by omega : f1 ≤ dv), decide_eq_true (by omega : dv ≤ t1)]
                rfl
              refine wp_region_quiet_below (by kernel_rfl) (by kernel_rfl) ?_
              repeat (go_big_quiet_step (fail))
              refine wpQuiet_nil ?_
              intro _ hw'
              obtain ⟨⟨dq, osq⟩, hw''⟩ := hw'
              subst hw''
              have hbq := below_regrown Y dq osq
              have HQ2 := Lib.hid (And.intro HN.out (HY.out.trans (hbq.mono HY.out.size)))
              clear k1 k2 k3 k4 hbq d1 d3 u1 u2
              generalize Sort.grow (redrawn Y dq) osq = W5 at *
              go_wp2_with fail
              exact ⟨⟨k + 1, by omega, by go_num, HQ2⟩, by simp [intOf]; omega⟩
        · obtain rfl : k = nr := by omega
          have hkk : ¬ (k : Int) < (k : Int) := by omega
          have HALL : Hid ((List.range l.length).all (inn (own l L) ds) = true) := by unfold Hid; rw [HLN.out.1]; exact HQ.out.1
          have hwr := HQ.out.2
          have hswr := hwr.size
          have hgl2 : g < wr.heap.size := by omega
          have HO4 := Lib.hid (HO3.out.below hwr)
          have HR4 := Lib.hid (HR3.out.below hwr)
          have x1 := (hwr.cell (World.block_lt_of_cell? w3 _ y1)).trans y1
          have x2 := (hwr.cell (World.block_lt_of_cell? w3 _ y2)).trans y2
          have x3 := (hwr.cell (World.block_lt_of_cell? w3 _ y3)).trans y3
          have HB4 := Lib.hid (HB3.out.trans (hwr.mono HB3.out.size))
          have H41 := Lib.hid (H31.out.below hwr)
          have H42 := Lib.hid (H32.out.below hwr)
          have H44 := Lib.hid (H34.out.below hwr)
          have HLP := Lib.hid (laterPairs_any a1 a2 k c1 n2 c2 l m wr HG.out H41.out H42.out)
          clear y1 y2 y3 hwr HQ HH3 hrow3
          go_wp2_with fail
          gi_wp2_with (refine ⟨trivial, ?_⟩; gi_at_call 64; refine (callsIn_wide.2 HLP.out).mono ?_; rintro e w5 ⟨br, bo, bx, rfl, lr, lo, lord, lbr, lbo, lb⟩)
          have HEnv : Hid (Env w5 l m a1 k c1 br bo bx g) := by
            refine ⟨HG.out, lr, lo, lord, H41.out.below lb, by omega, by omega, fun hp b off e => ?_, ints_of (ownsRow_below HO4.out.2.1 lb), Nat.lt_of_lt_of_le (by omega) lb.size⟩
            rcases H11.out.2 with h | ⟨b', off', e', hb', _⟩
            · omega
            · rw [e] at e'
              injection e' with e'
              injection e' with e'
              omega
          have HB5 := Lib.hid (HB4.out.trans (lb.mono HB4.out.size))
          have HR5 := Lib.hid (HR4.out.below lb)
          have HY5 : Hid (w5.cell? ⟨w.heap.size + 1, 0, none⟩ = some (.slice r k cr)) := (lb.cell (World.block_lt_of_cell? wr _ x3)).trans x3
          have H54 := Lib.hid (H44.out.below lb)
          have hlb := lb.size
          have HLT : Hid (w.heap.size + 1 + 1 + 1 < w5.heap.size) := by unfold Hid; omega
          clear lr lo lord lbr lbo lb x1 x2 x3 HLP
          refine wpIn_rangeFunc_ownF (α := Px l m) rfl (by decide) (gf := 100) (lb := #[.pointer (some ⟨br, 0, none⟩), .pointer (some ⟨bo, 0, none⟩)]) rfl trivial (enters_of Try.func100 (by kernel_rfl) rfl)
            (lp_stops 7 (by omega) l m a1 k c1 br bo bx g w5.heap.size w5 rfl HEnv.out) (fun h k => h.trans k) (fun W l0 o o' hl ho hc _ => kpB_b W l0 o o' hl ho hc) (Below.refl _ _) (fun _ => rfl)
            (fun pre W => AllOk l m ds pre ∧ Below w5.heap.size w5 W)
            (fun c pre W => c = .ret ∧ (∃ x, x ∈ prs l m ∧ okd ds x = false) ∧ B2 W w.heap.size false true ∧ Below w.heap.size w W)
            (OwnFrom.and (ownFrom_pure _ _) (ownFrom_below (Nat.le_refl _) (Nat.le_refl _))) ?ownx ⟨(rfl : AllOk l m ds []), Below.refl _ _⟩ ?a1 ?assign ?body ?done ?stop
          case ownx =>
            intro c pre W W' row hs hg hr
            obtain ⟨e, hx, h4, h5⟩ := hs
            have hlt := HLT.out
            have hne : ∀ k, k < w5.heap.size → some k ≠ row := fun k hk e => by
              have := (hr k e.symm).1
              omega
            refine ⟨e, hx, ⟨h4.one.kept hg (hne _ (by omega)), h4.two.kept hg (hne _ (by omega))⟩, h5.grown hg h5.size (fun k hk => ?_)⟩
            have := (hr k hk).1
            omega
          case assign =>
            intro l0 x W K hK
            gi_wp2
            exact hK
          case body =>
            rintro l0 pre x W ⟨hf, hbW⟩ _
            obtain ⟨⟨i, j⟩, hx⟩ := x
            obtain ⟨hi, hj, _⟩ := mem_prs.1 hx
            simp only at hi hj
            have hln : l.length = k := HLN.out.1
            have hin : (i : Int) < (k : Int) := by omega
            have hjn : (j : Int) < (k : Int) := by omega
            have hi0 : (0 : Int) ≤ (i : Int) := by omega
            have hj0 : (0 : Int) ≤ (j : Int) := by omega
            obtain ⟨b4, o4, d1, rfl, hd1, e1⟩ := (H54.out.below hbW).at i (by omega)
            obtain ⟨b5, o5, d2, hp5, hd2, e2⟩ := (H54.out.below hbW).at j (by omega)
            injection hp5 with hp5
            injection hp5 with hb1 hb2 _
            subst hb1 hb2
            have HOK := Lib.hid (okd_at hd1 hd2)
            have HX := Lib.hid hx
            have v3 := (hbW.cell (p := ⟨w.heap.size + 1, 0, none⟩) (by show w.heap.size + 1 < _; have := HLT.out; omega)).trans HY5.out
            have HC := Lib.hid (And.intro hbW hf)
            clear hf hbW hd1 hd2
            have k1 := cell_regrown v3
            have k2 := cell_regrown e1
            have k3 := cell_regrown e2
            gi_wp2
            by_cases hlt : d1 < d2
            · have hcd : decide (d1 < d2) = true := decide_eq_true hlt
              have HN : Hid (okd ds (i, j) = false) := by unfold Hid; rw [HOK.out, hcd]; rfl
              refine region_at (l := l0) 9 (by kernel_rfl) (by kernel_rfl) ?_
              simp only [List.take_succ_cons, List.take_zero, List.drop_succ_cons, List.drop_zero]
              repeat (go_big_quiet_step (fail))
              refine wpQuiet_nil ?_
              intro _ hw'
              obtain ⟨⟨dq, osq⟩, hw''⟩ := hw'
              subst hw''
              have HBQ := Lib.hid (below_regrown W dq osq)
              have hB6 := HC.out.1.trans (HBQ.out.mono HC.out.1.size)
              have HRW := Lib.hid (HR5.out.below hB6)
              have HBW6 := Lib.hid (HB5.out.trans (hB6.mono HB5.out.size))
              have r1 := HRW.out.one.cell
              have r2 := HRW.out.two.cell
              have r5 := HRW.out.one.frozen
              have r6 := HRW.out.two.frozen
              generalize Sort.grow (redrawn W dq) osq = W5 at *
              clear k1 k2 k3 v3 e1 e2 hB6
              gi_wp2
              refine ⟨(others_below HBQ.out).trans (others2 _ _ _ _), rfl, ⟨(i, j), HX.out, HN.out⟩, HRW.out.set, below_set2 HBW6.out (Nat.le_refl _)⟩
            · have hcd : decide (d1 < d2) = false := decide_eq_false hlt
              have HN : Hid (okd ds (i, j) = true) := by unfold Hid; rw [HOK.out, hcd]; rfl
              refine region_at (l := l0) 9 (by kernel_rfl) (by kernel_rfl) ?_
              simp only [List.take_succ_cons, List.take_zero, List.drop_succ_cons, List.drop_zero]
              repeat (go_big_quiet_step (fail))
              refine wpQuiet_nil ?_
              intro _ hw'
              obtain ⟨⟨dq, osq⟩, hw''⟩ := hw'
              subst hw''
              have HBQ := Lib.hid (below_regrown W dq osq)
              generalize Sort.grow (redrawn W dq) osq = W5 at *
              clear k1 k2 k3 v3 e1 e2
              gi_wp2
              exact ⟨others_below HBQ.out, KpB.of_below HBQ.out, allOk_next HC.out.2 HN.out, HC.out.1.trans (HBQ.out.mono HC.out.1.size)⟩
          case done =>
            rintro D xs W hD hS ⟨hf, hbW⟩ hK
            have HRW := Lib.hid (HR5.out.below hbW)
            have r1 := HRW.out.one.cell
            have r2 := HRW.out.two.cell
            have r5 := HRW.out.one.frozen
            have r6 := HRW.out.two.frozen
            have HQ := Lib.hid (And.intro hf (And.intro (HB5.out.trans (hbW.mono HB5.out.size)) (And.intro hK (And.intro hD hS))))
            clear hf hbW hK hS
            gi_wp2
            have hlt := HLT.out
            have hK4 := (others2 W w.heap.size (.bool true) (.bool true)).same D _ HQ.out.2.2.1 rfl
            refine ⟨by simp, .inl ⟨_, _, rfl, run_takeDeferred hK4, ?_⟩⟩
            refine ⟨_, results2 _ w.heap.size true true _ (B2.putObj HRW.out.set (by omega) _) rfl rfl, ?_⟩
            have hn : poss l m L ds = true := poss_all HALL.out (by
              have h9 := HQ.out.1
              unfold AllOk at h9
              rw [HQ.out.2.2.2.2] at h9
              exact h9)
            rw [HF.out, hn]
            exact ⟨rfl, (below_set2 HQ.out.2.1 (Nat.le_refl _)).trans (belowK_b (w := w) (Nat.le_refl _) _ D _ _ (by omega) hK4 rfl rfl)⟩
          case stop =>
            rintro D c pre W hD hS ⟨rfl, ⟨x, hxp, hxo⟩, hR, hbW⟩ hK
            have HQ := Lib.hid (And.intro hbW (And.intro hK hR))
            have HN : Hid (poss l m L ds = false) := poss_ok hxp hxo
            clear hbW hK hR hS
            gi_wp2
            have hlt := HLT.out
            refine ⟨by simp, .inl ⟨_, _, rfl, run_takeDeferred HQ.out.2.1, ?_⟩⟩
            refine ⟨_, results2 _ w.heap.size false true _ (B2.putObj HQ.out.2.2 (by omega) _) rfl rfl, ?_⟩
            rw [HF.out, HN.out]
            exact ⟨rfl, HQ.out.1.trans (belowK_b (w := w) (Nat.le_refl _) _ D _ _ (by omega) HQ.out.2.1 rfl rfl)⟩
end Go.Proofs.Ytmjhgjlnpnkmkaa.ApI

namespace Go.Proofs.Ytmjhgjlnpnkmkaa.WArePossible
open Go.ChangeShapes Go.WideShapes Go.ChangeAt Go.RowKit
open Pairs Rec RecEq RecOpen
open LawKit (S toRecord_keeps eqRecord_keeps ownHolds)
set_option linter.unusedVariables false
set_option maxRecDepth 100000 in
set_option maxHeartbeats 8000000 in
theorem walk (F : List (Int × Int) → List (Int × Int) → List Da.Dt → List Int → Bool × Bool) (hI : ∀ (a1 a2 : Option Addr) (n1 c1 n2 c2 : Nat) (l m : List (Int × Int)) (p : Option Addr) (np : Nat) (L : List Da.Dt) (r : Option Addr) (nr : Nat) (M : List Int) (w : World), n1 ≤ 1048576 → n2 ≤ 1048576 → Holds w a1 n1 l → Holds w a2 n2 m → np ≤ 1048576 → Da.HoldsD w p np L → nr ≤ 1048576 → GivesI.HoldsI w r nr M → Calls Try.prog 22 #[.agg #[.slice a1 n1 c1, .slice a2 n2 c2], .slice p np np, .slice r nr nr] w fun e w' => e = .returned (.tuple #[.bool ((F l m L M).1), .bool ((F l m L M).2)]) ∧ Below w.heap.size w w') (hM : ∀ (a1 a2 : Option Addr) (n1 c1 n2 c2 : Nat) (l m : List (Int × Int)) (p : Option Addr) (np : Nat) (L : List Da.Dt) (r : Option Addr) (nr : Nat) (M : List Int) (w : World), n1 ≤ 1048576 → n2 ≤ 1048576 → Holds w a1 n1 l → Holds w a2 n2 m → np ≤ 1048576 → Da.HoldsD w p np L → nr ≤ 1048576 → GivesI.HoldsI w r nr M → Calls Try.prog 20 #[.agg #[.slice a1 n1 c1, .slice a2 n2 c2], .slice p np np, .slice r nr nr] w fun e w' => e = .returned (.tuple #[.bool ((F l m L M).1), .bool ((F l m L M).2)]) ∧ Below w.heap.size w w') (a1 a2 : Option Addr) (n1 c1 n2 c2 : Nat) (l1 l2 : List (Int × Int)) (p : Option Addr) (np cp : Nat) (L : List Da.Dt) (w : World) (z1 : n1 ≤ 9223372036854775807) (z2 : n2 ≤ 9223372036854775807) (H1 : Holds w a1 n1 l1) (H2 : Holds w a2 n2 l2) (z3 : np ≤ 9223372036854775807) (H3 : Da.HoldsD w p np L) (r : Option Addr) (nr cr : Nat) (M : List Int) (z4 : nr ≤ 9223372036854775807) (H4 : GivesI.HoldsI w r nr M) :
    Calls Try.prog 4 #[.agg #[.slice a1 n1 c1, .slice a2 n2 c2], .slice p np cp, .slice r nr cr] w fun e w' => e = .returned (.bool true) ∧ Below w.heap.size w w' := by
  have hb0 := below_alloc w (.cells #[.slice a1 n1 c1, .slice a2 n2 c2] 25)
  have f1 := box_first w (.slice a1 n1 c1) (.slice a2 n2 c2) 25
  have f2 := box_second w (.slice a1 n1 c1) (.slice a2 n2 c2) 25
  have hlt : w.heap.size < (w.alloc (.cells #[.slice a1 n1 c1, .slice a2 n2 c2] 25)).heap.size := by simp
  have K1 := Lib.hid (H1.below hb0)
  have K2 := Lib.hid (H2.below hb0)
  have K3 := Lib.hid (H3.below hb0)
  have K4 := Lib.hid (H4.below hb0)
  clear H1 H2 H3 H4
  have hI1 := fun (p1 p2 p3 p4 : Option Addr) (w : World) h1 h2 h3 h4 h5 h6 h7 h8 => hI p1 p2 n1 n1 n2 n2 l1 l2 p3 np L p4 nr M w h1 h2 h3 h4 h5 h6 h7 h8
  have hM1 := fun (p1 p2 p3 p4 : Option Addr) (w : World) h1 h2 h3 h4 h5 h6 h7 h8 => hM p1 p2 n1 n1 n2 n2 l1 l2 p3 np L p4 nr M w h1 h2 h3 h4 h5 h6 h7 h8
  clear hI hM
  generalize F l1 l2 L M = FF at hI1 hM1
  obtain ⟨r1, r2⟩ := FF
  have HI := Lib.hid hI1
  have HM := Lib.hid hM1
  clear hI1 hM1
  go_enter Try.func4, Try.ntmps4
  by_cases hbr : 1048576 < nr
  · have hbr' : (1048576 : Int) < (nr : Int) := by omega
    go_wp2_with fail
    go_ret
    exact ⟨rfl, hb0⟩
  have hbr' : ¬ (1048576 : Int) < (nr : Int) := by omega
  have hnr : nr ≤ 1048576 := by omega
  go_wp2_with fail
  generalize w.alloc (.cells #[.slice a1 n1 c1, .slice a2 n2 c2] 25) = W at *
  refine (szRecord_any a1 a2 n1 c1 n2 c2 z1 z2 W).mono ?_
  rintro e w1 ⟨rfl, b1⟩
  have k1 := (b1.cell (p := ⟨w.heap.size, 0, none⟩) hlt).trans f1
  have k2 := (b1.cell (p := ⟨w.heap.size, 1, none⟩) hlt).trans f2
  by_cases hbig : (1048576 : Int) < (n1 : Int) + n2
  · have hl : left n1 n2 = -1 := by unfold left; rw [if_pos hbig]
    rw [hl]
    go_wp2_with fail
    go_ret
    exact ⟨rfl, hb0.trans (b1.mono hb0.size)⟩
  · have hl : left n1 n2 = 1048576 - n1 - n2 := by unfold left; rw [if_neg hbig]
    rw [hl]
    clear hl
    have hs1 : n1 ≤ 1048576 := by omega
    have hs2 : n2 ≤ 1048576 := by omega
    have hnn : ¬ (1048576 : Int) - n1 - n2 < 0 := by omega
    go_wp2_with fail
    refine (DaT.szDatedS_any p np cp (1048576 - n1 - n2) (by omega) (by omega) z3 w1).mono ?_
    rintro e wz ⟨rfl, rfl⟩
    by_cases hbp : (1048576 : Int) - n1 - n2 < np
    · rw [if_pos hbp]
      go_wp2_with fail
      go_ret
      exact ⟨rfl, hb0.trans (b1.mono hb0.size)⟩
    · rw [if_neg hbp]
      have B1Z := Lib.hid b1
      have hnp : np ≤ 1048576 := by omega
      have hrn : ¬ (1048576 : Int) - n1 - n2 - np < 0 := by omega
      clear b1
      go_wp2_with fail
      refine (toRecord_any a1 a2 n1 c1 n2 c2 l1 l2 hs1 hs2 _ (K1.out.below B1Z.out) (K2.out.below B1Z.out)).mono ?_
      rintro e w2 ⟨g1, g2, rfl, o2, b2⟩
      have b12 := B1Z.out.trans (b2.mono B1Z.out.size)
      have hh := ownHolds o2
      have hh1 := Lib.hid hh.1
      have hh2 := Lib.hid hh.2
      have B12 := Lib.hid b12
      clear hh o2 b2 b12 k1 k2
      go_wp2_with fail
      refine (DaT.toDatedS_any p np cp L hnp _ (K3.out.below B12.out)).mono ?_
      rintro e w3 ⟨g3, rfl, o3, b3⟩
      have b13 := B12.out.trans (b3.mono B12.out.size)
      have hh3 := Lib.hid (hh1.out.below b3)
      have hh4 := Lib.hid (hh2.out.below b3)
      have HP3 := Lib.hid (Da.holds_ownD o3)
      have B13 := Lib.hid b13
      clear b13 b3 o3 hh1 hh2
      go_wp2_with fail
      refine (IntT.toIntS_any r nr cr M hnr _ (K4.out.below B13.out)).mono ?_
      rintro e w3 ⟨g3b, rfl, o3b, b3b⟩
      have b13 := B13.out.trans (b3b.mono B13.out.size)
      have hh3 := Lib.hid (hh3.out.below b3b)
      have hh4 := Lib.hid (hh4.out.below b3b)
      have HP3 := Lib.hid (HP3.out.below b3b)
      have HR3 := Lib.hid (GivesI.holds_own o3b)
      have B13 := Lib.hid b13
      clear b13 b3b o3b
      go_wp2_with fail
      refine (HM.out _ _ _ _ _ hs1 hs2 hh3.out hh4.out hnp HP3.out hnr HR3.out).mono ?_
      rintro e X ⟨rfl, b4⟩
      have bX := B13.out.trans (b4.mono B13.out.size)
      have m1 := (bX.cell (p := ⟨w.heap.size, 0, none⟩) hlt).trans f1
      have m2 := (bX.cell (p := ⟨w.heap.size, 1, none⟩) hlt).trans f2
      have KX1 := Lib.hid (K1.out.below bX)
      have KX2 := Lib.hid (K2.out.below bX)
      have KX3 := Lib.hid (K3.out.below bX)
      have KX4 := Lib.hid (K4.out.below bX)
      have HBX := Lib.hid (hb0.trans (bX.mono hb0.size))
      have hltX := Nat.lt_of_lt_of_le hlt bX.size
      clear b4 hh3 hh4 HP3 HR3 bX hb0 K1 K2 K3 K4 f1 f2 B1Z B12 B13
      go_wp2_with fail
      refine (toRecord_any a1 a2 n1 c1 n2 c2 l1 l2 hs1 hs2 _ KX1.out KX2.out).mono ?_
      rintro e w4 ⟨g4, g5, rfl, o4, b4⟩
      have hb5 := below_alloc w4 (.cells #[.slice (some ⟨g4, 0, none⟩) n1 n1, .slice (some ⟨g5, 0, none⟩) n2 n2] 33)
      have x1 := box_first w4 (.slice (some ⟨g4, 0, none⟩) n1 n1) (.slice (some ⟨g5, 0, none⟩) n2 n2) 33
      have x2 := box_second w4 (.slice (some ⟨g4, 0, none⟩) n1 n1) (.slice (some ⟨g5, 0, none⟩) n2 n2) 33
      have hlt5 : w4.heap.size < (w4.alloc (.cells #[.slice (some ⟨g4, 0, none⟩) n1 n1, .slice (some ⟨g5, 0, none⟩) n2 n2] 33)).heap.size := by simp
      have B5 := Lib.hid (b4.trans (hb5.mono b4.size))
      have hh5 := Lib.hid ((ownHolds o4).1.below hb5)
      have hh6 := Lib.hid ((ownHolds o4).2.below hb5)
      clear o4 b4 hb5
      go_wp2_with fail
      generalize w4.alloc (.cells #[.slice (some ⟨g4, 0, none⟩) n1 n1, .slice (some ⟨g5, 0, none⟩) n2 n2] 33) = W5 at *
      refine (DaT.toDatedS_any p np cp L hnp _ (KX3.out.below B5.out)).mono ?_
      rintro e w6 ⟨g6, rfl, o6, b6⟩
      have B6 := Lib.hid (B5.out.trans (b6.mono B5.out.size))
      have y1 := (b6.cell (p := ⟨w4.heap.size, 0, none⟩) hlt5).trans x1
      have y2 := (b6.cell (p := ⟨w4.heap.size, 1, none⟩) hlt5).trans x2
      have hh7 := Lib.hid (hh5.out.below b6)
      have hh8 := Lib.hid (hh6.out.below b6)
      have HP6 := Lib.hid (Da.holds_ownD o6)
      have hlt6 := Nat.lt_of_lt_of_le hlt5 b6.size
      clear x1 x2 o6 b6 hh5 hh6
      go_wp2_with fail
      refine (IntT.toIntS_any r nr cr M hnr _ (KX4.out.below B6.out)).mono ?_
      rintro e w6 ⟨g6b, rfl, o6b, b6b⟩
      have B6 := Lib.hid (B6.out.trans (b6b.mono B6.out.size))
      have y1 := (b6b.cell (p := ⟨w4.heap.size, 0, none⟩) hlt6).trans y1
      have y2 := (b6b.cell (p := ⟨w4.heap.size, 1, none⟩) hlt6).trans y2
      have hh7 := Lib.hid (hh7.out.below b6b)
      have hh8 := Lib.hid (hh8.out.below b6b)
      have HP6 := Lib.hid (HP6.out.below b6b)
      have HR6 := Lib.hid (GivesI.holds_own o6b)
      have hlt6 := Nat.lt_of_lt_of_le hlt6 b6b.size
      clear o6b b6b
      go_wp2_with fail
      refine (HI.out _ _ _ _ _ hs1 hs2 hh7.out hh8.out hnp HP6.out hnr HR6.out).mono ?_
      rintro e w7 ⟨rfl, b7⟩
      have HR7 := Lib.hid (HR6.out.below b7)
      clear HR6
      have y1 := (b7.cell (p := ⟨w4.heap.size, 0, none⟩) hlt6).trans y1
      have y2 := (b7.cell (p := ⟨w4.heap.size, 1, none⟩) hlt6).trans y2
      have b67 := B6.out.trans (b7.mono B6.out.size)
      have j1 := (b67.cell (p := ⟨w.heap.size, 0, none⟩) hltX).trans m1
      have j2 := (b67.cell (p := ⟨w.heap.size, 1, none⟩) hltX).trans m2
      have hh9 := Lib.hid (hh7.out.below b7)
      have hh10 := Lib.hid (hh8.out.below b7)
      have HP7 := Lib.hid (HP6.out.below b7)
      have hlt7 := Nat.lt_of_lt_of_le hlt6 b7.size
      have hltw7 := Nat.lt_of_lt_of_le hltX b67.size
      have B7 := Lib.hid b67
      clear b7 b67 hh7 hh8 HP6
      go_wp2_with fail
      have hK1 := Lib.hid (KX1.out.below B7.out.drew)
      have hK2 := Lib.hid (KX2.out.below B7.out.drew)
      have hh11 := Lib.hid (hh9.out.below (Below.refl w7.heap.size w7).drew)
      have hh12 := Lib.hid (hh10.out.below (Below.refl w7.heap.size w7).drew)
      go_region_held3 (fun w' => w'.cell? ⟨w4.heap.size, 0, none⟩ = some (.slice (some ⟨g4, 0, none⟩) n1 n1) ∧ w'.cell? ⟨w4.heap.size, 1, none⟩ = some (.slice (some ⟨g5, 0, none⟩) n2 n2) ∧ w4.heap.size < w'.heap.size ∧ w'.cell? ⟨w.heap.size, 0, none⟩ = some (.slice a1 n1 c1) ∧ w'.cell? ⟨w.heap.size, 1, none⟩ = some (.slice a2 n2 c2) ∧ w.heap.size < w'.heap.size)
        (first | go_keep | (exact ⟨by assumption, by assumption, by assumption, by assumption, by assumption, by assumption⟩))
        (first
          | (go_at_call 15; refine (toRecord_keeps a1 a2 n1 c1 n2 c2 l1 l2 hs1 hs2 w4.heap.size w.heap.size (.slice (some ⟨g4, 0, none⟩) n1 n1) (.slice (some ⟨g5, 0, none⟩) n2 n2) (.slice a1 n1 c1) (.slice a2 n2 c2) w7.drew hK1.out hK2.out ⟨y1, y2, hlt7, j1, j2, hltw7⟩).mono ?_; rintro e w8 ⟨g7, g8, rfl, o8, b8, s1, s2, s3, s4, s5, s6⟩)
          | (go_at_call 18; refine (eqRecord_keeps (some ⟨g4, 0, none⟩) (some ⟨g5, 0, none⟩) (some ⟨g7, 0, none⟩) (some ⟨g8, 0, none⟩) n1 n2 n1 n2 n1 n2 l1 l2 hs1 hs2 w4.heap.size w.heap.size (.slice (some ⟨g4, 0, none⟩) n1 n1) (.slice (some ⟨g5, 0, none⟩) n2 n2) (.slice a1 n1 c1) (.slice a2 n2 c2) w8 (hh11.out.below b8) (hh12.out.below b8) (ownHolds o8).1 (ownHolds o8).2 ⟨s1, s2, s3, s4, s5, s6⟩).mono ?_; rintro e w9 ⟨rfl, b9, t1, t2, t3, t4, t5, t6⟩))
      have b79 : Below w7.heap.size w7 w9 := (Below.refl w7.heap.size w7).drew.trans (b8.trans (b9.mono b8.size))
      have B9 := Lib.hid (B7.out.trans (b79.mono B7.out.size))
      have HP9 := Lib.hid (HP7.out.below b79)
      have HR9 := Lib.hid (HR7.out.below b79)
      clear HR7
      clear o8 b8 b9 b79 s1 s2 s3 s4 s5 s6 y1 y2 j1 j2 t1 t2 t4 t5 hh11 hh12 HP7
      go_wp2_with fail
      refine (DaT.toDatedS_any p np cp L hnp _ (KX3.out.below B9.out)).mono ?_
      rintro e w10 ⟨g9, rfl, o10, b10⟩
      have B10 := Lib.hid (B9.out.trans (b10.mono B9.out.size))
      have HP10 := Lib.hid (HP9.out.below b10)
      have BB10 := Lib.hid b10
      have HQ10 := Lib.hid (Da.holds_ownD o10)
      clear o10 b10
      go_wp2_with fail
      refine (DaT.eqDatedS_same _ _ np np np L hnp _ HP10.out HQ10.out).mono ?_
      rintro e w11 ⟨rfl, b11⟩
      have B11 := Lib.hid (B10.out.trans (b11.mono B10.out.size))
      have HR11 := Lib.hid ((HR9.out.below BB10.out).below b11)
      clear b11 BB10 HR9
      go_wp2_with fail
      refine (IntT.toIntS_any r nr cr M hnr _ (KX4.out.below B11.out)).mono ?_
      rintro e w12 ⟨g12, rfl, o12, b12⟩
      have HR12 := Lib.hid (HR11.out.below b12)
      have HQ12 := Lib.hid (GivesI.holds_own o12)
      have B12 := Lib.hid (B11.out.trans (b12.mono B11.out.size))
      clear o12 b12
      go_wp2_with fail
      refine (GivesI.eq_same _ _ nr nr nr M hnr _ HR12.out HQ12.out).mono ?_
      rintro e w13 ⟨rfl, b13⟩
      have HB := Lib.hid (HBX.out.trans ((B12.out.trans (b13.mono B12.out.size)).mono HBX.out.size))
      clear b13
      go_wp2_with fail
      go_ret
      exact ⟨rfl, HB.out⟩
end Go.Proofs.Ytmjhgjlnpnkmkaa.WArePossible

namespace Go.Proofs.Ytmjhgjlnpnkmkaa.FArePossible
open Go.ChangeShapes Go.WideShapes Go.ChangeAt Go.RowKit
open Pairs Rec RecEq RecOpen LawKit
set_option linter.unusedVariables false

theorem field_int {H : Type} {enc : TypeId × Value → H} {w : World} {base : Nat} {spare : Nat → Bool} {held : Bool} {t : TypeId} {fuel : Nat} {v : Value} {x : DataW H × List MemPlace} (t0 : Try.prog.underlying t = some (.int .i64)) (h : DataW.trod enc Try.prog w base spare held fuel t [v] = some x) : ∃ y : Int, v = .int .i64 y := by
  obtain ⟨p, hp, _⟩ := DataW.trod_int t0 h
  simp only [List.cons.injEq, and_true] at hp
  exact ⟨p, hp⟩
set_option maxRecDepth 100000 in
theorem lifted (hw : ∀ (r2 : Option Addr) (m2 b2 : Nat) (M2 : List Int) (a1 a2 : Option Addr) (n1 c1 n2 c2 : Nat) (l1 l2 : List (Int × Int)) (p : Option Addr) (np cp : Nat) (L : List Da.Dt) (w : World), n1 ≤ 9223372036854775807 → n2 ≤ 9223372036854775807 → Holds w a1 n1 l1 → Holds w a2 n2 l2 → np ≤ 9223372036854775807 → Da.HoldsD w p np L → m2 ≤ 9223372036854775807 → GivesI.HoldsI w r2 m2 M2 → Calls Try.prog 4 #[.agg #[.slice a1 n1 c1, .slice a2 n2 c2], .slice p np cp, .slice r2 m2 b2] w fun e w' => e = .returned (.bool true) ∧ Below w.heap.size w w') (os : Os) (started : os.Started) (H : Type) (enc : TypeId × Value → H) :
    ReturnsInHanded {} Try.checked os 4 .any (Rows.fnExactArePossibleSpec.pre6 enc Try.prog Try.f4 Rows.fnExactArePossibleRow.domain false) (Rows.fnExactArePossibleSpec.post enc Try.prog Try.f4 false true false false) := by
  refine returnsInHanded_of_change (C := Try.checked) own started (by kernel_rfl) Try.func4
    (ChangeSpec.witness6 (enc := enc) (C := Try.checked) false ⟨#[], #[.agg #[.slice none 0 0, .slice none 0 0], .slice none 0 0, .slice none 0 0], []⟩ 8 (by kernel_rfl) (by kernel_rfl) (by kernel_rfl) (by kernel_rfl)) ?_
  intro W base args ds gs before hval0 hW hcnd _
  have hval : ∀ (j : Nat) t v, Try.f4.params[j]? = some t → args[j]? = some v → Value.okWide Try.prog W .any base t v := hval0
  have hW' := hW
  obtain ⟨p, q, hA0, hV, rfl, hfz, hnd⟩ := hW
  have hA : DataW.TrodAll enc Try.prog W 0 (fun _ => true) true Try.f4.params.toList args.toList ds p := hA0
  rw [Try.params4] at hA hval
  obtain ⟨v0, vs0, d0, ds0, p0, q0, hargs, rfl, rfl, h0, r0⟩ := trodAll_cons hA
  obtain ⟨v1, vs1, d1, ds1, p1, q1, rfl, rfl, rfl, h1, r1⟩ := trodAll_cons r0
  obtain ⟨v2, vs2, d2, ds2, p2, q2, rfl, rfl, rfl, h2, r2⟩ := trodAll_cons r1
  obtain ⟨rfl, rfl, rfl⟩ := trodAll_nil r2
  obtain rfl : args = #[v0, v1, v2] := by cases args; simp_all
  obtain ⟨rfl, rfl⟩ := trodVars_none hV
  have k0 := h0
  have lt0 : ∀ x ∈ p0, x.block < W.heap.size := by obtain ⟨m, hm⟩ := k0; exact DataW.trod_lt m _ _ _ hm
  obtain ⟨u, v, y0, y9, fuel, rfl, rfl, hp, hu, hv⟩ := Joins.open_agg2 Try.underlying25 (by kernel_rfl) (by kernel_rfl) (hval 0 25 v0 rfl rfl) h0
  obtain ⟨a1, n1, c1, l1, rfl, z1, H1⟩ := open_pairs Try.underlying22 Try.underlying108 (by kernel_rfl) rfl rfl (by kernel_rfl) (by kernel_rfl) Try.underlying3 Try.underlying3 hu
  obtain ⟨a2, n2, c2, l2, rfl, z2, H2⟩ := open_pairs Try.underlying23 Try.underlying112 (by kernel_rfl) rfl rfl (by kernel_rfl) (by kernel_rfl) Try.underlying3 Try.underlying3 hv
  have k1 := h1
  have lt1 : ∀ x ∈ p1, x.block < W.heap.size := by obtain ⟨m, hm⟩ := k1; exact DataW.trod_lt m _ _ _ hm
  obtain ⟨sa, sn, sc, rfl⟩ := okWide_slice Try.underlying26 (hval 1 26 v1 rfl rfl)
  obtain ⟨ps, nps, cps, L, hps, z3, H3⟩ : ∃ (a : Option Addr) (n c : Nat) (L : List Da.Dt), Value.slice sa sn sc = .slice a n c ∧ n ≤ 9223372036854775807 ∧ Da.HoldsD W a n L := by
    obtain ⟨fuel, hf⟩ := h1
    exact Da.open_datedS Try.underlying26 Try.underlying61 Try.underlying59 rfl rfl rfl rfl rfl (by kernel_rfl) (by kernel_rfl) (by kernel_rfl) (by kernel_rfl) (by kernel_rfl) Try.underlying3 Try.underlying3 Try.underlying3 hf
  injection hps with hp1 hp2 hp3
  subst hp1 hp2 hp3
  have k2 := h2
  have lt2 : ∀ x ∈ p2, x.block < W.heap.size := by obtain ⟨m, hm⟩ := k2; exact DataW.trod_lt m _ _ _ hm
  obtain ⟨ra2, rn2, rc2, rfl⟩ := okWide_slice Try.underlying40 (hval 2 40 v2 rfl rfl)
  obtain ⟨q1, q2, q3, RM2, hqs, zz2, HH2⟩ : ∃ (a : Option Addr) (n c : Nat) (L : List Int), Value.slice ra2 rn2 rc2 = .slice a n c ∧ n ≤ 9223372036854775807 ∧ GivesI.HoldsI W a n L := by
    obtain ⟨fuel, hf⟩ := h2
    exact Da.open_intS Try.underlying40 Try.underlying3 (by kernel_rfl) hf
  injection hqs with hp1 hp2 hp3
  subst hp1 hp2 hp3
  clear hA0 hval0
  refine (hw ra2 rn2 rc2 RM2 a1 a2 n1 c1 n2 c2 l1 l2 sa sn sc L W z1 z2 H1 H2 z3 H3 zz2 HH2).mono fun e W' ⟨he, bel⟩ => ?_
  subst he
  exact ⟨_, rfl, _, _, _, [], _, [], hW', trodAll_mk1 (shut_bool Try.underlying4 _), (trodAll_cons_mk (Below.trod LawKit.laidOut (by kernel_rfl) (of_decide_eq_true (by kernel_rfl)) k0 bel lt0) (trodAll_cons_mk (Below.trod LawKit.laidOut (by kernel_rfl) (of_decide_eq_true (by kernel_rfl)) k1 bel lt1) (trodAll_cons_mk (Below.trod LawKit.laidOut (by kernel_rfl) (of_decide_eq_true (by kernel_rfl)) k2 bel lt2) trodAll_mk0))), rfl, bel.frame _, fun h => by cases h⟩

theorem over (hw : ∀ (r2 : Option Addr) (m2 b2 : Nat) (M2 : List Int) (a1 a2 : Option Addr) (n1 c1 n2 c2 : Nat) (l1 l2 : List (Int × Int)) (p : Option Addr) (np cp : Nat) (L : List Da.Dt) (w : World), n1 ≤ 9223372036854775807 → n2 ≤ 9223372036854775807 → Holds w a1 n1 l1 → Holds w a2 n2 l2 → np ≤ 9223372036854775807 → Da.HoldsD w p np L → m2 ≤ 9223372036854775807 → GivesI.HoldsI w r2 m2 M2 → Calls Try.prog 4 #[.agg #[.slice a1 n1 c1, .slice a2 n2 c2], .slice p np cp, .slice r2 m2 b2] w fun e w' => e = .returned (.bool true) ∧ Below w.heap.size w w') : Rows.fnExactArePossibleRow.holds Try.pinned (OpenSpec.ofChange Rows.fnExactArePossibleSpec) :=
  OpenClaim.holds_of_wide 4 Try.f4 rfl rfl rfl rfl rfl rfl rfl ⟨rfl, rfl, rfl, rfl, rfl⟩ rfl rfl rfl rfl rfl (by kernel_rfl) Try.func4 (by kernel_rfl)
    (of_decide_eq_true (by kernel_rfl)) (by unfold Func.isWrapper; first | (rw [if_pos (by decide +kernel)]; kernel_rfl) | (rw [if_neg (by decide +kernel)]; exact ⟨rfl, rfl⟩))
    (fun os started H enc _ => lifted hw os started H enc)
end Go.Proofs.Ytmjhgjlnpnkmkaa.FArePossible

namespace Go.Proofs.Ytmjhgjlnpnkmkaa
theorem fnExactArePossible_proved : Rows.FnExactArePossibleSaid := FArePossible.over (fun r2 m2 b2 M2 a1 a2 n1 c1 n2 c2 l1 l2 p np cp L w e1 e2 e3 e4 e5 e6 e7 e8 => WArePossible.walk ApM.apP (fun a1 a2 n1 c1 n2 c2 l m p np L r nr M w z1 z2 h1 h2 z3 h3 z4 h4 => ApI.impl_any a1 a2 p r n1 c1 n2 c2 np np nr nr l m L M w z1 z2 z3 z4 h1 h2 h3 h4) (fun a1 a2 n1 c1 n2 c2 l m p np L r nr M w z1 z2 h1 h2 z3 h3 z4 h4 => ApS.spec_any a1 a2 p r n1 c1 n2 c2 np np nr nr l m L M w z1 z2 z3 z4 h1 h2 h3 h4) a1 a2 n1 c1 n2 c2 l1 l2 p np cp L w e1 e2 e3 e4 e5 e6 r2 m2 b2 M2 e7 e8)
#print axioms fnExactArePossible_proved
end Go.Proofs.Ytmjhgjlnpnkmkaa

