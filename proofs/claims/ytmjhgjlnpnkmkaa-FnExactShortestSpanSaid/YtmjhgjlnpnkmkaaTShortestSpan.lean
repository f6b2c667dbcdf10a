/- The program's elementsThat over relations: those that meet a condition. -/
import Derived.Test.YtmjhgjlnpnkmkaaOrder
import Derived.Test.YtmjhgjlnpnkmkaaIdx
import Derived.Test.YtmjhgjlnpnkmkaaGivesRL
import Derived.Test.YtmjhgjlnpnkmkaaFuncM
import Derived.Test.YtmjhgjlnpnkmkaaThat
import Derived.Maps.AppendAt
import Derived.Test.YtmjhgjlnpnkmkaaIvI
import Derived.Test.YtmjhgjlnpnkmkaaEvS
import Derived.Test.YtmjhgjlnpnkmkaaFcM
import Derived.Test.YtmjhgjlnpnkmkaaLpF
import Derived.Test.YtmjhgjlnpnkmkaaEvP
import Derived.Test.YtmjhgjlnpnkmkaaQsh
import Derived.Sort.CutIn
import Derived.Test.YtmjhgjlnpnkmkaaQsp
import Derived.Test.YtmjhgjlnpnkmkaaConsistB
import Derived.Test.YtmjhgjlnpnkmkaaLawKit
import Derived.Test.YtmjhgjlnpnkmkaaDaT
import Derived.Test.YtmjhgjlnpnkmkaaDa
namespace Go.Proofs.Ytmjhgjlnpnkmkaa.Elems
open Go.RowKit Pairs Rec Chain Find2 Keep
theorem cell_two_new (w : World) (x y : Value) (t : TypeId) : ∀ j u, [x, y][j]? = some u → (w.alloc (.cells #[x, y] t)).cell? ((⟨w.heap.size, 0, none⟩ : Addr).add j) = some u := by
  intro j u hj
  match j, hj with
  | 0, hj =>
    simp at hj
    subst hj
    exact box_first w x y t
  | 1, hj =>
    simp at hj
    subst hj
    exact box_second w x y t
theorem flat_append (l1 l2 : List (Int × Int)) : flat (l1 ++ l2) = flat l1 ++ flat l2 := by unfold flat; rw [List.flatMap_append]
theorem filt_next (q : Int × Int → Bool) {m : List (Int × Int)} {k : Nat} {x y : Int} (hx : m[k]? = some (x, y)) : (m.take (k + 1)).filter q = (m.take k).filter q ++ (if q (x, y) = true then [(x, y)] else []) := by
  rw [List.take_add_one, hx, List.filter_append]
  cases h : q (x, y) <;> simp [h]
theorem filt_len (q : Int × Int → Bool) (m : List (Int × Int)) (k : Nat) : ((m.take k).filter q).length ≤ k :=
  Nat.le_trans (List.length_filter_le _ _) (by rw [List.length_take]; omega)
theorem own_form {T : TypeId} {B n : Nat} {w : World} {v : Value} {xs : List Value} (h : w.ownsRow B T 2 v n xs) : ∃ p d, v = .slice p n d := by
  rcases h.2 with ⟨hv, hn⟩ | ⟨g, cap, cur, hv, _⟩
  · subst hn
    exact ⟨none, 0, hv⟩
  · exact ⟨_, cap, hv⟩
theorem empty_own {T : TypeId} (w : World) : (w.alloc (.cells #[] T)).ownsRow w.heap.size T 2 (.slice (some ⟨w.heap.size, 0, none⟩) 0 0) 0 [] :=
  World.ownsRow_made w #[] 0 (Nat.le_refl _) (by unfold maxLen; omega) (by simp)
def ResR (L : List (Int × Int)) (w : World) (e : Ending) (w' : World) : Prop :=
  ∃ (p : Option Addr) (k d : Nat), e = .returned (.slice p k d) ∧ w'.ownsRow w.heap.size 110 2 (.slice p k d) k (flat L) ∧ k ≤ 1048576 ∧ Below w.heap.size w w'
def G1 (B : Nat) (w wr : World) (v : Value) (L : List (Int × Int)) : Prop := wr.ownsRow B 110 2 v L.length (flat L) ∧ Below B w wr
end Go.Proofs.Ytmjhgjlnpnkmkaa.Elems

namespace Go.Proofs.Ytmjhgjlnpnkmkaa.IvS
open Go.RowKit Pairs Rec RecEq Chain Find2 GoodM Keep GivesI Da DaT DaG EvM IvM RepI IvI Elems
set_option linter.unusedVariables false
def GV (B : Nat) (w wr : World) (v : Value) (L : List (Int × Int)) : Prop := wr.ownsRow B 64 2 v L.length (flat L) ∧ Below B w wr
def OwnR (L : List (Int × Int)) (w : World) (e : Ending) (w' : World) : Prop :=
  ∃ (p : Option Addr) (d : Nat), e = .returned (.slice p L.length d) ∧ w'.ownsRow w.heap.size 64 2 (.slice p L.length d) L.length (flat L) ∧ Below w.heap.size w w'
/-- The box of the round: an interval, and all that stood before it. -/
def Bx (wr wi : World) (v : Int × Int) : Prop := wi.heap[wr.heap.size]? = some (.cells #[.int .i64 v.1, .int .i64 v.2] 64) ∧ Below wr.heap.size wr wi
theorem Bx.new (wr : World) (a b : Int) : Bx wr (wr.alloc (.cells #[.int .i64 a, .int .i64 b] 64)) (a, b) := by
  refine ⟨?_, below_alloc wr _⟩
  show (wr.heap.push _)[wr.heap.size]? = _
  rw [Array.getElem?_push, if_pos rfl]
theorem Bx.cells {wr wi : World} {v : Int × Int} (h : Bx wr wi v) : (wi.cell? ⟨wr.heap.size, 0, none⟩ = some (.int .i64 v.1) ∧ wi.cell? ⟨wr.heap.size, 1, none⟩ = some (.int .i64 v.2)) ∧ wi.frozen? ⟨wr.heap.size, 0, none⟩ = false ∧ wi.frozen? ⟨wr.heap.size, 1, none⟩ = false := by
  refine ⟨⟨?_, ?_⟩, ?_, ?_⟩
  · unfold World.cell?; rw [h.1]; rfl
  · unfold World.cell?; rw [h.1]; rfl
  · unfold World.frozen?; rw [h.1]; rfl
  · unfold World.frozen?; rw [h.1]; rfl
theorem Bx.quiet {wr wi : World} {v : Int × Int} (h : Bx wr wi v) (d : Nat) (os : Array Obj) : Bx wr (Sort.grow (redrawn wi d) os) v := by
  have hlt : wr.heap.size < wi.heap.size := (Array.getElem?_eq_some_iff.1 h.1).1
  have hb := below_regrown wi d os
  refine ⟨?_, h.2.trans (hb.mono (Nat.le_of_lt hlt))⟩
  rw [hb.block _ hlt]
  exact h.1
theorem Bx.put {wr wi : World} {v : Int × Int} (h : Bx wr wi v) (a b : Int) : Bx wr ((wi.setCell ⟨wr.heap.size, 0, none⟩ (.int .i64 a)).setCell ⟨wr.heap.size, 1, none⟩ (.int .i64 b)) (a, b) := by
  refine ⟨?_, (h.2.setCell (p := ⟨wr.heap.size, 0, none⟩) (Nat.le_refl _) _).setCell (p := ⟨wr.heap.size, 1, none⟩) (Nat.le_refl _) _⟩
  have h1 := heap_setCell_same wi wr.heap.size 0 _ _ (.int .i64 a) h.1
  have h2 := heap_setCell_same _ wr.heap.size 1 _ _ (.int .i64 b) h1
  exact h2
theorem take_own {l : List (Int × Int)} {L : List Dt} {k : Nat} {x y : Int} (h : l[k]? = some (x, y)) : (own l L).take (k + 1) = (own l L).take k ++ [iv L x] := by
  rw [List.take_add_one, own_at h]; rfl
set_option maxRecDepth 100000 in
set_option maxHeartbeats 8000000 in
theorem l9Own_any (a1 a2 p : Option Addr) (n1 c1 n2 c2 np cp : Nat) (l : List (Int × Int)) (L : List Dt) (w : World) (hz : n1 ≤ 10) (hp : np ≤ 1048576) (h : Holds w a1 n1 l) (hL : HoldsD w p np L) (hE : evi l L = true) :
    Calls Try.prog 57 #[.agg #[.slice a1 n1 c1, .slice a2 n2 c2], .slice p np cp] w (OwnR (own l L) w) := by
  obtain ⟨i0, hi, hy0, hy1, hy2⟩ := info_parts infoV
  obtain ⟨W, hW⟩ : ∃ W, w.alloc (.cells #[.slice a1 n1 c1, .slice a2 n2 c2] 33) = W := ⟨_, rfl⟩
  have hWs : W.heap.size = w.heap.size + 1 := by rw [← hW]; simp
  have hb : Below w.heap.size w W := by rw [← hW]; exact below_alloc w _
  have hf : W.cell? ⟨w.heap.size, 0, none⟩ = some (.slice a1 n1 c1) := by rw [← hW]; exact box_first w _ _ _
  have H1 := Lib.hid (h.below hb)
  have HL := Lib.hid (hL.below hb)
  have HE := Lib.hid hE
  have HB := Lib.hid hb
  have HLL := Lib.hid hL.1
  have HL1 := Lib.hid h.1
  have HWS := Lib.hid hWs
  have hfz := World.block_lt_of_cell? W _ hf
  have HG0 : Hid (GV W.heap.size W (W.alloc (.cells #[] 64)) (.slice (some ⟨W.heap.size, 0, none⟩) 0 0) ((own l L).take 0)) := ⟨Elems.empty_own W, below_alloc W _⟩
  clear h hL hb hE hWs
  go_enter Try.func57, Try.ntmps57
  go_wp2_with fail
  clear hW
  generalize W.alloc (.cells #[] 64) = V at *
  go_loopw [5, 6] (fun s5 s6 wr => ∃ k : Nat, k ≤ n1 ∧ s6 = .int .i64 k ∧ Hid (GV W.heap.size W wr s5 ((own l L).take k))) (fun _ s6 _ => n1 - (intOf s6).toNat)
  case atStart => exact ⟨0, Nat.zero_le _, rfl, HG0⟩
  case round =>
    clear HG0
    obtain ⟨k, hk, rfl, HR⟩ := hrel
    obtain ⟨wo, rfl⟩ : ∃ z, z = wr := ⟨wr, rfl⟩
    by_cases hlt : k < n1
    · have hkn : (k : Int) < (n1 : Int) := by omega
      have hk0 : (0 : Int) ≤ (k : Int) := by omega
      have q1 := (HR.out.2.cell (p := ⟨w.heap.size, 0, none⟩) hfz).trans hf
      obtain ⟨b, off, x, y, rfl, hx, e1, e2⟩ := (H1.out.below HR.out.2).at k hlt
      have HX := Lib.hid hx
      have HX0 := Lib.hid (Bx.new wo (-20000) 2100)
      have hfr := Nat.lt_of_lt_of_le hfz HR.out.2.size
      have hbr := World.block_lt_of_cell? wo _ e1
      clear hx e2
      go_wp2_with fail
      generalize wo.alloc (.cells #[.int .i64 (-20000), .int .i64 2100] 64) = Y at *
      go_loopw [8] (fun s8 wi => ∃ j : Nat, j ≤ np ∧ s8 = .int .i64 j ∧ Hid (Bx wo wi (iv (L.take j) x))) (fun s8 _ => np - (intOf s8).toNat)
      case atStart => exact ⟨0, Nat.zero_le _, rfl, HX0⟩
      case round =>
        clear HX0
        obtain ⟨j, hj, rfl, HI⟩ := hrel
        have z1 := (HI.out.2.cell (p := ⟨w.heap.size, 0, none⟩) hfr).trans q1
        have z2 := (HI.out.2.cell hbr).trans e1
        by_cases hlj : j < np
        · have hjn : (j : Int) < (np : Int) := by omega
          have hj0 : (0 : Int) ≤ (j : Int) := by omega
          obtain ⟨b2, off2, u, y2, z2', rfl, hu, g1, g2, g3⟩ := ((HL.out.below HR.out.2).below HI.out.2).at j hlj
          have HU := Lib.hid (iv_next HE.out hu x)
          have k1 := cell_regrown z1
          have k2 := cell_regrown z2
          have k3 := cell_regrown g1
          have hr1 := World.block_lt_of_cell? wr _ g1
          clear hu
          by_cases hux : u = x
          · have HU2 : Hid (iv (L.take (j + 1)) x = (y2, z2')) := by unfold Hid; rw [HU.out, if_pos hux]
            have hde : (u == x) = true := by simp [hux]
            clear HU
            go_wp2_with fail
            refine wp_region_quiet_below (by kernel_rfl) (by kernel_rfl) ?_
            repeat (go_big_quiet_step (fail))
            refine wpQuiet_nil ?_
            intro _ hw'
            obtain ⟨⟨dq, osq⟩, hw''⟩ := hw'
            subst hw''
            have hbq := below_regrown wr dq osq
            have HIQ := Lib.hid (HI.out.quiet dq osq)
            have v1 := (hbq.cell (World.block_lt_of_cell? wr _ g1)).trans g1
            have v2 := (hbq.cell (World.block_lt_of_cell? wr _ g2)).trans g2
            have v3 := (hbq.cell (World.block_lt_of_cell? wr _ g3)).trans g3
            clear k1 k2 k3 g1 g2 g3 hbq HI z1 z2 hr1
            generalize Sort.grow (redrawn wr dq) osq = W5 at *
            obtain ⟨⟨c1', c2'⟩, f1, f2⟩ := HIQ.out.cells
            have HI2 : Hid (Bx wo ((W5.setCell ⟨wo.heap.size, 0, none⟩ (.int .i64 y2)).setCell ⟨wo.heap.size, 1, none⟩ (.int .i64 z2')) (iv (L.take (j + 1)) x)) := by
              unfold Hid
              rw [HU2.out]
              exact HIQ.out.put y2 z2'
            go_wp2_with fail
            exact ⟨⟨j + 1, by omega, by go_num, HI2⟩, by simp [intOf]; omega⟩
          · have HU2 : Hid (iv (L.take (j + 1)) x = iv (L.take j) x) := by unfold Hid; rw [HU.out, if_neg hux]
            have hde : (u == x) = false := by simp [hux]
            clear HU
            go_wp2_with fail
            refine wp_region_quiet_below (by kernel_rfl) (by kernel_rfl) ?_
            repeat (go_big_quiet_step (fail))
            refine wpQuiet_nil ?_
            intro _ hw'
            obtain ⟨⟨dq, osq⟩, hw''⟩ := hw'
            subst hw''
            have HIQ : Hid (Bx wo (Sort.grow (redrawn wr dq) osq) (iv (L.take (j + 1)) x)) := by
              unfold Hid
              rw [HU2.out]
              exact HI.out.quiet dq osq
            clear k1 k2 k3 g1 g2 g3 HI z1 z2 hr1
            generalize Sort.grow (redrawn wr dq) osq = W5 at *
            go_wp2_with fail
            exact ⟨⟨j + 1, by omega, by go_num, HIQ⟩, by simp [intOf]; omega⟩
        · obtain rfl : j = np := by omega
          have hjj : ¬ (j : Int) < (j : Int) := by omega
          have HI3 : Hid (Bx wo wr (iv L x)) := by
            have := HI.out
            rw [List.take_of_length_le (by rw [HLL.out]; exact Nat.le_refl _)] at this
            exact this
          obtain ⟨⟨c1', c2'⟩, f1, f2⟩ := HI3.out.cells
          have hown := ownsRow_below HR.out.1 HI3.out.2
          have hln : ((own l L).take k).length ≤ 10 := by rw [List.length_take, own_len]; omega
          have hs5 : W.heap.size ≤ wr.heap.size := Nat.le_trans HR.out.2.size HI3.out.2.size
          clear HI
          go_wp2_with (at_builtin; refine wpList_append_own _ rfl _ _ 48 rfl W.heap.size 64 i0 (.agg #[.int .i64 0, .int .i64 0]) 2 16 Try.underlying48 hi hy0 hy1 hy2 rfl (by decide) _ _ _ rfl (hown.alloc _) ⟨wr.heap.size, 0, none⟩ 1 1 [.int .i64 (iv L x).1, .int .i64 (iv L x).2] rfl rfl (cell_two_new _ _ _ _) (by simp [Value.oneCell']) (by unfold maxLen; omega) (by omega) (by simp; omega) ?_; intro v' w9 hown' hgrow hnil)
          have HG9 : Hid (GV W.heap.size W w9 v' ((own l L).take (k + 1))) := by
            unfold Hid GV
            rw [take_own HX.out, List.length_append, Elems.flat_append]
            exact ⟨hown', ((HR.out.2.trans (HI3.out.2.mono HR.out.2.size)).alloc hs5 _).grown hgrow (by simp; omega) (fun j hj => (hown.lt j hj).1)⟩
          clear hown' hgrow hown hnil
          exact ⟨⟨k + 1, by omega, by go_num, HG9⟩, by simp [intOf]; omega⟩
    · obtain rfl : k = n1 := by omega
      have hkn : ¬ (k : Int) < (k : Int) := by omega
      have q1 := (HR.out.2.cell (p := ⟨w.heap.size, 0, none⟩) hfz).trans hf
      have HO : Hid (wo.ownsRow W.heap.size 64 2 u5 (own l L).length (flat (own l L)) ∧ Below W.heap.size W wo) := by
        have := HR.out
        rw [List.take_of_length_le (by rw [own_len, HL1.out]; exact Nat.le_refl _)] at this
        exact this
      clear HR
      obtain ⟨p', d, rfl⟩ := Elems.own_form HO.out.1
      go_wp2_with fail
      go_ret
      exact ⟨_, _, rfl, ownsRow_base HO.out.1 HB.out.size, HB.out.trans (HO.out.2.mono HB.out.size)⟩
end Go.Proofs.Ytmjhgjlnpnkmkaa.IvS

namespace Go.Proofs.Ytmjhgjlnpnkmkaa.FcI
open Go.RowKit Go.Shelf Pairs Rec RecEq Chain Find2 GoodM Keep GivesI Order Idx Da DaT DaG EvM EvP IvM IvI LpM LpI LpF FcM Qsp Qsh
attribute [local go_sem] Oper.semAt_some
set_option linter.unusedVariables false
def Says4 (f : FuncId) : Prop := ∀ (a1 a2 p : Option Addr) (n1 c1 n2 c2 np cp : Nat) (l m : List (Int × Int)) (L : List Dt) (w : World), n1 ≤ 1048576 → n2 ≤ 1048576 → np ≤ 1048576 → Holds w a1 n1 l → Holds w a2 n2 m → HoldsD w p np L →
    Calls Try.prog f #[.agg #[.slice a1 n1 c1, .slice a2 n2 c2], .slice p np cp] w fun e w' => e = .returned (.tuple #[.int .i64 (fcP l m L).1, .int .i64 (fcP l m L).2.1, .bool (fcP l m L).2.2.1, .bool (fcP l m L).2.2.2]) ∧ Below w.heap.size w w'
/-- A record's box and four boxes for results. -/
theorem boxes5 (w : World) (u v a b c d : Value) (t t1 t2 t3 t4 : TypeId) : ∃ W, (((((w.alloc (.cells #[u, v] t)).alloc (.cells #[a] t1)).alloc (.cells #[b] t2)).alloc (.cells #[c] t3)).alloc (.cells #[d] t4)) = W ∧ W.heap.size = w.heap.size + 5 ∧
    W.heap[w.heap.size]? = some (.cells #[u, v] t) ∧ W.heap[w.heap.size + 1]? = some (.cells #[a] t1) ∧ W.heap[w.heap.size + 2]? = some (.cells #[b] t2) ∧ W.heap[w.heap.size + 3]? = some (.cells #[c] t3) ∧ W.heap[w.heap.size + 4]? = some (.cells #[d] t4) ∧ Below w.heap.size w W := by
  have new : ∀ (w : World) (o : Obj) (k : Nat), k = w.heap.size → (w.alloc o).heap[k]? = some o := fun w o k h => by
    subst h
    show (w.heap.push o)[w.heap.size]? = _
    rw [Array.getElem?_push, if_pos rfl]
  have old : ∀ (w : World) (o : Obj) (k : Nat), k < w.heap.size → (w.alloc o).heap[k]? = w.heap[k]? := fun w o k h => Below.heap_alloc w o k h
  refine ⟨_, rfl, by simp, ?_, ?_, ?_, ?_, ?_, ?_⟩
  · rw [old _ _ _ (by simp <;> omega), old _ _ _ (by simp <;> omega), old _ _ _ (by simp <;> omega), old _ _ _ (by simp), new _ _ _ rfl]
  · rw [old _ _ _ (by simp <;> omega), old _ _ _ (by simp <;> omega), old _ _ _ (by simp), new _ _ _ (by simp)]
  · rw [old _ _ _ (by simp <;> omega), old _ _ _ (by simp), new _ _ _ (by simp)]
  · rw [old _ _ _ (by simp), new _ _ _ (by simp)]
  · rw [new _ _ _ (by simp)]
  · exact ((((Below.refl _ w).alloc (Nat.le_refl _) _).alloc (by simp) _).alloc (by simp <;> omega) _).alloc (by simp <;> omega) _ |>.alloc (by simp <;> omega) _
structure B4v (W : World) (b : Nat) (v1 v2 v3 v4 : Value) : Prop where
  one : Boxed W (b + 1) 3 v1
  two : Boxed W (b + 1 + 1) 3 v2
  three : Boxed W (b + 1 + 1 + 1) 4 v3
  four : Boxed W (b + 1 + 1 + 1 + 1) 4 v4
abbrev B4 (W : World) (b : Nat) (x y : Int) (u v : Bool) : Prop := B4v W b (.int .i64 x) (.int .i64 y) (.bool u) (.bool v)
theorem B4v.s1 {W : World} {b : Nat} {v1 v2 v3 v4 : Value} (h : B4v W b v1 v2 v3 v4) (u : Value) : B4v (W.setCell ⟨b + 1, 0, none⟩ u) b u v2 v3 v4 := ⟨h.one.set _, h.two.other (by omega) _, h.three.other (by omega) _, h.four.other (by omega) _⟩
theorem B4v.s2 {W : World} {b : Nat} {v1 v2 v3 v4 : Value} (h : B4v W b v1 v2 v3 v4) (u : Value) : B4v (W.setCell ⟨b + 1 + 1, 0, none⟩ u) b v1 u v3 v4 := ⟨h.one.other (by omega) _, h.two.set _, h.three.other (by omega) _, h.four.other (by omega) _⟩
theorem B4v.s3 {W : World} {b : Nat} {v1 v2 v3 v4 : Value} (h : B4v W b v1 v2 v3 v4) (u : Value) : B4v (W.setCell ⟨b + 1 + 1 + 1, 0, none⟩ u) b v1 v2 u v4 := ⟨h.one.other (by omega) _, h.two.other (by omega) _, h.three.set _, h.four.other (by omega) _⟩
theorem B4v.s4 {W : World} {b : Nat} {v1 v2 v3 v4 : Value} (h : B4v W b v1 v2 v3 v4) (u : Value) : B4v (W.setCell ⟨b + 1 + 1 + 1 + 1, 0, none⟩ u) b v1 v2 v3 u := ⟨h.one.other (by omega) _, h.two.other (by omega) _, h.three.other (by omega) _, h.four.set _⟩
theorem B4v.set {W : World} {b : Nat} {v1 v2 v3 v4 : Value} {x' y' : Int} {u' v' : Bool} (h : B4v W b v1 v2 v3 v4) :
    B4 ((((W.setCell ⟨b + 1, 0, none⟩ (.int .i64 x')).setCell ⟨b + 1 + 1, 0, none⟩ (.int .i64 y')).setCell ⟨b + 1 + 1 + 1, 0, none⟩ (.bool u')).setCell ⟨b + 1 + 1 + 1 + 1, 0, none⟩ (.bool v')) b x' y' u' v' :=
  (((h.s1 _).s2 _).s3 _).s4 _
theorem B4v.below {W W' : World} {b : Nat} {v1 v2 v3 v4 : Value} (h : B4v W b v1 v2 v3 v4) (hb : Below W.heap.size W W') : B4v W' b v1 v2 v3 v4 :=
  ⟨(hb.block _ h.one.lt).trans h.one, (hb.block _ h.two.lt).trans h.two, (hb.block _ h.three.lt).trans h.three, (hb.block _ h.four.lt).trans h.four⟩
/-- A world of the class: some draws, some new blocks, some writes into the four boxes. -/
structure Gw where
  d : Nat
  os : Array Obj
  ws : List (Fin 4 × Value)
instance : Inhabited Gw := ⟨⟨0, #[], []⟩⟩
def puts (b : Nat) (W : World) (ws : List (Fin 4 × Value)) : World := ws.foldl (fun X u => X.setCell ⟨b + 1 + u.1.val, 0, none⟩ u.2) W
def optW (W : World) (b : Nat) (q : Gw) : World := puts b (Sort.grow (redrawn W q.d) q.os) q.ws
theorem puts_cell {b : Nat} {p : Addr} {v : Value} (h1 : p.block ≤ b ∨ b + 1 + 3 < p.block) : ∀ (ws : List (Fin 4 × Value)) (W : World), W.cell? p = some v → (puts b W ws).cell? p = some v
  | [], W, h => h
  | u :: ws, W, h => puts_cell h1 ws _ (by
      have := u.1.isLt
      rw [World.cell?_setCell_far _ _ _ _ (by show b + 1 + u.1.val ≠ p.block; omega)]
      exact h)
theorem optW_cell {W : World} {b k o : Nat} {v : Value} (h : W.cell? ⟨k, o, none⟩ = some v) (hk : k ≤ b ∨ b + 1 + 3 < k) (q : Gw) : (optW W b q).cell? ⟨k, o, none⟩ = some v :=
  puts_cell hk _ _ (cell_regrown h q.d q.os)
theorem puts_b4 {b : Nat} : ∀ (ws : List (Fin 4 × Value)) (W : World) (v1 v2 v3 v4 : Value), B4v W b v1 v2 v3 v4 → ∃ u1 u2 u3 u4, B4v (puts b W ws) b u1 u2 u3 u4
  | [], W, _, _, _, _, h => ⟨_, _, _, _, h⟩
  | (⟨0, _⟩, x) :: ws, W, _, _, _, _, h => puts_b4 ws _ _ _ _ _ (h.s1 x)
  | (⟨1, _⟩, x) :: ws, W, _, _, _, _, h => puts_b4 ws _ _ _ _ _ (h.s2 x)
  | (⟨2, _⟩, x) :: ws, W, _, _, _, _, h => puts_b4 ws _ _ _ _ _ (h.s3 x)
  | (⟨3, _⟩, x) :: ws, W, _, _, _, _, h => puts_b4 ws _ _ _ _ _ (h.s4 x)
theorem puts_below {n₀ b : Nat} {w : World} (hb : n₀ ≤ b) : ∀ (ws : List (Fin 4 × Value)) (W : World), Below n₀ w W → Below n₀ w (puts b W ws)
  | [], W, h => h
  | u :: ws, W, h => puts_below hb ws _ (h.setCell (p := ⟨b + 1 + u.1.val, 0, none⟩) (by show n₀ ≤ b + 1 + u.1.val; omega) _)
theorem puts_others {b : Nat} {w : World} : ∀ (ws : List (Fin 4 × Value)) (W : World), KeepsOthers w W → KeepsOthers w (puts b W ws)
  | [], W, h => h
  | u :: ws, W, h => puts_others ws _ (h.trans (KeepsOthers.setCell _ _ _))
theorem put_one {W : World} {b d : Nat} {os : Array Obj} {ws : List (Fin 4 × Value)} (k : Fin 4) (v : Value) : optW W b ⟨d, os, ws ++ [(k, v)]⟩ = (optW W b ⟨d, os, ws⟩).setCell ⟨b + 1 + k.val, 0, none⟩ v := by
  unfold optW puts
  rw [List.foldl_append]
  rfl
theorem B4v.putObj {W : World} {b D : Nat} {v1 v2 v3 v4 : Value} (h : B4v W b v1 v2 v3 v4) (hD : b + 1 + 1 + 1 + 1 < D) (o : Obj) : B4v (W.putObj D o) b v1 v2 v3 v4 :=
  ⟨(World.putObj_heap_other (by omega)).trans h.one, (World.putObj_heap_other (by omega)).trans h.two, (World.putObj_heap_other (by omega)).trans h.three, (World.putObj_heap_other (by omega)).trans h.four⟩
theorem others4 (W : World) (b : Nat) (u1 u2 u3 u4 : Value) : KeepsOthers W ((((W.setCell ⟨b + 1, 0, none⟩ u1).setCell ⟨b + 1 + 1, 0, none⟩ u2).setCell ⟨b + 1 + 1 + 1, 0, none⟩ u3).setCell ⟨b + 1 + 1 + 1 + 1, 0, none⟩ u4) :=
  (((KeepsOthers.setCell _ _ _).trans (KeepsOthers.setCell _ _ _)).trans (KeepsOthers.setCell _ _ _)).trans (KeepsOthers.setCell _ _ _)
theorem below_set4 {n₀ : Nat} {w W : World} {b : Nat} {u1 u2 u3 u4 : Value} (h : Below n₀ w W) (hb : n₀ ≤ b) :
    Below n₀ w ((((W.setCell ⟨b + 1, 0, none⟩ u1).setCell ⟨b + 1 + 1, 0, none⟩ u2).setCell ⟨b + 1 + 1 + 1, 0, none⟩ u3).setCell ⟨b + 1 + 1 + 1 + 1, 0, none⟩ u4) :=
  (((h.setCell (p := ⟨b + 1, 0, none⟩) (by show n₀ ≤ b + 1; omega) _).setCell (p := ⟨b + 1 + 1, 0, none⟩) (by show n₀ ≤ b + 1 + 1; omega) _).setCell (p := ⟨b + 1 + 1 + 1, 0, none⟩) (by show n₀ ≤ b + 1 + 1 + 1; omega) _).setCell (p := ⟨b + 1 + 1 + 1 + 1, 0, none⟩) (by show n₀ ≤ b + 1 + 1 + 1 + 1; omega) _
theorem results4 (T : Array Value) (b : Nat) (x y : Int) (u v : Bool) (W : World) (h : B4 W b x y u v) (h4 : T[4]?.getD undef = .pointer (some ⟨b + 1, 0, none⟩)) (h5 : T[5]?.getD undef = .pointer (some ⟨b + 1 + 1, 0, none⟩)) (h6 : T[6]?.getD undef = .pointer (some ⟨b + 1 + 1 + 1, 0, none⟩)) (h7 : T[7]?.getD undef = .pointer (some ⟨b + 1 + 1 + 1 + 1, 0, none⟩)) :
    (results Try.f25 T).run Try.prog W = .ok (.tuple #[.int .i64 x, .int .i64 y, .bool u, .bool v]) W := by
  have c1 := h.one.cell
  have c2 := h.two.cell
  have c3 := h.three.cell
  have c4 := h.four.cell
  simp [results, Try.results25, go_sem, h4, h5, h6, h7, c1, c2, c3, c4]
def NoC (l m : List (Int × Int)) (L : List Dt) (pre : List (Px l m)) : Prop := (pre.map (fun x => x.1)).find? (cf (own l L)) = none
theorem noC_next {l m : List (Int × Int)} {L : List Dt} {pre : List (Px l m)} {x : Px l m} (h : NoC l m L pre) (hx : cf (own l L) x.1 = false) : NoC l m L (pre ++ [x]) := by
  unfold NoC at *
  rw [List.map_append]
  exact fc_next h hx
theorem others_below {W W' : World} (h : Below W.heap.size W W') : KeepsOthers W W' :=
  ⟨h.size, fun k o hk _ => (h.block k (Array.getElem?_eq_some_iff.1 hk).1).trans hk⟩
theorem ints_of {w : World} {B g n : Nat} {T : TypeId} {O : List (Int × Int)} (h : w.ownsRow B T 2 (.slice (some ⟨g, 0, none⟩) n n) n (flat O)) : Ints w g := by
  obtain ⟨h1, h2⟩ := h
  rcases h2 with ⟨e, _⟩ | ⟨g', cap, cur, e, hB, hg, hle, hcap, hsz, hcur⟩
  · cases e
  · injection e with e1 e2 e3
    injection e1 with e1
    injection e1 with e1
    subst e1 e3
    refine ⟨fun es c h => (by rw [hg] at h; cases h), fun r h => ?_⟩
    unfold World.cell? at h
    rw [hg] at h
    simp only [Option.isSome_none, Bool.false_eq_true, if_false] at h
    have hm : (Value.map r) ∈ flat O := by
      rw [← hcur]
      have h0 : cur.toList[0]? = some (.map r) := by rw [Array.getElem?_toList]; exact h
      have hl : (cur.toList.take (n * 2)) = cur.toList := List.take_of_length_le (by rw [Array.length_toList, hsz]; exact Nat.le_refl _)
      rw [hl]
      exact List.mem_of_getElem? h0
    unfold flat at hm
    rw [List.mem_flatMap] at hm
    obtain ⟨p, _, hp⟩ := hm
    simp at hp
set_option maxRecDepth 100000 in
set_option maxHeartbeats 8000000 in
theorem impl_any : Says4 25 := by
  intro a1 a2 p n1 c1 n2 c2 np cp l m L w z1 z2 z3 h1 h2 h3
  obtain ⟨W, hW, hWs, k0, k1, k2, k3, k4, hb⟩ := boxes5 w (.slice a1 n1 c1) (.slice a2 n2 c2) (.int .i64 0) (.int .i64 0) (.bool false) (.bool false) 33 3 3 4 4
  have H1 := Lib.hid (h1.below hb)
  have HH1 := Lib.hid h1
  have H2 := Lib.hid (h2.below hb)
  have H3 := Lib.hid (h3.below hb)
  have HB := Lib.hid hb
  have HK := Lib.hid (And.intro k0 (And.intro k1 (And.intro k2 (And.intro k3 k4))))
  have HE := Lib.hid (EvP.impl_any a1 a2 p n1 c1 n2 c2 np cp l m L W z1 z2 z3 H1.out H2.out H3.out)
  have f1 : W.cell? ⟨w.heap.size, 0, none⟩ = some (.slice a1 n1 c1) := by unfold World.cell?; rw [k0]; rfl
  have f2 : W.cell? ⟨w.heap.size, 1, none⟩ = some (.slice a2 n2 c2) := by unfold World.cell?; rw [k0]; rfl
  clear h1 h2 h3 hb k0 k1 k2 k3 k4
  refine (callsIn_wide (n := 8)).1 ?_
  refine callsIn_of_wp_marks Try.func25 rfl trivial ?_ rfl
  simp only [Try.ntmps25, List.size_toArray, List.length_cons, List.length_nil, Nat.reduceAdd, Nat.reduceSub, Array.replicate_succ, Array.replicate_zero, List.push_toArray, List.append_toArray, List.nil_append, List.cons_append]
  have HR0 : Hid (B4 W w.heap.size 0 0 false false) := ⟨HK.out.2.1, HK.out.2.2.1, HK.out.2.2.2.1, HK.out.2.2.2.2⟩
  cases hev : evP l m L with
  | false =>
    have HF := Lib.hid (fcP_no hev)
    rw [hev] at HE
    clear hev
    gi_upto_region 2 with (refine ⟨trivial, ?_⟩; gi_at_call 17; refine (callsIn_wide.2 HE.out).mono ?_; rintro e w1 ⟨rfl, b1⟩)
    have HR := Lib.hid ((HR0.out.below b1))
    have r1 := HR.out.one.cell
    have r2 := HR.out.two.cell
    have r3 := HR.out.three.cell
    have r4 := HR.out.four.cell
    have r5 := HR.out.one.frozen
    have r6 := HR.out.two.frozen
    have r7 := HR.out.three.frozen
    have r8 := HR.out.four.frozen
    have HB1 := Lib.hid (HB.out.trans (b1.mono HB.out.size))
    clear b1
    gi_wp2
    refine ⟨_, results4 _ w.heap.size 0 0 false false _ HR.out.set rfl rfl rfl rfl, ?_⟩
    rw [HF.out]
    exact ⟨rfl, below_set4 HB1.out (Nat.le_refl _)⟩
  | true =>
    have HF := Lib.hid (fcP_yes hev)
    obtain ⟨hg, hevi⟩ := ev_parts hev
    have HG := Lib.hid hg
    have HEV := Lib.hid hevi
    have hl10 : l.length ≤ 10 := (Table.good_few hg).1
    have hn10 : n1 ≤ 10 := by rw [← H1.out.1]; exact hl10
    rw [hev] at HE
    clear hev hg hevi
    gi_upto_region 3 with (refine ⟨trivial, ?_⟩; gi_at_call 17; refine (callsIn_wide.2 HE.out).mono ?_; rintro e w1 ⟨rfl, b1⟩)
    have HR1 := Lib.hid (HR0.out.below b1)
    have g1 := (b1.cell (p := ⟨w.heap.size, 0, none⟩) (by show w.heap.size < _; omega)).trans f1
    have g2 := (b1.cell (p := ⟨w.heap.size, 1, none⟩) (by show w.heap.size < _; omega)).trans f2
    have HB1 := Lib.hid (HB.out.trans (b1.mono HB.out.size))
    have H11 := Lib.hid (H1.out.below b1)
    have H12 := Lib.hid (H2.out.below b1)
    have H13 := Lib.hid (H3.out.below b1)
    have hs1 := b1.size
    have HI := Lib.hid (intervalsOf_any a1 a2 p n1 c1 n2 c2 np cp l L w1 hn10 z3 H11.out (good_asc HG.out).1 H13.out HEV.out)
    clear b1 f1 f2 HE
    gi_upto_region 4 with (refine ⟨trivial, ?_⟩; gi_at_call 63; refine (callsIn_wide.2 HI.out).mono ?_; rintro e w2 ⟨g, rfl, hO⟩)
    have hgs : w1.heap.size ≤ g := hO.1
    have hgl : g < w2.heap.size := (hO.2.1.lt g rfl).2
    have hs2 : w1.heap.size ≤ w2.heap.size := by omega
    have b2 : Below w1.heap.size w1 w2 := hO.2.2
    have ba := below_alloc w2 (.cells #[.slice (some ⟨g, 0, none⟩) n1 n1] 48)
    have b2a := b2.trans (ba.mono hs2)
    have HO2 := Lib.hid (hO.below ba)
    have HBX : Hid (Boxed (w2.alloc (.cells #[.slice (some ⟨g, 0, none⟩) n1 n1] 48)) w2.heap.size 48 (.slice (some ⟨g, 0, none⟩) n1 n1)) := Boxed.new w2 _ _
    have HR2 := Lib.hid (HR1.out.below b2a)
    have y1 := (b2a.cell (p := ⟨w.heap.size, 0, none⟩) (by show w.heap.size < _; omega)).trans g1
    have y2 := (b2a.cell (p := ⟨w.heap.size, 1, none⟩) (by show w.heap.size < _; omega)).trans g2
    have HB2 := Lib.hid (HB1.out.trans (b2a.mono HB1.out.size))
    have H21 := Lib.hid (H11.out.below b2a)
    have H22 := Lib.hid (H12.out.below b2a)
    have hss : (w2.alloc (.cells #[.slice (some ⟨g, 0, none⟩) n1 n1] 48)).heap.size = w2.heap.size + 1 := by simp
    have HLP := Lib.hid (laterPairs_any a1 a2 n1 c1 n2 c2 l m _ HG.out H21.out H22.out)
    clear g1 g2 b2 ba b2a hO HI
    obtain ⟨W2, hW2⟩ : ∃ W2, w2.alloc (.cells #[.slice (some ⟨g, 0, none⟩) n1 n1] 48) = W2 := ⟨_, rfl⟩
    rw [hW2] at HO2 HBX HR2 y1 y2 HB2 H21 H22 hss HLP ⊢
    clear hW2
    gi_wp2_with (refine ⟨trivial, ?_⟩; gi_at_call 64; refine (callsIn_wide.2 HLP.out).mono ?_; rintro e w3 ⟨br, bo, bx, rfl, lr, lo, lord, lbr, lbo, lb⟩)
    have HEnv : Hid (Env w3 l m a1 n1 c1 br bo bx g) := by
      refine ⟨HG.out, lr, lo, lord, H21.out.below lb, by omega, by omega, fun hp b off e => ?_, ints_of (ownsRow_below HO2.out.2.1 lb), Nat.lt_of_lt_of_le (by omega) lb.size⟩
      rcases H11.out.2 with h | ⟨b', off', e', hb', _⟩
      · omega
      · rw [e] at e'
        injection e' with e'
        injection e' with e'
        omega
    have HB3 := Lib.hid (HB2.out.trans (lb.mono HB2.out.size))
    have HO3 := Lib.hid (HO2.out.below lb)
    have HBX3 : Hid (w3.cell? ⟨w2.heap.size, 0, none⟩ = some (.slice (some ⟨g, 0, none⟩) n1 n1)) := (lb.cell HBX.out.lt).trans HBX.out.cell
    have HR3 := Lib.hid (HR2.out.below lb)
    have HY3 : Hid (w3.cell? ⟨w.heap.size, 0, none⟩ = some (.slice a1 n1 c1)) := (lb.cell (p := ⟨w.heap.size, 0, none⟩) (by show w.heap.size < _; omega)).trans y1
    have H31 := Lib.hid (H21.out.below lb)
    have hlb := lb.size
    have HNB : Hid (∀ b off, a1 = some ⟨b, off, none⟩ → 0 < n1 → b ≤ w.heap.size ∨ w.heap.size + 1 + 3 < b) := by
      intro b off e hp
      rcases HH1.out.2 with h | ⟨b', off', e', hb', _⟩
      · omega
      · rw [e] at e'
        injection e' with e'
        injection e' with e'
        omega
    have HLT : Hid (w.heap.size + 1 + 1 + 1 + 1 < w3.heap.size ∧ w2.heap.size < w3.heap.size) := ⟨by omega, by omega⟩
    clear lr lo lord lbr lbo lb y1 y2 HLP
    refine wpIn_rangeFunc_ownF (α := Px l m) rfl (by decide) (gf := 100) (lb := #[.pointer (some ⟨br, 0, none⟩), .pointer (some ⟨bo, 0, none⟩)]) rfl trivial (enters_of Try.func100 (by kernel_rfl) rfl)
      (lp_stops 7 (by omega) l m a1 n1 c1 br bo bx g w3.heap.size w3 rfl HEnv.out) (fun h k => h.trans k) (fun W l0 o o' hl ho hc _ => kpB_b W l0 o o' hl ho hc) (Below.refl _ _) (fun _ => rfl)
      (fun pre W => NoC l m L pre ∧ Below w3.heap.size w3 W)
      (fun c pre W => c = .ret ∧ ∃ (x : Nat × Nat) (pre' : List (Nat × Nat)), pre.map (·.1) = pre' ++ [x] ∧ pre'.find? (cf (own l L)) = none ∧ cf (own l L) x = true ∧ B4 W w.heap.size (num l x.1) (num l x.2) true true ∧ Below w.heap.size w W)
      (OwnFrom.and (ownFrom_pure _ _) (ownFrom_below (Nat.le_refl _) (Nat.le_refl _))) ?ownx ⟨(rfl : NoC l m L []), Below.refl _ _⟩ ?a1 ?assign ?body ?done ?stop
    case ownx =>
      intro c pre W W' row hs hg hr
      obtain ⟨e, x, pre', h1, h2, h3, h4, h5⟩ := hs
      have hlt := HLT.out.1
      have hne : ∀ k, k < w3.heap.size → some k ≠ row := fun k hk e => by
        have := (hr k e.symm).1
        omega
      refine ⟨e, x, pre', h1, h2, h3, ⟨h4.one.kept hg (hne _ (by omega)), h4.two.kept hg (hne _ (by omega)), h4.three.kept hg (hne _ (by omega)), h4.four.kept hg (hne _ (by omega))⟩, h5.grown hg h5.size (fun k hk => ?_)⟩
      have := (hr k hk).1
      omega
    case assign =>
      intro l0 x W K hK
      gi_wp2
      exact hK
    case body =>
      rintro l0 pre x W ⟨hf, hbW⟩ _
      obtain ⟨⟨i, j⟩, hx⟩ := x
      obtain ⟨hi, hj, _⟩ := mem_prs.1 hx
      simp only at hi hj
      obtain ⟨⟨oa, ob⟩, ho1⟩ : ∃ q, (own l L)[i]? = some q := ⟨_, List.getElem?_eq_getElem (by rw [own_len]; exact hi)⟩
      obtain ⟨⟨pa, pb⟩, ho2⟩ : ∃ q, (own l L)[j]? = some q := ⟨_, List.getElem?_eq_getElem (by rw [own_len]; exact hj)⟩
      have hln : l.length = n1 := H1.out.1
      have hin : (i : Int) < (n1 : Int) := by omega
      have hjn : (j : Int) < (n1 : Int) := by omega
      have hRow := ownsRow_below HO3.out.2.1 hbW
      have v1 := hRow.cellAt (i * 2 + 1) (by omega)
      have v2 := hRow.cellAt (j * 2) (by omega)
      rw [(flat_get _ _ _ _ ho1).2] at v1
      rw [(flat_get _ _ _ _ ho2).1] at v2
      have v3 := (hbW.cell HLT.out.2).trans HBX3.out
      have v4 := (hbW.cell (p := ⟨w.heap.size, 0, none⟩) (by show w.heap.size < _; have := HLT.out.1; omega)).trans HY3.out
      have HC := Lib.hid (And.intro hbW hf)
      obtain ⟨b1', off1, x1, y1', ha1, hx1, e1, _⟩ := (H31.out.below hbW).at i (by omega)
      obtain ⟨b2', off2, x2, y2', ha2, hx2, e2, _⟩ := (H31.out.below hbW).at j (by omega)
      rw [ha1] at ha2
      injection ha2 with ha2
      injection ha2 with hb1 hb2 _
      subst hb1 hb2
      rw [ha1] at v4
      have HNB1 := Lib.hid (HNB.out _ _ ha1 (by omega))
      have HN1 : Hid (num l i = x1) := num_at hx1
      have HN2 : Hid (num l j = x2) := num_at hx2
      have hcf : cf (own l L) (i, j) = decide (ob < pa) := by unfold cf; rw [tt_at ho1, fr_at ho2]
      have HCF := Lib.hid hcf
      clear hf hRow ho1 ho2 hbW hcf hx1 hx2 ha1
      have k1 := cell_regrown v1
      have k2 := cell_regrown v2
      have k3 := cell_regrown v3
      gi_wp2
      refine region_at (l := l0) 11 (by kernel_rfl) (by kernel_rfl) ?_
      simp only [List.take_succ_cons, List.take_zero, List.drop_succ_cons, List.drop_zero]
      repeat (go_big_quiet_step (fail))
      refine wpQuiet_nil ?_
      intro _ hw'
      obtain ⟨⟨dq, osq⟩, hw''⟩ := hw'
      subst hw''
      have HBQ := Lib.hid (below_regrown W dq osq)
      have u1 := k1 dq osq
      have m4 := cell_regrown v4 dq osq
      have m5 := cell_regrown e1 dq osq
      have m6 := cell_regrown e2 dq osq
      generalize Sort.grow (redrawn W dq) osq = W5 at *
      clear k1 k2 k3 v1 v2 v3 v4 e1 e2 u1
      by_cases hlt : ob < pa
      · rw [decide_eq_true hlt] at HCF
        have HHC := Lib.hid HCF.out
        gi_wp2
        have hbw := HLT.out.1
        have k4 := optW_cell (b := w.heap.size) m4 (by omega)
        have k5 := optW_cell (b := w.heap.size) m5 HNB1.out
        have k6 := optW_cell (b := w.heap.size) m6 HNB1.out
        clear m4 m5 m6
        refine region_held (l := l0) 12 (fun w' => ∃ q : Gw, w' = optW W5 w.heap.size q) (by kernel_rfl) (by kernel_rfl) (fun _ _ _ _ h => h) ⟨⟨W5.drawn + 1, #[], []⟩, by unfold optW puts; rw [Sort.grow_empty]; rfl⟩ ?_
        simp only [List.take_succ_cons, List.take_zero, List.drop_succ_cons, List.drop_zero]
        repeat (go_big_quiet_step (fail))
        refine wpQuiet_nil ?_
        rintro _ ⟨⟨dq2, osq2, s⟩, rfl⟩
        have HB5 : Hid (Below w3.heap.size w3 W5) := HC.out.1.trans (HBQ.out.mono HC.out.1.size)
        have hq := below_regrown W5 dq2 osq2
        have hB6 := HB5.out.trans (hq.mono HB5.out.size)
        have HBW6 : Hid (Below w.heap.size w (optW W5 w.heap.size ⟨dq2, osq2, s⟩)) := puts_below (Nat.le_refl _) _ _ (HB3.out.trans (hB6.mono HB3.out.size))
        have HKO : Hid (KeepsOthers W (optW W5 w.heap.size ⟨dq2, osq2, s⟩)) := puts_others _ _ ((others_below HBQ.out).trans (others_below hq))
        obtain ⟨x1', x2', x3', x4', hR6⟩ : ∃ x1 x2 x3 x4, B4v (optW W5 w.heap.size ⟨dq2, osq2, s⟩) w.heap.size x1 x2 x3 x4 := puts_b4 s _ _ _ _ _ (HR3.out.below hB6)
        have r1 := hR6.one.cell
        have r2 := hR6.two.cell
        have r3 := hR6.three.cell
        have r4 := hR6.four.cell
        have r5 := hR6.one.frozen
        have r6 := hR6.two.frozen
        have r7 := hR6.three.frozen
        have r8 := hR6.four.frozen
        have HR6 := Lib.hid hR6
        clear hR6 hB6 hq
        refine rowH_step (by rfl) ?_
        gi_wp2
        refine ⟨⟨⟨dq2, osq2, s ++ [(0, .int .i64 x1)]⟩, by rw [put_one 0]; rfl⟩, ?_⟩
        refine rowH_step (by rfl) ?_
        gi_wp2
        refine ⟨⟨⟨dq2, osq2, s ++ [(0, .int .i64 x1)] ++ [(1, .int .i64 x2)]⟩, by rw [put_one 1, put_one 0]; rfl⟩, ?_⟩
        refine rowH_step (by rfl) ?_
        gi_wp2
        refine ⟨⟨⟨dq2, osq2, s ++ [(0, .int .i64 x1)] ++ [(1, .int .i64 x2)] ++ [(2, .bool true)]⟩, by rw [put_one 2, put_one 1, put_one 0]; rfl⟩, ?_⟩
        refine rowH_step (by rfl) ?_
        gi_wp2
        refine ⟨⟨⟨dq2, osq2, s ++ [(0, .int .i64 x1)] ++ [(1, .int .i64 x2)] ++ [(2, .bool true)] ++ [(3, .bool true)]⟩, by rw [put_one 3, put_one 2, put_one 1, put_one 0]; rfl⟩, ?_⟩
        refine rowH_nil ?_
        gi_wp2
        refine ⟨((((HKO.out.trans (KeepsOthers.setCell _ _ _)).trans (KeepsOthers.setCell _ _ _)).trans (KeepsOthers.setCell _ _ _)).trans (KeepsOthers.setCell _ _ _)), rfl, (i, j), pre.map (fun x => x.1), by rw [List.map_append]; rfl, (by have h9 := HC.out.2; unfold NoC at h9; exact h9), HHC.out, ?_, below_set4 HBW6.out (Nat.le_refl _)⟩
        rw [show num l (i, j).1 = x1 from HN1.out, show num l (i, j).2 = x2 from HN2.out]
        exact HR6.out.set
      · rw [decide_eq_false hlt] at HCF
        gi_wp2
        exact ⟨others_below HBQ.out, KpB.of_below HBQ.out, noC_next HC.out.2 HCF.out, HC.out.1.trans (HBQ.out.mono HC.out.1.size)⟩
    case done =>
      rintro D xs W hD hS ⟨hf, hbW⟩ hK
      have HRW := Lib.hid (HR3.out.below hbW)
      have r1 := HRW.out.one.cell
      have r2 := HRW.out.two.cell
      have r3 := HRW.out.three.cell
      have r4 := HRW.out.four.cell
      have r5 := HRW.out.one.frozen
      have r6 := HRW.out.two.frozen
      have r7 := HRW.out.three.frozen
      have r8 := HRW.out.four.frozen
      have HQ := Lib.hid (And.intro hf (And.intro (HB3.out.trans (hbW.mono HB3.out.size)) (And.intro hK (And.intro hD hS))))
      clear hf hbW hK hS
      gi_wp2
      have hlt := HLT.out.1
      have hK4 := (others4 W w.heap.size (.int .i64 0) (.int .i64 0) (.bool false) (.bool true)).same D _ HQ.out.2.2.1 rfl
      refine ⟨by simp, .inl ⟨_, _, rfl, run_takeDeferred hK4, ?_⟩⟩
      refine ⟨_, results4 _ w.heap.size 0 0 false true _ (B4v.putObj HRW.out.set (by omega) _) rfl rfl rfl rfl, ?_⟩
      have hn : fc l m L = none := by
        have h9 := HQ.out.1
        unfold NoC at h9
        rw [HQ.out.2.2.2.2] at h9
        exact h9
      rw [HF.out, hn]
      exact ⟨rfl, (below_set4 HQ.out.2.1 (Nat.le_refl _)).trans (belowK_b (w := w) (Nat.le_refl _) _ D _ _ (by omega) hK4 rfl rfl)⟩
    case stop =>
      rintro D c pre W hD hS ⟨rfl, x, pre', hpre, hf, hc, hR, hbW⟩ hK
      have HQ := Lib.hid (And.intro hbW (And.intro hK hR))
      have hfc : fc l m L = some x := by
        rw [hpre] at hS
        exact fc_hit hS hf hc
      have HFC := Lib.hid hfc
      clear hbW hK hR hpre hf hc hS hfc
      gi_wp2
      have hlt := HLT.out.1
      refine ⟨by simp, .inl ⟨_, _, rfl, run_takeDeferred HQ.out.2.1, ?_⟩⟩
      refine ⟨_, results4 _ w.heap.size _ _ true true _ (B4v.putObj HQ.out.2.2 (by omega) _) rfl rfl rfl rfl, ?_⟩
      rw [HF.out, HFC.out]
      exact ⟨rfl, HQ.out.1.trans (belowK_b (w := w) (Nat.le_refl _) _ D _ _ (by omega) HQ.out.2.1 rfl rfl)⟩
end Go.Proofs.Ytmjhgjlnpnkmkaa.FcI

namespace Go.Proofs.Ytmjhgjlnpnkmkaa.PrM
open Go.RowKit Pairs Find2 GoodM Chain Da EvM IvM LpM FcM
theorem lt_trans {l m : List (Int × Int)} {a b c : Nat} (h : lt l m a b = true) (k : lt l m b c = true) : lt l m a c = true := by
  unfold lt at *
  exact later_iff.2 ((later_iff.1 h).trans (later_iff.1 k))
noncomputable def mf (l m O : List (Int × Int)) (i : Nat) : Nat → Int
  | 0 => fr O i
  | k + 1 => if lt l m i k = true then max (mf l m O i k) (fr O k) else mf l m O i k
noncomputable def mt (l m O : List (Int × Int)) (i : Nat) : Nat → Int
  | 0 => tt O i
  | k + 1 => if lt l m k i = true then min (mt l m O i k) (tt O k) else mt l m O i k
theorem mf_own (l m O : List (Int × Int)) (i : Nat) : ∀ k, fr O i ≤ mf l m O i k
  | 0 => Int.le_refl _
  | k + 1 => by
    have := mf_own l m O i k
    unfold mf
    split <;> omega
theorem mt_own (l m O : List (Int × Int)) (i : Nat) : ∀ k, mt l m O i k ≤ tt O i
  | 0 => Int.le_refl _
  | k + 1 => by
    have := mt_own l m O i k
    unfold mt
    split <;> omega
theorem mf_ge {l m : List (Int × Int)} (O : List (Int × Int)) {i j : Nat} (h : lt l m i j = true) : ∀ k, j < k → fr O j ≤ mf l m O i k
  | 0, hj => absurd hj (by omega)
  | k + 1, hj => by
    unfold mf
    by_cases e : j = k
    · subst e
      rw [if_pos h]
      omega
    · have := mf_ge O h k (by omega)
      split <;> omega
theorem mt_le {l m : List (Int × Int)} (O : List (Int × Int)) {i j : Nat} (h : lt l m j i = true) : ∀ k, j < k → mt l m O i k ≤ tt O j
  | 0, hj => absurd hj (by omega)
  | k + 1, hj => by
    unfold mt
    by_cases e : j = k
    · subst e
      rw [if_pos h]
      omega
    · have := mt_le O h k (by omega)
      split <;> omega
theorem mf_is (l m O : List (Int × Int)) (i : Nat) : ∀ k, mf l m O i k = fr O i ∨ ∃ j, j < k ∧ lt l m i j = true ∧ mf l m O i k = fr O j
  | 0 => .inl rfl
  | k + 1 => by
    have ih := mf_is l m O i k
    unfold mf
    split
    · rename_i h
      by_cases c : mf l m O i k ≤ fr O k
      · exact .inr ⟨k, by omega, h, by omega⟩
      · rcases ih with e | ⟨j, hj, hl, e⟩
        · exact .inl (by omega)
        · exact .inr ⟨j, by omega, hl, by omega⟩
    · rcases ih with e | ⟨j, hj, hl, e⟩
      · exact .inl e
      · exact .inr ⟨j, by omega, hl, e⟩
theorem mt_is (l m O : List (Int × Int)) (i : Nat) : ∀ k, mt l m O i k = tt O i ∨ ∃ j, j < k ∧ lt l m j i = true ∧ mt l m O i k = tt O j
  | 0 => .inl rfl
  | k + 1 => by
    have ih := mt_is l m O i k
    unfold mt
    split
    · rename_i h
      by_cases c : tt O k ≤ mt l m O i k
      · exact .inr ⟨k, by omega, h, by omega⟩
      · rcases ih with e | ⟨j, hj, hl, e⟩
        · exact .inl (by omega)
        · exact .inr ⟨j, by omega, hl, by omega⟩
    · rcases ih with e | ⟨j, hj, hl, e⟩
      · exact .inl e
      · exact .inr ⟨j, by omega, hl, e⟩
theorem mf_mono {l m : List (Int × Int)} (O : List (Int × Int)) {n i j : Nat} (h : lt l m i j = true) (hj : j < n) : mf l m O j n ≤ mf l m O i n := by
  rcases mf_is l m O j n with e | ⟨k, hk, hl, e⟩
  · rw [e]; exact mf_ge O h n hj
  · rw [e]; exact mf_ge O (lt_trans h hl) n hk
theorem mt_mono {l m : List (Int × Int)} (O : List (Int × Int)) {n i j : Nat} (h : lt l m i j = true) (hi : i < n) : mt l m O j n ≤ mt l m O i n := by
  rcases mt_is l m O i n with e | ⟨k, hk, hl, e⟩
  · rw [e]; exact mt_le O h n hi
  · rw [e]; exact mt_le O (lt_trans hl h) n hk
noncomputable def tight (l m O : List (Int × Int)) : List (Int × Int) := (List.range O.length).map fun i => (mf l m O i O.length, mt l m O i O.length)
theorem tight_len (l m O : List (Int × Int)) : (tight l m O).length = O.length := by unfold tight; simp
def put1 (C : List (Int × Int)) (i : Nat) (x : Int) : List (Int × Int) := C.set i (x, tt C i)
def put2 (C : List (Int × Int)) (j : Nat) (y : Int) : List (Int × Int) := C.set j (fr C j, y)
def up1 (C : List (Int × Int)) (x : Nat × Nat) : List (Int × Int) := put1 C x.1 (max (fr C x.1) (fr C x.2))
def stp (C : List (Int × Int)) (x : Nat × Nat) : List (Int × Int) := put2 (up1 C x) x.2 (min (tt (up1 C x) x.2) (tt (up1 C x) x.1))
theorem up1_len (C : List (Int × Int)) (x : Nat × Nat) : (up1 C x).length = C.length := by unfold up1 put1; simp
theorem stp_len (C : List (Int × Int)) (x : Nat × Nat) : (stp C x).length = C.length := by unfold stp put2; rw [List.length_set, up1_len]
theorem fr_set {C : List (Int × Int)} {i : Nat} (p : Int × Int) (k : Nat) (hi : i < C.length) : fr (C.set i p) k = if k = i then p.1 else fr C k := by
  unfold fr
  by_cases h : k = i
  · subst h
    rw [List.getElem?_set_self hi, if_pos rfl]; rfl
  · rw [List.getElem?_set_ne (fun e => h e.symm), if_neg h]
theorem tt_set {C : List (Int × Int)} {i : Nat} (p : Int × Int) (k : Nat) (hi : i < C.length) : tt (C.set i p) k = if k = i then p.2 else tt C k := by
  unfold tt
  by_cases h : k = i
  · subst h
    rw [List.getElem?_set_self hi, if_pos rfl]; rfl
  · rw [List.getElem?_set_ne (fun e => h e.symm), if_neg h]
theorem stp_fr {C : List (Int × Int)} {i j : Nat} (hi : i < C.length) (hj : j < C.length) (k : Nat) : fr (stp C (i, j)) k = if k = i then max (fr C i) (fr C j) else fr C k := by
  unfold stp put2
  rw [fr_set _ _ (by rw [up1_len]; exact hj)]
  unfold up1 put1
  simp only
  rw [fr_set _ _ hi, fr_set _ _ hi]
  by_cases h : k = j
  · subst h; rw [if_pos rfl]
  · rw [if_neg h]
theorem stp_tt {C : List (Int × Int)} {i j : Nat} (hi : i < C.length) (hj : j < C.length) (k : Nat) : tt (stp C (i, j)) k = if k = j then min (tt C j) (tt C i) else tt C k := by
  unfold stp put2
  rw [tt_set _ _ (by rw [up1_len]; exact hj)]
  have e : ∀ q, tt (up1 C (i, j)) q = tt C q := by
    intro q
    unfold up1 put1
    simp only
    rw [tt_set _ _ hi]
    by_cases h : q = i
    · subst h; rw [if_pos rfl]
    · rw [if_neg h]
  rw [e, e, e]
/-- Between what a context has of its own and what it comes to. -/
structure Btw (l m O : List (Int × Int)) (C : List (Int × Int)) : Prop where
  len : C.length = O.length
  f1 : ∀ k, k < O.length → fr O k ≤ fr C k ∧ fr C k ≤ mf l m O k O.length
  t1 : ∀ k, k < O.length → mt l m O k O.length ≤ tt C k ∧ tt C k ≤ tt O k
theorem Btw.start (l m O : List (Int × Int)) : Btw l m O O := ⟨rfl, fun k _ => ⟨Int.le_refl _, mf_own l m O k _⟩, fun k _ => ⟨mt_own l m O k _, Int.le_refl _⟩⟩
theorem Btw.step {l m O C : List (Int × Int)} (h : Btw l m O C) {i j : Nat} (hi : i < O.length) (hj : j < O.length) (hl : lt l m i j = true) : Btw l m O (stp C (i, j)) := by
  have hi' : i < C.length := by rw [h.len]; exact hi
  have hj' : j < C.length := by rw [h.len]; exact hj
  refine ⟨by rw [stp_len]; exact h.len, fun k hk => ?_, fun k hk => ?_⟩
  · rw [stp_fr hi' hj']
    have a := h.f1 k hk
    split
    · rename_i e
      subst e
      have b := h.f1 j hj
      have c := mf_mono O hl hj
      omega
    · exact a
  · rw [stp_tt hi' hj']
    have a := h.t1 k hk
    split
    · rename_i e
      subst e
      have b := h.t1 i hi
      have c := mt_mono O hl hi
      omega
    · exact a
theorem pass {l m O : List (Int × Int)} (S : List (Nat × Nat)) (hS : ∀ x ∈ S, x.1 < O.length ∧ x.2 < O.length ∧ lt l m x.1 x.2 = true) : ∀ C, Btw l m O C →
    Btw l m O (S.foldl stp C) ∧ (∀ k, k < O.length → fr C k ≤ fr (S.foldl stp C) k ∧ tt (S.foldl stp C) k ≤ tt C k) ∧ ∀ x ∈ S, fr O x.2 ≤ fr (S.foldl stp C) x.1 ∧ tt (S.foldl stp C) x.2 ≤ tt O x.1 := by
  induction S with
  | nil => exact fun C h => ⟨h, fun k _ => ⟨Int.le_refl _, Int.le_refl _⟩, fun x hx => by cases hx⟩
  | cons x S ih =>
    intro C h
    obtain ⟨i, j⟩ := x
    obtain ⟨hi, hj, hl⟩ := hS (i, j) (List.mem_cons_self ..)
    simp only at hi hj hl
    have hi' : i < C.length := by rw [h.len]; exact hi
    have hj' : j < C.length := by rw [h.len]; exact hj
    have hs := h.step hi hj hl
    obtain ⟨b1, b2, b3⟩ := ih (fun x hx => hS x (List.mem_cons_of_mem _ hx)) _ hs
    rw [List.foldl_cons]
    refine ⟨b1, fun k hk => ?_, fun x hx => ?_⟩
    · have a := b2 k hk
      rw [stp_fr hi' hj', stp_tt hi' hj'] at a
      have c1 : fr C k ≤ if k = i then max (fr C i) (fr C j) else fr C k := by
        split
        · rename_i e; subst e; omega
        · exact Int.le_refl _
      have c2 : (if k = j then min (tt C j) (tt C i) else tt C k) ≤ tt C k := by
        split
        · rename_i e; subst e; omega
        · exact Int.le_refl _
      exact ⟨Int.le_trans c1 a.1, Int.le_trans a.2 c2⟩
    · rcases List.mem_cons.1 hx with e | hx
      · subst e
        have a1 := (b2 i hi).1
        have a2 := (b2 j hj).2
        rw [stp_fr hi' hj', if_pos rfl] at a1
        rw [stp_tt hi' hj', if_pos rfl] at a2
        have f := h.f1 j hj
        have t := h.t1 i hi
        simp only
        omega
      · exact b3 x hx
theorem pass_is {l m O : List (Int × Int)} (hO : O.length = l.length) : (prs l m).foldl stp O = tight l m O := by
  obtain ⟨b1, b2, b3⟩ := pass (l := l) (m := m) (O := O) (prs l m) (fun x hx => by rw [hO]; exact mem_prs.1 hx) O (Btw.start l m O)
  generalize hC : (prs l m).foldl stp O = C at *
  apply List.ext_getElem?
  intro k
  by_cases hk : k < O.length
  · obtain ⟨⟨x, y⟩, hx⟩ : ∃ p, C[k]? = some p := ⟨_, List.getElem?_eq_getElem (by rw [b1.len]; exact hk)⟩
    have ef : fr C k = x := fr_at hx
    have et : tt C k = y := tt_at hx
    have ht : (tight l m O)[k]? = some (mf l m O k O.length, mt l m O k O.length) := by
      unfold tight
      rw [List.getElem?_map, List.getElem?_range hk]
      rfl
    have h1 : fr C k = mf l m O k O.length := by
      have u := (b1.f1 k hk)
      rcases mf_is l m O k O.length with e | ⟨j, hj, hl, e⟩
      · omega
      · have := (b3 (k, j) (mem_prs.2 ⟨by rw [← hO]; exact hk, by rw [← hO]; exact hj, hl⟩)).1
        simp only at this
        omega
    have h2 : tt C k = mt l m O k O.length := by
      have u := (b1.t1 k hk)
      rcases mt_is l m O k O.length with e | ⟨j, hj, hl, e⟩
      · omega
      · have := (b3 (j, k) (mem_prs.2 ⟨by rw [← hO]; exact hj, by rw [← hO]; exact hk, hl⟩)).2
        simp only at this
        omega
    rw [hx, ht, ← h1, ← h2, ef, et]
  · rw [List.getElem?_eq_none (by rw [b1.len]; omega), List.getElem?_eq_none (by rw [tight_len]; omega)]
theorem own_ok {l : List (Int × Int)} {L : List Dt} (h : evi l L = true) (i : Nat) (hi : i < l.length) : fr (own l L) i ≤ tt (own l L) i := by
  obtain ⟨⟨a, b⟩, hl⟩ : ∃ p, l[i]? = some p := ⟨_, List.getElem?_eq_getElem hi⟩
  have e := own_at (L := L) hl
  have ho : (iv L a).1 ≤ (iv L a).2 := by
    unfold iv
    cases hf : L.find? (fun x => x.1 == a) with
    | none => decide
    | some x =>
      obtain ⟨u, y, z⟩ := x
      have hm := List.mem_of_find?_eq_some hf
      obtain ⟨k, hk, e⟩ := List.mem_iff_getElem.1 hm
      have hv := (evi_at h (k := k) (x := u) (y := y) (z := z) (by rw [List.getElem?_eq_getElem hk, e])).2
      unfold ivl at hv
      simp only [Bool.and_eq_true, decide_eq_true_eq] at hv
      exact hv.2
  have e2 : (own l L)[i]? = some ((iv L a).1, (iv L a).2) := e
  rw [fr_at e2, tt_at e2]
  exact ho
noncomputable def okK (l m O : List (Int × Int)) (i : Nat) : Bool := (List.range i).all fun k => decide (mf l m O k O.length ≤ mt l m O k O.length)
theorem ok_iff {l m : List (Int × Int)} {L : List Dt} (h : evi l L = true) : okK l m (own l L) l.length = true ↔ fc l m L = none := by
  have hO : (own l L).length = l.length := own_len l L
  unfold okK fc
  rw [List.all_eq_true, List.find?_eq_none]
  constructor
  · intro ha x hx
    obtain ⟨h1, h2, h3⟩ := mem_prs.1 hx
    have a := of_decide_eq_true (ha x.1 (List.mem_range.2 h1))
    have b := mf_ge (own l L) h3 (own l L).length (by rw [hO]; exact h2)
    have c := mt_own l m (own l L) x.1 (own l L).length
    unfold cf
    simp only [decide_eq_true_eq]
    omega
  · intro ha k hk
    have hk := List.mem_range.1 hk
    apply decide_eq_true
    have no : ∀ i j, i < l.length → j < l.length → lt l m i j = true → fr (own l L) j ≤ tt (own l L) i := by
      intro i j hi hj hl
      have := ha (i, j) (mem_prs.2 ⟨hi, hj, hl⟩)
      unfold cf at this
      simp only [decide_eq_true_eq] at this
      omega
    rcases mf_is l m (own l L) k (own l L).length with e | ⟨j, hj, hl, e⟩ <;> rcases mt_is l m (own l L) k (own l L).length with e2 | ⟨j2, hj2, hl2, e2⟩ <;> rw [e, e2]
    · exact own_ok h k hk
    · exact no j2 k (by omega) hk hl2
    · exact no k j hk (by omega) hl
    · exact no j2 j (by omega) (by omega) (lt_trans hl2 hl)
noncomputable def prP (l m : List (Int × Int)) (L : List Dt) : Option (List (Int × Int)) := if evP l m L = true then (if fc l m L = none then some (tight l m (own l L)) else none) else none
theorem prP_ev {l m : List (Int × Int)} {L : List Dt} (h : evP l m L = false) : prP l m L = none := by unfold prP; rw [if_neg (by rw [h]; simp)]
theorem prP_no {l m : List (Int × Int)} {L : List Dt} {x : Nat × Nat} (h : fc l m L = some x) : prP l m L = none := by unfold prP; rw [h]; simp
theorem prP_yes {l m : List (Int × Int)} {L : List Dt} (h : evP l m L = true) (h2 : fc l m L = none) : prP l m L = some (tight l m (own l L)) := by unfold prP; rw [if_pos h, if_pos h2]
end Go.Proofs.Ytmjhgjlnpnkmkaa.PrM

namespace Go.Proofs.Ytmjhgjlnpnkmkaa.PrI
open Go.RowKit Go.Shelf Pairs Rec RecEq Chain Find2 GoodM Keep GivesI Order Idx Da DaT DaG EvM EvP IvM IvI LpM LpI LpF FcM FcI PrM Qsp Qsh
attribute [local go_sem] Oper.semAt_some
set_option linter.unusedVariables false
def SaysV (f : FuncId) : Prop := ∀ (a1 a2 p : Option Addr) (n1 c1 n2 c2 np cp : Nat) (l m : List (Int × Int)) (L : List Dt) (w : World), n1 ≤ 1048576 → n2 ≤ 1048576 → np ≤ 1048576 → Holds w a1 n1 l → Holds w a2 n2 m → HoldsD w p np L →
    Calls Try.prog f #[.agg #[.slice a1 n1 c1, .slice a2 n2 c2], .slice p np cp] w (ResV (prP l m L).isSome ((prP l m L).getD []) w)
/-- The row of intervals as a block of its own. -/
def IvR (W : World) (g : Nat) (C : List (Int × Int)) : Prop := W.heap[g]? = some (.cells (flat C).toArray 64)
theorem ivr_of {w : World} {B g n : Nat} {O : List (Int × Int)} (h : w.ownsRow B 64 2 (.slice (some ⟨g, 0, none⟩) n n) n (flat O)) : IvR w g O := by
  obtain ⟨h1, h2⟩ := h
  rcases h2 with ⟨e, _⟩ | ⟨g', cap, cur, e, hB, hg, hle, hcap, hsz, hcur⟩
  · cases e
  · injection e with e1 e2 e3
    injection e1 with e1
    injection e1 with e1
    subst e1 e3
    have hl : (cur.toList.take (n * 2)) = cur.toList := List.take_of_length_le (by rw [Array.length_toList, hsz]; exact Nat.le_refl _)
    rw [hl] at hcur
    unfold IvR
    rw [hg, ← hcur]
theorem IvR.at {W : World} {g : Nat} {C : List (Int × Int)} (h : IvR W g C) {i : Nat} (hi : i < C.length) :
    W.cell? ⟨g, i * 2, none⟩ = some (.int .i64 (fr C i)) ∧ W.cell? ⟨g, i * 2 + 1, none⟩ = some (.int .i64 (tt C i)) ∧ W.frozen? ⟨g, i * 2, none⟩ = false ∧ W.frozen? ⟨g, i * 2 + 1, none⟩ = false := by
  obtain ⟨⟨x, y⟩, hx⟩ : ∃ p, C[i]? = some p := ⟨_, List.getElem?_eq_getElem hi⟩
  have e := flat_get C i x y hx
  rw [fr_at hx, tt_at hx]
  refine ⟨?_, ?_, ?_, ?_⟩
  · unfold World.cell?; rw [h]; simpa using e.1
  · unfold World.cell?; rw [h]; simpa using e.2
  · unfold World.frozen?; rw [h]; rfl
  · unfold World.frozen?; rw [h]; rfl
theorem IvR.lt {W : World} {g : Nat} {C : List (Int × Int)} (h : IvR W g C) : g < W.heap.size := (Array.getElem?_eq_some_iff.1 h).1
theorem IvR.below {W W' : World} {g : Nat} {C : List (Int × Int)} (h : IvR W g C) (hb : Below W.heap.size W W') : IvR W' g C := (hb.block g h.lt).trans h
theorem flat_put (C : List (Int × Int)) (i : Nat) (hi : i < C.length) (x y : Int) : ((flat C).set (i * 2) (.int .i64 x)).set (i * 2 + 1) (.int .i64 y) = flat (C.set i (x, y)) := flat_set C i x y hi
theorem IvR.put1 {W : World} {g : Nat} {C : List (Int × Int)} (h : IvR W g C) {i : Nat} (hi : i < C.length) (x : Int) : IvR (W.setCell ⟨g, i * 2, none⟩ (.int .i64 x)) g (PrM.put1 C i x) := by
  have e := heap_setCell_same W g (i * 2) _ _ (.int .i64 x) h
  unfold IvR PrM.put1
  refine e.trans ?_
  rw [← flat_put C i hi]
  obtain ⟨⟨u, v⟩, hx⟩ : ∃ p, C[i]? = some p := ⟨_, List.getElem?_eq_getElem hi⟩
  have e2 := (flat_get C i u v hx).2
  rw [tt_at hx]
  have e3 : ((flat C).set (i * 2) (.int .i64 x)).set (i * 2 + 1) (.int .i64 v) = (flat C).set (i * 2) (.int .i64 x) := by
    apply List.ext_getElem?
    intro k
    by_cases hk : i * 2 + 1 = k
    · subst hk
      rw [List.getElem?_set_self (by rw [List.length_set, flat_len]; omega), List.getElem?_set_ne (by omega), e2]
    · rw [List.getElem?_set_ne hk]
  rw [e3]
  simp
theorem IvR.put2 {W : World} {g : Nat} {C : List (Int × Int)} (h : IvR W g C) {i : Nat} (hi : i < C.length) (y : Int) : IvR (W.setCell ⟨g, i * 2 + 1, none⟩ (.int .i64 y)) g (PrM.put2 C i y) := by
  have e := heap_setCell_same W g (i * 2 + 1) _ _ (.int .i64 y) h
  unfold IvR PrM.put2
  refine e.trans ?_
  rw [← flat_put C i hi]
  obtain ⟨⟨u, v⟩, hx⟩ : ∃ p, C[i]? = some p := ⟨_, List.getElem?_eq_getElem hi⟩
  have e2 := (flat_get C i u v hx).1
  rw [fr_at hx]
  have e3 : (flat C).set (i * 2) (.int .i64 u) = flat C := by
    apply List.ext_getElem?
    intro k
    by_cases hk : i * 2 = k
    · subst hk
      rw [List.getElem?_set_self (by rw [flat_len]; omega), e2]
    · rw [List.getElem?_set_ne hk]
  rw [e3]
  simp
theorem IvR.own {W : World} {B g : Nat} {C : List (Int × Int)} (h : IvR W g C) (hB : B ≤ g) (hn : C.length ≤ 10) : W.ownsRow B 64 2 (.slice (some ⟨g, 0, none⟩) C.length C.length) C.length (flat C) :=
  ⟨flat_len C, .inr ⟨g, C.length, (flat C).toArray, rfl, hB, h, Nat.le_refl _, by unfold maxLen; omega, by simpa using flat_len C, by simp; exact List.take_of_length_le (by rw [flat_len]; exact Nat.le_refl _)⟩⟩
theorem kpB_set {n₀ B : Nat} (W : World) (o : Nat) (v : Value) : KpB n₀ B W (W.setCell ⟨B, o, none⟩ v) :=
  ⟨by simp, fun i ob h h2 h3 => (Below.heap_setCell _ _ _ _ h2).trans h⟩
theorem ownFrom_ivr {β : Type} {B g : Nat} (hg : g < B) (f : β → List (Int × Int)) : OwnFrom B (fun s W => IvR W g (f s)) :=
  fun s W W' row hs hgr hr => (hgr.block g hs.lt (fun e => by have := (hr g e.symm).1; omega)).trans hs
theorem results_tmp2' {fn : Func} {t u : Tmp} (h : fn.results = #[.tmp t, .tmp u]) (tmps : Array Value) (P : Program) (w : World) :
    (results fn tmps).run P w = .ok (.tuple #[tmps.getD t undef, tmps.getD u undef]) w := by
  simp [results, h]
theorem tt_up1 {C : List (Int × Int)} {x : Nat × Nat} (hi : x.1 < C.length) (q : Nat) : tt (up1 C x) q = tt C q := by
  unfold up1 PrM.put1
  rw [tt_set _ _ hi]
  by_cases h : q = x.1
  · subst h; rw [if_pos rfl]
  · rw [if_neg h]
noncomputable def Cp {l m : List (Int × Int)} (O : List (Int × Int)) (pre : List (Px l m)) : List (Int × Int) := (pre.map (fun x => x.1)).foldl stp O
theorem cp_len {l m : List (Int × Int)} (O : List (Int × Int)) (pre : List (Px l m)) : (Cp O pre).length = O.length := by
  unfold Cp
  generalize pre.map (fun x => x.1) = S
  induction S generalizing O with
  | nil => rfl
  | cons x S ih => rw [List.foldl_cons, ih, stp_len]
theorem cp_next {l m : List (Int × Int)} (O : List (Int × Int)) (pre : List (Px l m)) (x : Px l m) : Cp O (pre ++ [x]) = stp (Cp O pre) x.1 := by
  unfold Cp
  rw [List.map_append, List.foldl_append]
  rfl
set_option maxRecDepth 100000 in
set_option maxHeartbeats 8000000 in
theorem impl_any : SaysV 27 := by
  intro a1 a2 p n1 c1 n2 c2 np cp l m L w z1 z2 z3 h1 h2 h3
  obtain ⟨W, hW⟩ : ∃ W, w.alloc (.cells #[.slice a1 n1 c1, .slice a2 n2 c2] 33) = W := ⟨_, rfl⟩
  have hb : Below w.heap.size w W := by rw [← hW]; exact below_alloc w _
  have hWs : W.heap.size = w.heap.size + 1 := by rw [← hW]; simp
  have f1 : W.cell? ⟨w.heap.size, 0, none⟩ = some (.slice a1 n1 c1) := by rw [← hW]; exact box_first w _ _ _
  have f2 : W.cell? ⟨w.heap.size, 1, none⟩ = some (.slice a2 n2 c2) := by rw [← hW]; exact box_second w _ _ _
  have H1 := Lib.hid (h1.below hb)
  have HH1 := Lib.hid h1
  have H2 := Lib.hid (h2.below hb)
  have H3 := Lib.hid (h3.below hb)
  have HB := Lib.hid hb
  have HE := Lib.hid (FcI.impl_any a1 a2 p n1 c1 n2 c2 np cp l m L W z1 z2 z3 H1.out H2.out H3.out)
  clear h1 h2 h3 hb
  refine (callsIn_wide (n := 8)).1 ?_
  refine callsIn_of_wp_marks Try.func27 rfl trivial ?_ rfl
  simp only [Try.ntmps27, List.size_toArray, List.length_cons, List.length_nil, Nat.reduceAdd, Nat.reduceSub, Array.replicate_succ, Array.replicate_zero, List.push_toArray, List.append_toArray, List.nil_append, List.cons_append]
  by_cases hev : evP l m L = true
  · cases hfc : fc l m L with
    | some x =>
      have HF := Lib.hid (prP_no hfc)
      have hfp : fcP l m L = (num l x.1, num l x.2, true, true) := by rw [fcP_yes hev, hfc]; rfl
      rw [hfp] at HE
      clear hev hfc hfp
      gi_upto_region 3 with (refine ⟨trivial, ?_⟩; gi_at_call 25; refine (callsIn_wide.2 HE.out).mono ?_; rintro e w1 ⟨rfl, b1⟩)
      have HB1 := Lib.hid (HB.out.trans (b1.mono HB.out.size))
      clear b1
      gi_wp2
      refine ⟨_, results_tmp2' rfl _ _ _, ?_⟩
      rw [HF.out]
      exact ⟨_, 0, _, rfl, ownsRow_base (Elems.empty_own w1) HB1.out.size, by omega, HB1.out.trans ((below_alloc w1 _).mono HB1.out.size)⟩
    | none =>
      have HF := Lib.hid (prP_yes hev hfc)
      have HFC := Lib.hid hfc
      have hfp : fcP l m L = (0, 0, false, true) := by rw [fcP_yes hev, hfc]; rfl
      rw [hfp] at HE
      obtain ⟨hg, hevi⟩ := ev_parts hev
      have HG := Lib.hid hg
      have HEV := Lib.hid hevi
      have hl10 : l.length ≤ 10 := (Table.good_few hg).1
      have hln : l.length = n1 := H1.out.1
      have hn10 : n1 ≤ 10 := by omega
      have hol : (own l L).length = n1 := by rw [own_len]; exact hln
      have HOL := Lib.hid hol
      clear hev hfc hfp hg hevi hol
      gi_upto_region 4 with (refine ⟨trivial, ?_⟩; gi_at_call 25; refine (callsIn_wide.2 HE.out).mono ?_; rintro e w1 ⟨rfl, b1⟩)
      have g1 := (b1.cell (World.block_lt_of_cell? W _ f1)).trans f1
      have g2 := (b1.cell (World.block_lt_of_cell? W _ f2)).trans f2
      have HB1 := Lib.hid (HB.out.trans (b1.mono HB.out.size))
      have H11 := Lib.hid (H1.out.below b1)
      have H12 := Lib.hid (H2.out.below b1)
      have H13 := Lib.hid (H3.out.below b1)
      have hs1 := b1.size
      have HI := Lib.hid (intervalsOf_any a1 a2 p n1 c1 n2 c2 np cp l L w1 hn10 z3 H11.out (good_asc HG.out).1 H13.out HEV.out)
      clear b1 f1 f2 HE
      gi_upto_region 5 with (refine ⟨trivial, ?_⟩; gi_at_call 63; refine (callsIn_wide.2 HI.out).mono ?_; rintro e w2 ⟨g, rfl, hO⟩)
      have hgs : w1.heap.size ≤ g := hO.1
      have hgl : g < w2.heap.size := (hO.2.1.lt g rfl).2
      have hs2 : w1.heap.size ≤ w2.heap.size := by omega
      have b2 : Below w1.heap.size w1 w2 := hO.2.2
      have ba := below_alloc w2 (.cells #[.slice (some ⟨g, 0, none⟩) n1 n1] 48)
      have b2a := b2.trans (ba.mono hs2)
      have HO2 := Lib.hid (hO.below ba)
      have HBX : Hid (Boxed (w2.alloc (.cells #[.slice (some ⟨g, 0, none⟩) n1 n1] 48)) w2.heap.size 48 (.slice (some ⟨g, 0, none⟩) n1 n1)) := Boxed.new w2 _ _
      have y1 := (b2a.cell (World.block_lt_of_cell? w1 _ g1)).trans g1
      have y2 := (b2a.cell (World.block_lt_of_cell? w1 _ g2)).trans g2
      have HB2 := Lib.hid (HB1.out.trans (b2a.mono HB1.out.size))
      have HB21 := Lib.hid b2a
      have H21 := Lib.hid (H11.out.below b2a)
      have H22 := Lib.hid (H12.out.below b2a)
      have hss : (w2.alloc (.cells #[.slice (some ⟨g, 0, none⟩) n1 n1] 48)).heap.size = w2.heap.size + 1 := by simp
      have HLP := Lib.hid (laterPairs_any a1 a2 n1 c1 n2 c2 l m _ HG.out H21.out H22.out)
      clear g1 g2 b2 ba b2a hO HI
      obtain ⟨W2, hW2⟩ : ∃ W2, w2.alloc (.cells #[.slice (some ⟨g, 0, none⟩) n1 n1] 48) = W2 := ⟨_, rfl⟩
      rw [hW2] at HO2 HBX y1 y2 HB2 HB21 H21 H22 hss HLP ⊢
      clear hW2
      gi_wp2_with (refine ⟨trivial, ?_⟩; gi_at_call 64; refine (callsIn_wide.2 HLP.out).mono ?_; rintro e w3 ⟨br, bo, bx, rfl, lr, lo, lord, lbr, lbo, lb⟩)
      have HEnv : Hid (Env w3 l m a1 n1 c1 br bo bx g) := by
        refine ⟨HG.out, lr, lo, lord, H21.out.below lb, by omega, by omega, fun hp b off e => ?_, ints_of (ownsRow_below HO2.out.2.1 lb), Nat.lt_of_lt_of_le (by omega) lb.size⟩
        rcases H11.out.2 with h | ⟨b', off', e', hb', _⟩
        · omega
        · rw [e] at e'
          injection e' with e'
          injection e' with e'
          omega
      have HRW3 : Hid (IvR w3 g (own l L)) := by
        have e := ivr_of (O := own l L) HO2.out.2.1
        exact e.below lb
      have hs3 := lb.size
      have HB31 : Hid (Below w1.heap.size w1 w3) := HB21.out.trans (lb.mono HB21.out.size)
      have HBX3 : Hid (Boxed w3 w2.heap.size 48 (.slice (some ⟨g, 0, none⟩) n1 n1)) := (lb.block _ HBX.out.lt).trans HBX.out
      have HLT : Hid (w2.heap.size < w3.heap.size ∧ g < w3.heap.size ∧ g < w2.heap.size ∧ w1.heap.size ≤ g) := ⟨by omega, by omega, by omega, by omega⟩
      clear lr lo lord lbr lbo lb y1 y2 HLP
      refine wpIn_rangeFunc_ownF (α := Px l m) rfl (by decide) (gf := 100) (lb := #[.pointer (some ⟨br, 0, none⟩), .pointer (some ⟨bo, 0, none⟩)]) rfl trivial (enters_of Try.func100 (by kernel_rfl) rfl)
        (lp_stops 7 (by omega) l m a1 n1 c1 br bo bx g w3.heap.size w3 rfl HEnv.out) (fun h k => h.trans k) (fun W l0 o o' hl ho hc _ => kpB_b W l0 o o' hl ho hc) (Below.refl _ _) (fun _ => rfl)
        (fun pre W => IvR W g (Cp (own l L) pre) ∧ (Boxed W w2.heap.size 48 (.slice (some ⟨g, 0, none⟩) n1 n1) ∧ Below w1.heap.size w1 W))
        (fun c pre W => False)
        (OwnFrom.and (ownFrom_ivr (by omega) _) (OwnFrom.and ((boxed_own _ _ _).from _) (ownFrom_below (Nat.le_refl _) (by omega)))) ?ownx ⟨HRW3.out, HBX3.out, HB31.out⟩ ?a1 ?assign ?body ?done ?stop
      case ownx => exact fun c pre W W' row hs hg hr => hs.elim
      case stop => exact fun D c pre W hD hS hs hK => hs.elim
      case assign =>
        intro l0 x W K hK
        gi_wp2
        exact hK
      case body =>
        rintro l0 pre x W ⟨hC, hX, hbW⟩ _
        obtain ⟨⟨i, j⟩, hx⟩ := x
        obtain ⟨hi, hj, _⟩ := mem_prs.1 hx
        simp only at hi hj
        have HN := Lib.hid (cp_next (own l L) pre ⟨(i, j), hx⟩)
        have hcl := cp_len (own l L) pre
        rw [HOL.out] at hcl
        generalize Cp (own l L) pre = C at *
        have hin : (i : Int) < (n1 : Int) := by omega
        have hjn : (j : Int) < (n1 : Int) := by omega
        have hi0 : (0 : Int) ≤ (i : Int) := by omega
        have hj0 : (0 : Int) ≤ (j : Int) := by omega
        have hiC : i < C.length := by omega
        have hjC : j < C.length := by omega
        obtain ⟨v1, _, _, _⟩ := hC.at hiC
        obtain ⟨v2, _, _, _⟩ := hC.at hjC
        have v3 := hX.cell
        have HC := Lib.hid (And.intro hC (And.intro hX hbW))
        have hCL := Lib.hid hcl
        clear hC hX hbW hcl
        have k1 := cell_regrown v1
        have k2 := cell_regrown v2
        have k3 := cell_regrown v3
        by_cases hmf : fr C i < fr C j
        · have hmf2 : fr C i ≤ fr C j := Int.le_of_lt hmf
          have hmf3 : ¬ fr C j ≤ fr C i := by omega
          have hmf4 : ¬ fr C j < fr C i := by omega
          gi_wp2
          refine region_at (l := l0) 13 (by kernel_rfl) (by kernel_rfl) ?_
          simp only [List.take_succ_cons, List.take_zero, List.drop_succ_cons, List.drop_zero]
          repeat (go_big_quiet_step (fail))
          refine wpQuiet_nil ?_
          intro _ hw'
          obtain ⟨⟨dq, osq⟩, hw''⟩ := hw'
          subst hw''
          have HBQ := Lib.hid (below_regrown W dq osq)
          have hC5 := HC.out.1.below HBQ.out
          have HX5 : Hid (Boxed (Sort.grow (redrawn W dq) osq) w2.heap.size 48 (.slice (some ⟨g, 0, none⟩) n1 n1)) := (HBQ.out.block _ HC.out.2.1.lt).trans HC.out.2.1
          have HB5 := Lib.hid (HC.out.2.2.trans (HBQ.out.mono HC.out.2.2.size))
          clear k1 k2 k3 v1 v2 v3
          generalize Sort.grow (redrawn W dq) osq = W5 at *
          obtain ⟨c1', c2', c3', c4'⟩ := hC5.at hiC
          have HC6 : Hid (IvR (W5.setCell ⟨g, i * 2, none⟩ (.int .i64 (max (fr C i) (fr C j)))) g (up1 C (i, j))) := hC5.put1 hiC _
          have HX6 : Hid (Boxed (W5.setCell ⟨g, i * 2, none⟩ (.int .i64 (max (fr C i) (fr C j)))) w2.heap.size 48 (.slice (some ⟨g, 0, none⟩) n1 n1)) := (Below.heap_setCell W5 ⟨g, i * 2, none⟩ _ w2.heap.size (by show w2.heap.size ≠ g; have := HLT.out; omega)).trans HX5.out
          rw [Int.max_eq_right hmf2] at HC6 HX6
          clear hC5
          gi_wp2
          clear c1' c2' c3' c4'
          have HB6 := Lib.hid (HB5.out.setCell (p := ⟨g, i * 2, none⟩) HLT.out.2.2.2 (.int .i64 (fr C j)))
          have HK6 := Lib.hid ((KpB.of_below (n₀ := w3.heap.size) (B := g) HBQ.out).trans (kpB_set W5 (i * 2) (.int .i64 (fr C j))))
          have HO6 := Lib.hid ((others_below HBQ.out).trans (KeepsOthers.setCell W5 ⟨g, i * 2, none⟩ (.int .i64 (fr C j))))
          generalize W5.setCell ⟨g, i * 2, none⟩ (.int .i64 (fr C j)) = W6 at *
          obtain ⟨_, x1, _, _⟩ := HC6.out.at (i := i) (by rw [up1_len]; exact hiC)
          obtain ⟨_, x2, _, _⟩ := HC6.out.at (i := j) (by rw [up1_len]; exact hjC)
          rw [tt_up1 (x := (i, j)) hiC] at x1 x2
          have d3 := HX6.out.cell
          have k1 := cell_regrown x1
          have k2 := cell_regrown x2
          have k3 := cell_regrown d3
          have d1 := x1
          have d2 := x2
          by_cases hmt : tt C i < tt C j
          · have hmt2 : tt C i ≤ tt C j := Int.le_of_lt hmt
            have hmt3 : ¬ tt C j ≤ tt C i := by omega
            have hmt4 : ¬ tt C j < tt C i := by omega
            refine region_at (l := l0) 13 (by kernel_rfl) (by kernel_rfl) ?_
            simp only [List.take_succ_cons, List.take_zero, List.drop_succ_cons, List.drop_zero]
            repeat (go_big_quiet_step (fail))
            refine wpQuiet_nil ?_
            intro _ hw'
            obtain ⟨⟨dq, osq⟩, hw''⟩ := hw'
            subst hw''
            have HBQ2 := Lib.hid (below_regrown W6 dq osq)
            have hC7 := HC6.out.below HBQ2.out
            have HX7 : Hid (Boxed (Sort.grow (redrawn W6 dq) osq) w2.heap.size 48 (.slice (some ⟨g, 0, none⟩) n1 n1)) := (HBQ2.out.block _ HX6.out.lt).trans HX6.out
            have HB7 := Lib.hid (HB6.out.trans (HBQ2.out.mono HB6.out.size))
            have HK7 := Lib.hid (HK6.out.trans (KpB.of_below (n₀ := w3.heap.size) (B := g) HBQ2.out))
            have HO7 := Lib.hid (HO6.out.trans (others_below HBQ2.out))
            clear k1 k2 k3 d1 d2 d3 x1 x2
            generalize Sort.grow (redrawn W6 dq) osq = W7 at *
            obtain ⟨d1', d2', d3', d4'⟩ := hC7.at (i := j) (by rw [up1_len]; exact hjC)
            rw [tt_up1 (x := (i, j)) hiC] at d2'
            have HC8 : Hid (IvR (W7.setCell ⟨g, j * 2 + 1, none⟩ (.int .i64 (min (tt C j) (tt C i)))) g (Cp (own l L) (pre ++ [⟨(i, j), hx⟩]))) := by
              have e := hC7.put2 (i := j) (by rw [up1_len]; exact hjC) (min (tt C j) (tt C i))
              unfold Hid
              rw [HN.out]
              unfold stp
              rw [tt_up1 (x := (i, j)) hiC, tt_up1 (x := (i, j)) hiC]
              exact e
            have HX8 : Hid (Boxed (W7.setCell ⟨g, j * 2 + 1, none⟩ (.int .i64 (min (tt C j) (tt C i)))) w2.heap.size 48 (.slice (some ⟨g, 0, none⟩) n1 n1)) := (Below.heap_setCell W7 ⟨g, j * 2 + 1, none⟩ _ w2.heap.size (by show w2.heap.size ≠ g; have := HLT.out; omega)).trans HX7.out
            rw [Int.min_eq_right hmt2] at HC8 HX8
            clear hC7
            gi_wp2
            exact ⟨HO7.out.trans (KeepsOthers.setCell _ _ _), HK7.out.trans (kpB_set _ _ _), HC8.out, HX8.out, HB7.out.setCell (p := ⟨g, j * 2 + 1, none⟩) HLT.out.2.2.2 _⟩
          · have hmt2 : tt C j ≤ tt C i := by omega
            refine region_at (l := l0) 13 (by kernel_rfl) (by kernel_rfl) ?_
            simp only [List.take_succ_cons, List.take_zero, List.drop_succ_cons, List.drop_zero]
            repeat (go_big_quiet_step (fail))
            refine wpQuiet_nil ?_
            intro _ hw'
            obtain ⟨⟨dq, osq⟩, hw''⟩ := hw'
            subst hw''
            have HBQ2 := Lib.hid (below_regrown W6 dq osq)
            have hC7 := HC6.out.below HBQ2.out
            have HX7 : Hid (Boxed (Sort.grow (redrawn W6 dq) osq) w2.heap.size 48 (.slice (some ⟨g, 0, none⟩) n1 n1)) := (HBQ2.out.block _ HX6.out.lt).trans HX6.out
            have HB7 := Lib.hid (HB6.out.trans (HBQ2.out.mono HB6.out.size))
            have HK7 := Lib.hid (HK6.out.trans (KpB.of_below (n₀ := w3.heap.size) (B := g) HBQ2.out))
            have HO7 := Lib.hid (HO6.out.trans (others_below HBQ2.out))
            clear k1 k2 k3 d1 d2 d3 x1 x2
            generalize Sort.grow (redrawn W6 dq) osq = W7 at *
            obtain ⟨d1', d2', d3', d4'⟩ := hC7.at (i := j) (by rw [up1_len]; exact hjC)
            rw [tt_up1 (x := (i, j)) hiC] at d2'
            have HC8 : Hid (IvR (W7.setCell ⟨g, j * 2 + 1, none⟩ (.int .i64 (min (tt C j) (tt C i)))) g (Cp (own l L) (pre ++ [⟨(i, j), hx⟩]))) := by
              have e := hC7.put2 (i := j) (by rw [up1_len]; exact hjC) (min (tt C j) (tt C i))
              unfold Hid
              rw [HN.out]
              unfold stp
              rw [tt_up1 (x := (i, j)) hiC, tt_up1 (x := (i, j)) hiC]
              exact e
            have HX8 : Hid (Boxed (W7.setCell ⟨g, j * 2 + 1, none⟩ (.int .i64 (min (tt C j) (tt C i)))) w2.heap.size 48 (.slice (some ⟨g, 0, none⟩) n1 n1)) := (Below.heap_setCell W7 ⟨g, j * 2 + 1, none⟩ _ w2.heap.size (by show w2.heap.size ≠ g; have := HLT.out; omega)).trans HX7.out
            rw [Int.min_eq_left hmt2] at HC8 HX8
            clear hC7
            gi_wp2
            exact ⟨HO7.out.trans (KeepsOthers.setCell _ _ _), HK7.out.trans (kpB_set _ _ _), HC8.out, HX8.out, HB7.out.setCell (p := ⟨g, j * 2 + 1, none⟩) HLT.out.2.2.2 _⟩
        · have hmf2 : fr C j ≤ fr C i := by omega
          gi_wp2
          refine region_at (l := l0) 13 (by kernel_rfl) (by kernel_rfl) ?_
          simp only [List.take_succ_cons, List.take_zero, List.drop_succ_cons, List.drop_zero]
          repeat (go_big_quiet_step (fail))
          refine wpQuiet_nil ?_
          intro _ hw'
          obtain ⟨⟨dq, osq⟩, hw''⟩ := hw'
          subst hw''
          have HBQ := Lib.hid (below_regrown W dq osq)
          have hC5 := HC.out.1.below HBQ.out
          have HX5 : Hid (Boxed (Sort.grow (redrawn W dq) osq) w2.heap.size 48 (.slice (some ⟨g, 0, none⟩) n1 n1)) := (HBQ.out.block _ HC.out.2.1.lt).trans HC.out.2.1
          have HB5 := Lib.hid (HC.out.2.2.trans (HBQ.out.mono HC.out.2.2.size))
          clear k1 k2 k3 v1 v2 v3
          generalize Sort.grow (redrawn W dq) osq = W5 at *
          obtain ⟨c1', c2', c3', c4'⟩ := hC5.at hiC
          have HC6 : Hid (IvR (W5.setCell ⟨g, i * 2, none⟩ (.int .i64 (max (fr C i) (fr C j)))) g (up1 C (i, j))) := hC5.put1 hiC _
          have HX6 : Hid (Boxed (W5.setCell ⟨g, i * 2, none⟩ (.int .i64 (max (fr C i) (fr C j)))) w2.heap.size 48 (.slice (some ⟨g, 0, none⟩) n1 n1)) := (Below.heap_setCell W5 ⟨g, i * 2, none⟩ _ w2.heap.size (by show w2.heap.size ≠ g; have := HLT.out; omega)).trans HX5.out
          rw [Int.max_eq_left hmf2] at HC6 HX6
          clear hC5
          gi_wp2
          clear c1' c2' c3' c4'
          have HB6 := Lib.hid (HB5.out.setCell (p := ⟨g, i * 2, none⟩) HLT.out.2.2.2 (.int .i64 (fr C i)))
          have HK6 := Lib.hid ((KpB.of_below (n₀ := w3.heap.size) (B := g) HBQ.out).trans (kpB_set W5 (i * 2) (.int .i64 (fr C i))))
          have HO6 := Lib.hid ((others_below HBQ.out).trans (KeepsOthers.setCell W5 ⟨g, i * 2, none⟩ (.int .i64 (fr C i))))
          generalize W5.setCell ⟨g, i * 2, none⟩ (.int .i64 (fr C i)) = W6 at *
          obtain ⟨_, x1, _, _⟩ := HC6.out.at (i := i) (by rw [up1_len]; exact hiC)
          obtain ⟨_, x2, _, _⟩ := HC6.out.at (i := j) (by rw [up1_len]; exact hjC)
          rw [tt_up1 (x := (i, j)) hiC] at x1 x2
          have d3 := HX6.out.cell
          have k1 := cell_regrown x1
          have k2 := cell_regrown x2
          have k3 := cell_regrown d3
          have d1 := x1
          have d2 := x2
          by_cases hmt : tt C i < tt C j
          · have hmt2 : tt C i ≤ tt C j := Int.le_of_lt hmt
            have hmt3 : ¬ tt C j ≤ tt C i := by omega
            have hmt4 : ¬ tt C j < tt C i := by omega
            refine region_at (l := l0) 13 (by kernel_rfl) (by kernel_rfl) ?_
            simp only [List.take_succ_cons, List.take_zero, List.drop_succ_cons, List.drop_zero]
            repeat (go_big_quiet_step (fail))
            refine wpQuiet_nil ?_
            intro _ hw'
            obtain ⟨⟨dq, osq⟩, hw''⟩ := hw'
            subst hw''
            have HBQ2 := Lib.hid (below_regrown W6 dq osq)
            have hC7 := HC6.out.below HBQ2.out
            have HX7 : Hid (Boxed (Sort.grow (redrawn W6 dq) osq) w2.heap.size 48 (.slice (some ⟨g, 0, none⟩) n1 n1)) := (HBQ2.out.block _ HX6.out.lt).trans HX6.out
            have HB7 := Lib.hid (HB6.out.trans (HBQ2.out.mono HB6.out.size))
            have HK7 := Lib.hid (HK6.out.trans (KpB.of_below (n₀ := w3.heap.size) (B := g) HBQ2.out))
            have HO7 := Lib.hid (HO6.out.trans (others_below HBQ2.out))
            clear k1 k2 k3 d1 d2 d3 x1 x2
            generalize Sort.grow (redrawn W6 dq) osq = W7 at *
            obtain ⟨d1', d2', d3', d4'⟩ := hC7.at (i := j) (by rw [up1_len]; exact hjC)
            rw [tt_up1 (x := (i, j)) hiC] at d2'
            have HC8 : Hid (IvR (W7.setCell ⟨g, j * 2 + 1, none⟩ (.int .i64 (min (tt C j) (tt C i)))) g (Cp (own l L) (pre ++ [⟨(i, j), hx⟩]))) := by
              have e := hC7.put2 (i := j) (by rw [up1_len]; exact hjC) (min (tt C j) (tt C i))
              unfold Hid
              rw [HN.out]
              unfold stp
              rw [tt_up1 (x := (i, j)) hiC, tt_up1 (x := (i, j)) hiC]
              exact e
            have HX8 : Hid (Boxed (W7.setCell ⟨g, j * 2 + 1, none⟩ (.int .i64 (min (tt C j) (tt C i)))) w2.heap.size 48 (.slice (some ⟨g, 0, none⟩) n1 n1)) := (Below.heap_setCell W7 ⟨g, j * 2 + 1, none⟩ _ w2.heap.size (by show w2.heap.size ≠ g; have := HLT.out; omega)).trans HX7.out
            rw [Int.min_eq_right hmt2] at HC8 HX8
            clear hC7
            gi_wp2
            exact ⟨HO7.out.trans (KeepsOthers.setCell _ _ _), HK7.out.trans (kpB_set _ _ _), HC8.out, HX8.out, HB7.out.setCell (p := ⟨g, j * 2 + 1, none⟩) HLT.out.2.2.2 _⟩
          · have hmt2 : tt C j ≤ tt C i := by omega
            refine region_at (l := l0) 13 (by kernel_rfl) (by kernel_rfl) ?_
            simp only [List.take_succ_cons, List.take_zero, List.drop_succ_cons, List.drop_zero]
            repeat (go_big_quiet_step (fail))
            refine wpQuiet_nil ?_
            intro _ hw'
            obtain ⟨⟨dq, osq⟩, hw''⟩ := hw'
            subst hw''
            have HBQ2 := Lib.hid (below_regrown W6 dq osq)
            have hC7 := HC6.out.below HBQ2.out
            have HX7 : Hid (Boxed (Sort.grow (redrawn W6 dq) osq) w2.heap.size 48 (.slice (some ⟨g, 0, none⟩) n1 n1)) := (HBQ2.out.block _ HX6.out.lt).trans HX6.out
            have HB7 := Lib.hid (HB6.out.trans (HBQ2.out.mono HB6.out.size))
            have HK7 := Lib.hid (HK6.out.trans (KpB.of_below (n₀ := w3.heap.size) (B := g) HBQ2.out))
            have HO7 := Lib.hid (HO6.out.trans (others_below HBQ2.out))
            clear k1 k2 k3 d1 d2 d3 x1 x2
            generalize Sort.grow (redrawn W6 dq) osq = W7 at *
            obtain ⟨d1', d2', d3', d4'⟩ := hC7.at (i := j) (by rw [up1_len]; exact hjC)
            rw [tt_up1 (x := (i, j)) hiC] at d2'
            have HC8 : Hid (IvR (W7.setCell ⟨g, j * 2 + 1, none⟩ (.int .i64 (min (tt C j) (tt C i)))) g (Cp (own l L) (pre ++ [⟨(i, j), hx⟩]))) := by
              have e := hC7.put2 (i := j) (by rw [up1_len]; exact hjC) (min (tt C j) (tt C i))
              unfold Hid
              rw [HN.out]
              unfold stp
              rw [tt_up1 (x := (i, j)) hiC, tt_up1 (x := (i, j)) hiC]
              exact e
            have HX8 : Hid (Boxed (W7.setCell ⟨g, j * 2 + 1, none⟩ (.int .i64 (min (tt C j) (tt C i)))) w2.heap.size 48 (.slice (some ⟨g, 0, none⟩) n1 n1)) := (Below.heap_setCell W7 ⟨g, j * 2 + 1, none⟩ _ w2.heap.size (by show w2.heap.size ≠ g; have := HLT.out; omega)).trans HX7.out
            rw [Int.min_eq_left hmt2] at HC8 HX8
            clear hC7
            gi_wp2
            exact ⟨HO7.out.trans (KeepsOthers.setCell _ _ _), HK7.out.trans (kpB_set _ _ _), HC8.out, HX8.out, HB7.out.setCell (p := ⟨g, j * 2 + 1, none⟩) HLT.out.2.2.2 _⟩
      case done =>
        rintro D xs W hD hS ⟨hC, hX, hbW⟩ hK
        have v3 := hX.cell
        have HIT : Hid (Cp (own l L) xs = PrM.tight l m (own l L)) := by
          unfold Hid Cp
          rw [hS]
          exact pass_is (by rw [HOL.out]; exact hln.symm)
        have HQ := Lib.hid (And.intro hC (And.intro (HB1.out.trans (hbW.mono HB1.out.size)) (And.intro hK hD)))
        have hwD : w.heap.size < D := by have := HB1.out.size; have := HLT.out; omega
        have hgD : g < D := by have := HLT.out; omega
        clear hC hX hbW hK hS
        gi_wp2
        refine ⟨by simp, .inl ⟨_, _, rfl, run_takeDeferred HQ.out.2.2.1, ?_⟩⟩
        refine ⟨_, results_tmp2' rfl _ _ _, ?_⟩
        rw [HF.out]
        have htl : (PrM.tight l m (own l L)).length = n1 := by rw [tight_len, HOL.out]
        have hrow : IvR (W.putObj D (.deferred none)) g (PrM.tight l m (own l L)) := by
          rw [← HIT.out]
          exact (World.putObj_heap_other (by omega)).trans HQ.out.1
        have hrow2 := hrow.own (B := w.heap.size) (by have := HB1.out.size; have := HLT.out; omega) (by omega)
        rw [htl] at hrow2
        exact ⟨_, n1, n1, rfl, hrow2, by omega, HQ.out.2.1.trans (belowK_b (w := w) (Nat.le_refl _) _ D _ _ (by omega) HQ.out.2.2.1 rfl rfl)⟩
  · have hev2 : evP l m L = false := by simpa using hev
    have HF := Lib.hid (prP_ev hev2)
    rw [fcP_no hev2] at HE
    clear hev hev2
    gi_upto_region 3 with (refine ⟨trivial, ?_⟩; gi_at_call 25; refine (callsIn_wide.2 HE.out).mono ?_; rintro e w1 ⟨rfl, b1⟩)
    have HB1 := Lib.hid (HB.out.trans (b1.mono HB.out.size))
    clear b1
    gi_wp2
    refine ⟨_, results_tmp2' rfl _ _ _, ?_⟩
    rw [HF.out]
    exact ⟨_, 0, _, rfl, ownsRow_base (Elems.empty_own w1) HB1.out.size, by omega, HB1.out.trans ((below_alloc w1 _).mono HB1.out.size)⟩
end Go.Proofs.Ytmjhgjlnpnkmkaa.PrI

namespace Go.Proofs.Ytmjhgjlnpnkmkaa.Qsw
open Go Go.RowKit Qsp
set_option linter.unusedVariables false
section
variable {P : Program} {ops : Array Oper} {md : Region.Mode} {C : World → Prop} {Q : Exit → Act → World → Prop}
theorem any_of_mix_p {T : Array Bool → Act → Prop} {f2 : Nat} (hT : ∀ listed a, T listed a → ∀ w, C w → wpAny P md ops Q f2 listed a w) :
    ∀ (fuel : Nat) (listed : Array Bool) (a : Act) (w : World), C w → mix P md ops C T fuel listed a → wpAny P md ops Q (fuel + f2) listed a w
  | 0, listed, a, w, hw, h => by rw [Nat.zero_add]; exact hT _ _ h w hw
  | fuel + 1, listed, a, w, hw, h => by
    rw [Nat.add_right_comm]
    exact ⟨fun h0 => absurd h0 h.1, fun i hi => wpOp_of_qOp hw (fun a' w' hw' hh => any_of_mix_p hT fuel _ a' w' hw' hh) (h.2 i hi)⟩
theorem any_of_row_p : ∀ (L : List Oper) (k : Nat) (listed : Array Bool) (a : Act) (w : World), (∀ j o, L[j]? = some o → ops[k + j]? = some o) → rowB md ops L.length k listed = true →
    wpList P ops Q L a w → wpAny P md ops Q L.length listed a w
  | [], k, listed, a, w, _, hB, h => ⟨by simpa [rowB] using hB, h⟩
  | o :: L, k, listed, a, w, hl, hB, h => by
    have h0 : ops[k]? = some o := by simpa using hl 0 o rfl
    simp only [List.length_cons, rowB, Bool.and_eq_true, beq_iff_eq] at hB
    have hK : ∀ a w, wpList P ops Q L a w → wpAny P md ops Q L.length (listed.setIfInBounds k true) a w := fun a w hh =>
      any_of_row_p L (k + 1) _ a w (fun j o' ho' => by have := hl (j + 1) o' (by simpa using ho'); simpa [Nat.add_assoc, Nat.add_comm 1 j] using this) hB.2 hh
    refine ⟨fun h1 => (by rw [hB.1] at h1; cases h1), fun i hi => ?_⟩
    rw [hB.1] at hi
    obtain rfl : i = k := by simpa using hi
    unfold wpOp
    simp only [h0]
    unfold wpList at h
    split
    · rename_i hw
      rw [if_pos hw] at h
      rcases h with h | h
      · exact .inl (Oper.wp_mono hK h)
      · exact .inr h
    · rename_i hw
      rw [if_neg hw] at h
      exact hK _ _ h
theorem region_split_p {id : Nat} {a : Act} {w : World} (L1 L2 : List Oper) (hm : P.follows .mixedOrders = true) (hops : ops = (L1 ++ L2).toArray) (hs : Region.noSelect (L1 ++ L2).toArray = true)
    (hW : waitsB .any (L1 ++ L2).toArray L1.length = true) (hL : lexTo .any (L1 ++ L2).toArray L1.length 0 (Array.replicate (L1 ++ L2).length false) = true)
    (hMk : (List.range L1.length).all (fun j => (marked L1.length 0 (Array.replicate (L1 ++ L2).length false)).getD j true) = true)
    (hR : rowB .any (L1 ++ L2).toArray L2.length L1.length (marked L1.length 0 (Array.replicate (L1 ++ L2).length false)) = true)
    (h : wpQuiet P (L1 ++ L2).toArray (fun w' => ∃ p : Regrown, w' = Sort.grow (redrawn w p.d) p.os) (fun a' => ∀ w', (∃ p : Regrown, w' = Sort.grow (redrawn w p.d) p.os) → wpList P (L1 ++ L2).toArray Q L2 a' w') L1 a) :
    (Code.region id ops true).wp P Q a w := by
  subst hops
  refine wp_region_any hm ?_
  have hC : (fun w' => ∃ p : Regrown, w' = Sort.grow (redrawn w p.d) p.os) { w with drawn := w.drawn + 1 } := ⟨⟨w.drawn + 1, #[]⟩, by rw [Sort.grow_empty]; rfl⟩
  have hsz : (L1 ++ L2).toArray.size = L1.length + L2.length := by simp
  have hlen : (L1 ++ L2).length = L1.length + L2.length := by simp
  rw [hsz]
  have key := any_of_mix_p (P := P) (md := .any) (ops := (L1 ++ L2).toArray) (C := fun w' => ∃ p : Regrown, w' = Sort.grow (redrawn w p.d) p.os) (Q := Q)
    (T := fun listed a' => listed = marked L1.length 0 (Array.replicate (L1 ++ L2).length false) ∧ ∀ w', (∃ p : Regrown, w' = Sort.grow (redrawn w p.d) p.os) → wpList P (L1 ++ L2).toArray Q L2 a' w') (f2 := L2.length)
    (fun listed a' hT w' hw' => by
      rw [hT.1]
      refine any_of_row_p L2 L1.length _ a' w' (fun j o ho => ?_) hR (hT.2 w' hw')
      rw [List.getElem?_toArray, List.getElem?_append_right (by omega), Nat.add_sub_cancel_left]
      exact ho)
    L1.length (Array.replicate (L1 ++ L2).length false) a _ hC ?_
  · rw [hlen] at key
    exact key
  · refine mix_lex (m := L1.length) hs (waits_of hW) (fun listed a' hT j hj => ?_) L1 0 _ a (by omega) (fun j o ho => ?_) hL ?_
    · rw [hT.1]
      exact List.all_eq_true.1 hMk j (List.mem_range.2 hj)
    · rw [Nat.zero_add, List.getElem?_toArray, List.getElem?_append_left (List.getElem?_eq_some_iff.1 ho).1]
      exact ho
    · exact quiet_mono (fun a' ha' => ⟨rfl, ha'⟩) _ _ h
/-- The same, the region written out: its first m operations only read. -/
theorem region_at_p {id : Nat} {a : Act} {w : World} {L : List Oper} (m : Nat) (hm : P.follows .mixedOrders = true) (hB : checkB L m = true)
    (h : wpQuiet P L.toArray (fun w' => ∃ p : Regrown, w' = Sort.grow (redrawn w p.d) p.os) (fun a' => ∀ w', (∃ p : Regrown, w' = Sort.grow (redrawn w p.d) p.os) → wpList P L.toArray Q (L.drop m) a' w') (L.take m) a) :
    (Code.region id L.toArray true).wp P Q a w := by
  unfold checkB at hB
  simp only [Bool.and_eq_true, decide_eq_true_eq] at hB
  obtain ⟨b1, b2, b3, b4, b5, b6, b7⟩ := hB
  have e : L.take m ++ L.drop m = L := List.take_append_drop m L
  have e1 : (L.take m).length = m := by rw [List.length_take]; omega
  have e2 : (L.drop m).length = L.length - m := List.length_drop
  exact region_split_p (L.take m) (L.drop m) hm (by rw [e]) (by rw [e]; exact b2) (by rw [e, e1]; exact b3) (by rw [e, e1]; exact b4) (by rw [e, e1]; exact b5) (by rw [e, e1, e2]; exact b6) (by rw [e]; exact h)
end
end Go.Proofs.Ytmjhgjlnpnkmkaa.Qsw

namespace Go.Proofs.Ytmjhgjlnpnkmkaa.TgS
open Go.RowKit Pairs Rec RecEq Chain Find2 GoodM Keep GivesI Da DaT DaG EvM IvM RepI IvI Elems IvS LpM FcM PrM PrI Lows Order Bit Table Idx That IsLater Consist Qsp Qsw
set_option linter.unusedVariables false
theorem l1Most_is (a b : Int) (w : World) : Calls Try.prog 70 #[.int .i64 a, .int .i64 b] w fun e w' => e = .returned (.int .i64 (max a b)) ∧ Below w.heap.size w w' := by
  go_enter Try.func70, Try.ntmps70
  by_cases h : b < a
  · have e : max a b = a := by omega
    rw [e]
    clear e
    go_wp2_with fail
    go_ret
    exact ⟨rfl, Below.refl _ _⟩
  · have e : max a b = b := by omega
    rw [e]
    clear e
    go_wp2_with fail
    go_ret
    exact ⟨rfl, Below.refl _ _⟩
theorem l1Least_is (a b : Int) (w : World) : Calls Try.prog 71 #[.int .i64 a, .int .i64 b] w fun e w' => e = .returned (.int .i64 (min a b)) ∧ Below w.heap.size w w' := by
  go_enter Try.func71, Try.ntmps71
  by_cases h : a < b
  · have e : min a b = a := by omega
    rw [e]
    clear e
    go_wp2_with fail
    go_ret
    exact ⟨rfl, Below.refl _ _⟩
  · have e : min a b = b := by omega
    rw [e]
    clear e
    go_wp2_with fail
    go_ret
    exact ⟨rfl, Below.refl _ _⟩
theorem Bx.put0 {wr wi : World} {v : Int × Int} (h : Bx wr wi v) (a : Int) : Bx wr (wi.setCell ⟨wr.heap.size, 0, none⟩ (.int .i64 a)) (a, v.2) :=
  ⟨heap_setCell_same wi wr.heap.size 0 _ _ (.int .i64 a) h.1, h.2.setCell (p := ⟨wr.heap.size, 0, none⟩) (Nat.le_refl _) _⟩
theorem Bx.put1 {wr wi : World} {v : Int × Int} (h : Bx wr wi v) (a : Int) : Bx wr (wi.setCell ⟨wr.heap.size, 1, none⟩ (.int .i64 a)) (v.1, a) :=
  ⟨heap_setCell_same wi wr.heap.size 1 _ _ (.int .i64 a) h.1, h.2.setCell (p := ⟨wr.heap.size, 1, none⟩) (Nat.le_refl _) _⟩
theorem mf_hit {l m O : List (Int × Int)} {i k : Nat} (h : lt l m i k = true) : mf l m O i (k + 1) = max (mf l m O i k) (fr O k) := by
  show (if lt l m i k = true then _ else _) = _
  rw [if_pos h]
theorem mf_miss {l m O : List (Int × Int)} {i k : Nat} (h : lt l m i k = false) : mf l m O i (k + 1) = mf l m O i k := by
  show (if lt l m i k = true then _ else _) = _
  rw [if_neg (by rw [h]; simp)]
theorem mt_hit {l m O : List (Int × Int)} {i k : Nat} (h : lt l m k i = true) : mt l m O i (k + 1) = min (mt l m O i k) (tt O k) := by
  show (if lt l m k i = true then _ else _) = _
  rw [if_pos h]
theorem mt_miss {l m O : List (Int × Int)} {i k : Nat} (h : lt l m k i = false) : mt l m O i (k + 1) = mt l m O i k := by
  show (if lt l m k i = true then _ else _) = _
  rw [if_neg (by rw [h]; simp)]
theorem take_tight {l m O : List (Int × Int)} {k : Nat} (h : k < O.length) : (PrM.tight l m O).take (k + 1) = (PrM.tight l m O).take k ++ [(mf l m O k O.length, mt l m O k O.length)] := by
  have e : (PrM.tight l m O)[k]? = some (mf l m O k O.length, mt l m O k O.length) := by
    unfold PrM.tight
    rw [List.getElem?_map, List.getElem?_range h]
    rfl
  rw [List.take_add_one, e]
  rfl
theorem okK_next (l m O : List (Int × Int)) (k : Nat) : okK l m O (k + 1) = (okK l m O k && decide (mf l m O k O.length ≤ mt l m O k O.length)) := by
  unfold okK
  rw [List.range_succ, List.all_append]
  simp only [List.all_cons, List.all_nil, Bool.and_true]
def TgR (ok : Bool) (L : List (Int × Int)) (w : World) (e : Ending) (w' : World) : Prop :=
  ∃ (p : Option Addr) (d : Nat), e = .returned (.tuple #[.slice p L.length d, .bool ok]) ∧ w'.ownsRow w.heap.size 64 2 (.slice p L.length d) L.length (flat L) ∧ Below w.heap.size w w'
set_option maxRecDepth 100000 in
set_option maxHeartbeats 8000000 in
theorem l9Tight_any (a1 a2 p : Option Addr) (n1 c1 n2 c2 np cp : Nat) (l m : List (Int × Int)) (L : List Dt) (w : World) (hg : good l m = true) (hp : np ≤ 1048576) (h : Holds w a1 n1 l) (h2 : Holds w a2 n2 m) (hL : HoldsD w p np L) (hE : evi l L = true) :
    Calls Try.prog 65 #[.agg #[.slice a1 n1 c1, .slice a2 n2 c2], .slice p np cp] w (TgR (okK l m (own l L) l.length) (PrM.tight l m (own l L)) w) := by
  obtain ⟨i0, hi, hy0, hy1, hy2⟩ := info_parts infoV
  obtain ⟨W, hW⟩ : ∃ W, w.alloc (.cells #[.slice a1 n1 c1, .slice a2 n2 c2] 33) = W := ⟨_, rfl⟩
  have hb : Below w.heap.size w W := by rw [← hW]; exact below_alloc w _
  have hf : W.cell? ⟨w.heap.size, 0, none⟩ = some (.slice a1 n1 c1) := by rw [← hW]; exact box_first w _ _ _
  have hf2 : W.cell? ⟨w.heap.size, 1, none⟩ = some (.slice a2 n2 c2) := by rw [← hW]; exact box_second w _ _ _
  have H1 := Lib.hid (h.below hb)
  have H2 := Lib.hid (h2.below hb)
  have HL := Lib.hid (hL.below hb)
  have HG := Lib.hid hg
  have HB := Lib.hid hb
  have hn10 : n1 ≤ 10 := by rw [← h.1]; exact (Table.good_few hg).1
  have HL1 := Lib.hid h.1
  have HLO : Hid ((own l L).length = n1) := by unfold Hid; rw [own_len, h.1]
  have HE := Lib.hid hE
  clear h h2 hL hb hg hE
  obtain ⟨O, hO⟩ : ∃ O, own l L = O := ⟨_, rfl⟩
  rw [hO] at HLO ⊢
  have HOE := Lib.hid hO
  clear hO
  go_enter Try.func65, Try.ntmps65
  go_wp2_with fail
  clear hW
  refine (l9Own_any a1 a2 p n1 c1 n2 c2 np cp l L W hn10 hp H1.out HL.out HE.out).mono ?_
  rw [HOE.out]
  rintro e w2 ⟨p', d, rfl, hown, b2⟩
  rw [HLO.out]
  rw [HLO.out] at hown
  have HO := Lib.hid (Keep.holds_own hown)
  have s1 := (b2.cell (World.block_lt_of_cell? W _ hf)).trans hf
  have s2 := (b2.cell (World.block_lt_of_cell? W _ hf2)).trans hf2
  have HB2 := Lib.hid (HB.out.trans (b2.mono HB.out.size))
  have J1 := Lib.hid (H1.out.below b2)
  have J2 := Lib.hid (H2.out.below b2)
  clear b2 hown hf hf2 H1 H2 HL HE
  go_wp2_with fail
  refine (later_any a1 a2 n1 c1 n2 c2 l m w2 HG.out J1.out J2.out).mono ?_
  rintro e w3 ⟨g, T, rfl, hge, hT, TT, b3⟩
  have HB3 := Lib.hid (HB2.out.trans (b3.mono HB2.out.size))
  have M1 := Lib.hid (J1.out.below b3)
  have MO := Lib.hid (HO.out.below b3)
  have HT := Lib.hid TT
  have HTT := Lib.hid hT
  have HG0 : Hid (GV w3.heap.size w3 (w3.alloc (.cells #[] 64)) (.slice (some ⟨w3.heap.size, 0, none⟩) 0 0) ((PrM.tight l m O).take 0)) := ⟨Elems.empty_own w3, below_alloc w3 _⟩
  have hok0 : Hid (okK l m O 0 = true) := rfl
  clear b3 s1 s2 J1 J2 HO hT TT hge
  go_wp2_with fail
  generalize w3.alloc (.cells #[] 64) = V at *
  go_loopw [8, 9, 10] (fun s8 s9 s10 wr => ∃ (i : Nat) (ok : Bool), i ≤ n1 ∧ s9 = .bool ok ∧ s10 = .int .i64 i ∧ Hid (okK l m O i = ok ∧ GV w3.heap.size w3 wr s8 ((PrM.tight l m O).take i))) (fun _ _ s10 _ => n1 - (intOf s10).toNat)
  case atStart => exact ⟨0, true, Nat.zero_le _, rfl, rfl, hok0.out, HG0.out⟩
  case round =>
    clear HG0 hok0
    obtain ⟨i, ok, hi1, rfl, rfl, HR⟩ := hrel
    obtain ⟨wo, rfl⟩ : ∃ z, z = wr := ⟨wr, rfl⟩
    have HOK := Lib.hid HR.out.1
    have HRR := Lib.hid HR.out.2
    clear HR
    by_cases hlt : i < n1
    · have hin : (i : Int) < (n1 : Int) := by omega
      have hi0 : (0 : Int) ≤ (i : Int) := by omega
      obtain ⟨b3, o3, f1, t1, rfl, ho1, g1, g2⟩ := (MO.out.below HRR.out.2).at i hlt
      have HX0 : Hid (Bx wo (wo.alloc (.cells #[.int .i64 f1, .int .i64 t1] 64)) (mf l m O i 0, mt l m O i 0)) := by
        have e : (mf l m O i 0, mt l m O i 0) = (f1, t1) := by show (fr O i, tt O i) = _; rw [fr_at ho1, tt_at ho1]
        unfold Hid
        rw [e]
        exact Bx.new wo f1 t1
      obtain ⟨bb, off, z, hp1, hz, e1⟩ := (HTT.out.below HRR.out.2).at i hlt
      obtain ⟨xi, hxi, rfl⟩ := row_at hz
      injection hp1 with hp1
      injection hp1 with hp1 hp2
      subst hp1 hp2
      rw [Nat.zero_add] at e1
      obtain ⟨b1, o1, x1, y1, -, hx1, -, -⟩ := (M1.out.below HRR.out.2).at i hlt
      have HXI := Lib.hid hxi
      have HX1 := Lib.hid hx1
      have HE1 := Lib.hid e1
      have hxi10 := bd hn10 (HT.out.bd i xi hxi)
      clear ho1 hxi hz hx1 e1
      go_wp2_with fail
      clear g1 g2
      generalize wo.alloc (.cells #[.int .i64 f1, .int .i64 t1] 64) = Y at *
      go_loopw [12] (fun s12 wi => ∃ j : Nat, j ≤ n1 ∧ s12 = .int .i64 j ∧ Hid (Bx wo wi (mf l m O i j, mt l m O i j))) (fun s12 _ => n1 - (intOf s12).toNat)
      case atStart => exact ⟨0, Nat.zero_le _, rfl, HX0⟩
      case round =>
        clear HX0
        obtain ⟨j, hj, rfl, HI⟩ := hrel
        by_cases hlj : j < n1
        · have hjn : (j : Int) < (n1 : Int) := by omega
          have hj0 : (0 : Int) ≤ (j : Int) := by omega
          obtain ⟨bb, off, z, hp1, hz, e2⟩ := (HTT.out.below HRR.out.2).at j hlj
          obtain ⟨xj, hxj, rfl⟩ := row_at hz
          injection hp1 with hp1
          injection hp1 with hp1 hp2
          subst hp1 hp2
          rw [Nat.zero_add] at e2
          obtain ⟨b1', o1', x2, y2, -, hx2, -, -⟩ := (M1.out.below HRR.out.2).at j hlj
          obtain ⟨b3', o3', f2, t2, hpp, ho2, g3, g4⟩ := (MO.out.below HRR.out.2).at j hlj
          injection hpp with hpp
          injection hpp with hp1 hp2
          subst hp1 hp2
          have hxj10 := bd hn10 (HT.out.bd j xj hxj)
          have HXB1 : Hid (xi.testBit j = lt l m i j) := by
            unfold Hid lt
            rw [LpM.num_at HX1.out, LpM.num_at hx2]
            exact tbit HG.out HL1.out HT.out (Consist.num_at HG.out HX1.out) (Consist.num_at HG.out hx2) HXI.out
          have HXB2 : Hid (xj.testBit i = lt l m j i) := by
            unfold Hid lt
            rw [LpM.num_at HX1.out, LpM.num_at hx2]
            exact tbit HG.out HL1.out HT.out (Consist.num_at HG.out hx2) (Consist.num_at HG.out HX1.out) hxj
          have HF2 : Hid (fr O j = f2 ∧ tt O j = t2) := ⟨fr_at ho2, tt_at ho2⟩
          have HE2 := Lib.hid (And.intro e2 (And.intro g3 g4))
          have q1 := (HI.out.2.cell (World.block_lt_of_cell? wo _ HE1.out)).trans HE1.out
          clear hz hxj hx2 ho2 e2 g3 g4
          cases hp : lt l m i j with
          | false =>
            cases hq : lt l m j i with
            | false =>
              go_wp2_with fail
              refine (l4Bit_any xi j hxi10 (by omega) _).mono ?_
              rintro e wr ⟨rfl, rfl⟩
              rw [HXB1.out, hp]
              have q2 := (HI.out.2.cell (World.block_lt_of_cell? wo _ HE2.out.1)).trans HE2.out.1
              go_wp2_with fail
              refine (l4Bit_any xj i hxj10 (by omega) _).mono ?_
              rintro e wr ⟨rfl, rfl⟩
              rw [HXB2.out, hq]
              go_wp2_with fail
              have HIN : Hid (Bx wo (wr) (mf l m O i (j + 1), mt l m O i (j + 1))) := by
                unfold Hid
                rw [mf_miss hp, mt_miss hq]
                exact HI.out
              exact ⟨⟨j + 1, by omega, by go_num, HIN⟩, by simp [intOf]; omega⟩
            | true =>
              go_wp2_with fail
              refine (l4Bit_any xi j hxi10 (by omega) _).mono ?_
              rintro e wr ⟨rfl, rfl⟩
              rw [HXB1.out, hp]
              have q2 := (HI.out.2.cell (World.block_lt_of_cell? wo _ HE2.out.1)).trans HE2.out.1
              go_wp2_with fail
              refine (l4Bit_any xj i hxj10 (by omega) _).mono ?_
              rintro e wr ⟨rfl, rfl⟩
              rw [HXB2.out, hq]
              go_wp2_with fail
              obtain ⟨⟨c1p, c2p⟩, f1p, f2p⟩ := HI.out.cells
              have q3 := (HI.out.2.cell (World.block_lt_of_cell? wo _ (HE2.out.2.2))).trans (HE2.out.2.2)
              have k1 := cell_regrown c2p
              have k3 := cell_regrown q3
              have cU : ∀ d os, Calls Try.prog 71 #[.int .i64 (mt l m O i j), .int .i64 t2] (Sort.grow (redrawn wr d) os) fun e w'' => e = .returned (.int .i64 (min (mt l m O i j) t2)) ∧ ∃ p : Regrown, w'' = Sort.grow (redrawn wr p.d) p.os := fun d os => Calls.regrown_of (l1Least_is _ _ _)
              refine region_at_p 8 (by kernel_rfl) (by kernel_rfl) ?_
              simp only [List.take_succ_cons, List.take_zero, List.drop_succ_cons, List.drop_zero]
              repeat (go_big_quiet_step ((go_at_call 71; exact cU _ _)))
              refine wpQuiet_nil ?_
              intro _ hw'
              obtain ⟨⟨dq, osq⟩, hw''⟩ := hw'
              subst hw''
              have HIq := Lib.hid (HI.out.quiet dq osq)
              clear k1 k3 cU q3 c1p c2p f1p f2p
              generalize Sort.grow (redrawn wr dq) osq = W7 at *
              obtain ⟨⟨c1p, c2p⟩, f1p, f2p⟩ := HIq.out.cells
              have HI8 := Lib.hid (TgS.Bx.put1 HIq.out (min (mt l m O i j) t2))
              have HIN : Hid (Bx wo (W7.setCell ⟨wo.heap.size, 1, none⟩ (.int .i64 (min (mt l m O i j) t2))) (mf l m O i (j + 1), mt l m O i (j + 1))) := by
                unfold Hid
                rw [mf_miss hp, mt_hit hq, HF2.out.2]
                exact HI8.out
              go_wp2_with fail
              exact ⟨⟨j + 1, by omega, by go_num, HIN⟩, by simp [intOf]; omega⟩
          | true =>
            cases hq : lt l m j i with
            | false =>
              go_wp2_with fail
              refine (l4Bit_any xi j hxi10 (by omega) _).mono ?_
              rintro e wr ⟨rfl, rfl⟩
              rw [HXB1.out, hp]
              go_wp2_with fail
              obtain ⟨⟨c1p, c2p⟩, f1p, f2p⟩ := HI.out.cells
              have q3 := (HI.out.2.cell (World.block_lt_of_cell? wo _ (HE2.out.2.1))).trans (HE2.out.2.1)
              have k1 := cell_regrown c1p
              have k3 := cell_regrown q3
              have cU : ∀ d os, Calls Try.prog 70 #[.int .i64 (mf l m O i j), .int .i64 f2] (Sort.grow (redrawn wr d) os) fun e w'' => e = .returned (.int .i64 (max (mf l m O i j) f2)) ∧ ∃ p : Regrown, w'' = Sort.grow (redrawn wr p.d) p.os := fun d os => Calls.regrown_of (l1Most_is _ _ _)
              refine region_at_p 8 (by kernel_rfl) (by kernel_rfl) ?_
              simp only [List.take_succ_cons, List.take_zero, List.drop_succ_cons, List.drop_zero]
              repeat (go_big_quiet_step ((go_at_call 70; exact cU _ _)))
              refine wpQuiet_nil ?_
              intro _ hw'
              obtain ⟨⟨dq, osq⟩, hw''⟩ := hw'
              subst hw''
              have HIq := Lib.hid (HI.out.quiet dq osq)
              clear k1 k3 cU q3 c1p c2p f1p f2p
              generalize Sort.grow (redrawn wr dq) osq = W5 at *
              obtain ⟨⟨c1p, c2p⟩, f1p, f2p⟩ := HIq.out.cells
              have HI6 := Lib.hid (TgS.Bx.put0 HIq.out (max (mf l m O i j) f2))
              have q2 := (HI6.out.2.cell (World.block_lt_of_cell? wo _ HE2.out.1)).trans HE2.out.1
              go_wp2_with fail
              generalize W5.setCell ⟨wo.heap.size, 0, none⟩ (.int .i64 (max (mf l m O i j) f2)) = W6 at *
              clear c1p c2p f1p f2p HIq
              refine (l4Bit_any xj i hxj10 (by omega) _).mono ?_
              rintro e W6 ⟨rfl, rfl⟩
              rw [HXB2.out, hq]
              go_wp2_with fail
              have HIN : Hid (Bx wo (W6) (mf l m O i (j + 1), mt l m O i (j + 1))) := by
                unfold Hid
                rw [mf_hit hp, mt_miss hq, HF2.out.1]
                exact HI6.out
              exact ⟨⟨j + 1, by omega, by go_num, HIN⟩, by simp [intOf]; omega⟩
            | true =>
              go_wp2_with fail
              refine (l4Bit_any xi j hxi10 (by omega) _).mono ?_
              rintro e wr ⟨rfl, rfl⟩
              rw [HXB1.out, hp]
              go_wp2_with fail
              obtain ⟨⟨c1p, c2p⟩, f1p, f2p⟩ := HI.out.cells
              have q3 := (HI.out.2.cell (World.block_lt_of_cell? wo _ (HE2.out.2.1))).trans (HE2.out.2.1)
              have k1 := cell_regrown c1p
              have k3 := cell_regrown q3
              have cU : ∀ d os, Calls Try.prog 70 #[.int .i64 (mf l m O i j), .int .i64 f2] (Sort.grow (redrawn wr d) os) fun e w'' => e = .returned (.int .i64 (max (mf l m O i j) f2)) ∧ ∃ p : Regrown, w'' = Sort.grow (redrawn wr p.d) p.os := fun d os => Calls.regrown_of (l1Most_is _ _ _)
              refine region_at_p 8 (by kernel_rfl) (by kernel_rfl) ?_
              simp only [List.take_succ_cons, List.take_zero, List.drop_succ_cons, List.drop_zero]
              repeat (go_big_quiet_step ((go_at_call 70; exact cU _ _)))
              refine wpQuiet_nil ?_
              intro _ hw'
              obtain ⟨⟨dq, osq⟩, hw''⟩ := hw'
              subst hw''
              have HIq := Lib.hid (HI.out.quiet dq osq)
              clear k1 k3 cU q3 c1p c2p f1p f2p
              generalize Sort.grow (redrawn wr dq) osq = W5 at *
              obtain ⟨⟨c1p, c2p⟩, f1p, f2p⟩ := HIq.out.cells
              have HI6 := Lib.hid (TgS.Bx.put0 HIq.out (max (mf l m O i j) f2))
              have q2 := (HI6.out.2.cell (World.block_lt_of_cell? wo _ HE2.out.1)).trans HE2.out.1
              go_wp2_with fail
              generalize W5.setCell ⟨wo.heap.size, 0, none⟩ (.int .i64 (max (mf l m O i j) f2)) = W6 at *
              clear c1p c2p f1p f2p HIq
              refine (l4Bit_any xj i hxj10 (by omega) _).mono ?_
              rintro e W6 ⟨rfl, rfl⟩
              rw [HXB2.out, hq]
              go_wp2_with fail
              obtain ⟨⟨c1p, c2p⟩, f1p, f2p⟩ := HI6.out.cells
              have q3 := (HI6.out.2.cell (World.block_lt_of_cell? wo _ (HE2.out.2.2))).trans (HE2.out.2.2)
              have k1 := cell_regrown c2p
              have k3 := cell_regrown q3
              have cU : ∀ d os, Calls Try.prog 71 #[.int .i64 (mt l m O i j), .int .i64 t2] (Sort.grow (redrawn W6 d) os) fun e w'' => e = .returned (.int .i64 (min (mt l m O i j) t2)) ∧ ∃ p : Regrown, w'' = Sort.grow (redrawn W6 p.d) p.os := fun d os => Calls.regrown_of (l1Least_is _ _ _)
              refine region_at_p 8 (by kernel_rfl) (by kernel_rfl) ?_
              simp only [List.take_succ_cons, List.take_zero, List.drop_succ_cons, List.drop_zero]
              repeat (go_big_quiet_step ((go_at_call 71; exact cU _ _)))
              refine wpQuiet_nil ?_
              intro _ hw'
              obtain ⟨⟨dq, osq⟩, hw''⟩ := hw'
              subst hw''
              have HI6q := Lib.hid (HI6.out.quiet dq osq)
              clear k1 k3 cU q3 c1p c2p f1p f2p
              generalize Sort.grow (redrawn W6 dq) osq = W7 at *
              obtain ⟨⟨c1p, c2p⟩, f1p, f2p⟩ := HI6q.out.cells
              have HI8 := Lib.hid (TgS.Bx.put1 HI6q.out (min (mt l m O i j) t2))
              have HIN : Hid (Bx wo (W7.setCell ⟨wo.heap.size, 1, none⟩ (.int .i64 (min (mt l m O i j) t2))) (mf l m O i (j + 1), mt l m O i (j + 1))) := by
                unfold Hid
                rw [mf_hit hp, mt_hit hq, HF2.out.1, HF2.out.2]
                exact HI8.out
              go_wp2_with fail
              exact ⟨⟨j + 1, by omega, by go_num, HIN⟩, by simp [intOf]; omega⟩
        · obtain rfl : j = n1 := by omega
          have hjj : ¬ (j : Int) < (j : Int) := by omega
          obtain ⟨⟨c1p, c2p⟩, f1p, f2p⟩ := HI.out.cells
          have hown := ownsRow_below HRR.out.1 HI.out.2
          have hln : ((PrM.tight l m O).take i).length ≤ 10 := by rw [List.length_take, tight_len]; omega
          have hs5 : w3.heap.size ≤ wr.heap.size := Nat.le_trans HRR.out.2.size HI.out.2.size
          have HTK := Lib.hid (take_tight (l := l) (m := m) (O := O) (k := i) (by rw [HLO.out]; exact hlt))
          have HKN := Lib.hid (okK_next l m O i)
          rw [HLO.out] at HTK HKN
          obtain ⟨F, hF⟩ : ∃ F, mf l m O i j = F := ⟨_, rfl⟩
          obtain ⟨U, hU⟩ : ∃ U, mt l m O i j = U := ⟨_, rfl⟩
          rw [hF, hU] at HI HTK HKN c1p c2p
          clear hF hU
          cases ok with
          | false =>
            have HK2 : Hid (okK l m O (i + 1) = false) := by unfold Hid; rw [HKN.out, HOK.out]; rfl
            go_wp2_with (at_builtin; refine wpList_append_own _ rfl _ _ 48 rfl w3.heap.size 64 i0 (.agg #[.int .i64 0, .int .i64 0]) 2 16 Try.underlying48 hi hy0 hy1 hy2 rfl (by decide) _ _ _ rfl (hown.alloc _) ⟨wr.heap.size, 0, none⟩ 1 1 [.int .i64 F, .int .i64 U] rfl rfl (cell_two_new _ _ _ _) (by simp [Value.oneCell']) (by unfold maxLen; omega) (by omega) (by simp; omega) ?_; intro v' w9 hown' hgrow hnil)
            have HG9 : Hid (GV w3.heap.size w3 w9 v' ((PrM.tight l m O).take (i + 1))) := by
              unfold Hid GV
              rw [HTK.out, List.length_append, Elems.flat_append]
              exact ⟨hown', ((HRR.out.2.trans (HI.out.2.mono HRR.out.2.size)).alloc hs5 _).grown hgrow (by simp; omega) (fun j hj => (hown.lt j hj).1)⟩
            clear hown' hgrow hown hnil
            exact ⟨⟨i + 1, false, by omega, rfl, by go_num, HK2.out, HG9.out⟩, by simp [intOf]; omega⟩
          | true =>
            by_cases hle : F ≤ U
            · have hle2 : decide (F ≤ U) = true := decide_eq_true hle
              have HK2 : Hid (okK l m O (i + 1) = true) := by unfold Hid; rw [HKN.out, HOK.out, hle2]; rfl
              go_wp2_with (at_builtin; refine wpList_append_own _ rfl _ _ 48 rfl w3.heap.size 64 i0 (.agg #[.int .i64 0, .int .i64 0]) 2 16 Try.underlying48 hi hy0 hy1 hy2 rfl (by decide) _ _ _ rfl (hown.alloc _) ⟨wr.heap.size, 0, none⟩ 1 1 [.int .i64 F, .int .i64 U] rfl rfl (cell_two_new _ _ _ _) (by simp [Value.oneCell']) (by unfold maxLen; omega) (by omega) (by simp; omega) ?_; intro v' w9 hown' hgrow hnil)
              have HG9 : Hid (GV w3.heap.size w3 w9 v' ((PrM.tight l m O).take (i + 1))) := by
                unfold Hid GV
                rw [HTK.out, List.length_append, Elems.flat_append]
                exact ⟨hown', ((HRR.out.2.trans (HI.out.2.mono HRR.out.2.size)).alloc hs5 _).grown hgrow (by simp; omega) (fun j hj => (hown.lt j hj).1)⟩
              clear hown' hgrow hown hnil
              exact ⟨⟨i + 1, true, by omega, rfl, by go_num, HK2.out, HG9.out⟩, by simp [intOf]; omega⟩
            · have hle2 : decide (F ≤ U) = false := decide_eq_false hle
              have HK2 : Hid (okK l m O (i + 1) = false) := by unfold Hid; rw [HKN.out, hle2, Bool.and_false]
              go_wp2_with (at_builtin; refine wpList_append_own _ rfl _ _ 48 rfl w3.heap.size 64 i0 (.agg #[.int .i64 0, .int .i64 0]) 2 16 Try.underlying48 hi hy0 hy1 hy2 rfl (by decide) _ _ _ rfl (hown.alloc _) ⟨wr.heap.size, 0, none⟩ 1 1 [.int .i64 F, .int .i64 U] rfl rfl (cell_two_new _ _ _ _) (by simp [Value.oneCell']) (by unfold maxLen; omega) (by omega) (by simp; omega) ?_; intro v' w9 hown' hgrow hnil)
              have HG9 : Hid (GV w3.heap.size w3 w9 v' ((PrM.tight l m O).take (i + 1))) := by
                unfold Hid GV
                rw [HTK.out, List.length_append, Elems.flat_append]
                exact ⟨hown', ((HRR.out.2.trans (HI.out.2.mono HRR.out.2.size)).alloc hs5 _).grown hgrow (by simp; omega) (fun j hj => (hown.lt j hj).1)⟩
              clear hown' hgrow hown hnil
              exact ⟨⟨i + 1, false, by omega, rfl, by go_num, HK2.out, HG9.out⟩, by simp [intOf]; omega⟩
    · obtain rfl : i = n1 := by omega
      have hkn : ¬ (i : Int) < (i : Int) := by omega
      have HO9 : Hid (wo.ownsRow w3.heap.size 64 2 u8 (PrM.tight l m O).length (flat (PrM.tight l m O)) ∧ Below w3.heap.size w3 wo) := by
        have := HRR.out
        rw [List.take_of_length_le (by rw [tight_len, HLO.out]; exact Nat.le_refl _)] at this
        exact this
      have HOK2 : Hid (okK l m O l.length = ok) := by unfold Hid; rw [HL1.out]; exact HOK.out
      clear HRR
      obtain ⟨p9, d9, rfl⟩ := Elems.own_form HO9.out.1
      go_wp2_with fail
      go_ret2
      exact ⟨_, _, by rw [HOK2.out]; rfl, ownsRow_base HO9.out.1 HB3.out.size, HB3.out.trans (HO9.out.2.mono HB3.out.size)⟩
set_option maxRecDepth 100000 in
set_option maxHeartbeats 8000000 in
theorem spec_any : SaysV 26 := by
  intro a1 a2 p n1 c1 n2 c2 np cp l m L w z1 z2 z3 h1 h2 h3
  obtain ⟨W, hW⟩ : ∃ W, w.alloc (.cells #[.slice a1 n1 c1, .slice a2 n2 c2] 33) = W := ⟨_, rfl⟩
  have hb : Below w.heap.size w W := by rw [← hW]; exact below_alloc w _
  have hf : W.cell? ⟨w.heap.size, 0, none⟩ = some (.slice a1 n1 c1) := by rw [← hW]; exact box_first w _ _ _
  have hf2 : W.cell? ⟨w.heap.size, 1, none⟩ = some (.slice a2 n2 c2) := by rw [← hW]; exact box_second w _ _ _
  have H1 := Lib.hid (h1.below hb)
  have H2 := Lib.hid (h2.below hb)
  have H3 := Lib.hid (h3.below hb)
  have HB := Lib.hid hb
  have HLN := Lib.hid h1.1
  clear h1 h2 h3 hb
  go_enter Try.func26, Try.ntmps26
  go_wp2_with fail
  clear hW
  refine (EvS.l9Good_any a1 a2 p n1 c1 n2 c2 np cp l m L W z1 z2 z3 H1.out H2.out H3.out).mono ?_
  rintro e w1 ⟨rfl, b1⟩
  have r1 := (b1.cell (World.block_lt_of_cell? W _ hf)).trans hf
  have r2 := (b1.cell (World.block_lt_of_cell? W _ hf2)).trans hf2
  have HB1 := Lib.hid (HB.out.trans (b1.mono HB.out.size))
  have K1 := Lib.hid (H1.out.below b1)
  have K2 := Lib.hid (H2.out.below b1)
  have K3 := Lib.hid (H3.out.below b1)
  clear b1 hf hf2 H1 H2 H3
  cases hev : evP l m L with
  | false =>
    have HF := Lib.hid (prP_ev hev)
    clear hev
    go_wp2_with fail
    go_ret2
    rw [HF.out]
    exact ⟨_, 0, _, rfl, ownsRow_base (Elems.empty_own w1) HB1.out.size, by omega, HB1.out.trans ((below_alloc w1 _).mono HB1.out.size)⟩
  | true =>
    have HEV := Lib.hid hev
    obtain ⟨hg, hevi⟩ := ev_parts hev
    have HG := Lib.hid hg
    have HEVI := Lib.hid hevi
    have hn10 : l.length ≤ 10 := (Table.good_few hg).1
    clear hev hg hevi
    go_wp2_with fail
    refine (l9Tight_any a1 a2 p n1 c1 n2 c2 np cp l m L w1 HG.out z3 K1.out K2.out K3.out HEVI.out).mono ?_
    rintro e w2 ⟨p', d, rfl, hown, b2⟩
    have HB2 := Lib.hid (HB1.out.trans (b2.mono HB1.out.size))
    have HOW := Lib.hid hown
    have HTL : Hid ((PrM.tight l m (own l L)).length ≤ 10) := by unfold Hid; rw [tight_len, own_len]; exact hn10
    clear b2 hown
    cases hok : okK l m (own l L) l.length with
    | false =>
      have HF : Hid (prP l m L = none) := by
        cases hfc : fc l m L with
        | none => rw [(ok_iff HEVI.out).2 hfc] at hok; cases hok
        | some x => exact prP_no hfc
      clear hok
      go_wp2_with fail
      go_ret2
      rw [HF.out]
      exact ⟨_, 0, _, rfl, ownsRow_base (Elems.empty_own w2) HB2.out.size, by omega, HB2.out.trans ((below_alloc w2 _).mono HB2.out.size)⟩
    | true =>
      have HF := Lib.hid (prP_yes HEV.out ((ok_iff HEVI.out).1 hok))
      clear hok
      go_wp2_with fail
      go_ret2
      rw [HF.out]
      exact ⟨_, _, _, rfl, ownsRow_base HOW.out HB1.out.size, by have := HTL.out; show (PrM.tight l m (own l L)).length ≤ _; omega, HB2.out⟩
end Go.Proofs.Ytmjhgjlnpnkmkaa.TgS

namespace Go.Proofs.Ytmjhgjlnpnkmkaa.SpM
open Go.RowKit Pairs Find2 GoodM Chain Da EvM IvM LpM FcM PrM
structure IsSp (C : List (Int × Int)) (s : Int) : Prop where
  pos : 0 ≤ s
  ge : ∀ a b, a < C.length → b < C.length → fr C a - tt C b ≤ s
  is : s = 0 ∨ ∃ a b, a < C.length ∧ b < C.length ∧ s = fr C a - tt C b
theorem IsSp.eq {C : List (Int × Int)} {s t : Int} (h : IsSp C s) (k : IsSp C t) : s = t := by
  have h1 := h.pos
  have k1 := k.pos
  rcases h.is with e | ⟨a, b, ha, hb, e⟩ <;> rcases k.is with f | ⟨c, d, hc, hd, f⟩
  · omega
  · have := h.ge c d hc hd; omega
  · have := k.ge a b ha hb; omega
  · have x := h.ge c d hc hd
    have y := k.ge a b ha hb
    omega
open Classical in
noncomputable def spv (C : List (Int × Int)) : Int := if h : ∃ s, IsSp C s then h.choose else 0
theorem spv_eq {C : List (Int × Int)} {s : Int} (h : IsSp C s) : spv C = s := by
  unfold spv
  rw [dif_pos ⟨s, h⟩]
  exact (Exists.choose_spec (⟨s, h⟩ : ∃ s, IsSp C s)).eq h
noncomputable def spP (l m : List (Int × Int)) (L : List Dt) : Int × Bool := match prP l m L with | some C => (spv C, true) | none => (0, false)
/-- The program's sum on the way: pairs ahead of (i, j). -/
structure On (C : List (Int × Int)) (i j : Nat) (s : Int) : Prop where
  pos : 0 ≤ s
  ge : ∀ a b, a < C.length → b < C.length → a < i ∨ (a = i ∧ b < j) → fr C a - tt C b ≤ s
  is : s = 0 ∨ ∃ a b, a < C.length ∧ b < C.length ∧ s = fr C a - tt C b
theorem On.start (C : List (Int × Int)) : On C 0 0 0 := ⟨Int.le_refl _, fun a b _ _ h => absurd h (by omega), .inl rfl⟩
theorem On.next {C : List (Int × Int)} {i j : Nat} {s : Int} (h : On C i j s) (hi : i < C.length) (hj : j < C.length) : On C i (j + 1) (max s (fr C i - tt C j)) := by
  have hp := h.pos
  refine ⟨by omega, fun a b ha hb hab => ?_, ?_⟩
  · by_cases e : a = i ∧ b = j
    · obtain ⟨rfl, rfl⟩ := e
      omega
    · have := h.ge a b ha hb (by omega)
      omega
  · by_cases e : s ≤ fr C i - tt C j
    · exact .inr ⟨i, j, hi, hj, by omega⟩
    · rcases h.is with f | ⟨a, b, ha, hb, f⟩
      · exact .inl (by omega)
      · exact .inr ⟨a, b, ha, hb, by omega⟩
theorem On.row {C : List (Int × Int)} {i : Nat} {s : Int} (h : On C i C.length s) : On C (i + 1) 0 s := ⟨h.pos, fun a b ha hb hab => h.ge a b ha hb (by omega), h.is⟩
theorem On.fin {C : List (Int × Int)} {s : Int} (h : On C C.length 0 s) : IsSp C s := ⟨h.pos, fun a b ha hb => h.ge a b ha hb (by omega), h.is⟩
/-- The model's greatest and least among the first k. -/
structure Ml (C : List (Int × Int)) (k : Nat) (x y : Int) : Prop where
  f1 : ∀ a, a < k → fr C a ≤ x
  f2 : ∃ a, a < k ∧ x = fr C a
  t1 : ∀ a, a < k → y ≤ tt C a
  t2 : ∃ a, a < k ∧ y = tt C a
theorem Ml.start (C : List (Int × Int)) : Ml C 1 (fr C 0) (tt C 0) :=
  ⟨fun a h => by obtain rfl : a = 0 := by omega
                 exact Int.le_refl _, ⟨0, by omega, rfl⟩, fun a h => by obtain rfl : a = 0 := by omega
                                                                        exact Int.le_refl _, ⟨0, by omega, rfl⟩⟩
theorem Ml.next {C : List (Int × Int)} {k : Nat} {x y : Int} (h : Ml C k x y) : Ml C (k + 1) (max x (fr C k)) (min y (tt C k)) := by
  refine ⟨fun a ha => ?_, ?_, fun a ha => ?_, ?_⟩
  · by_cases e : a = k
    · subst e; omega
    · have := h.f1 a (by omega); omega
  · obtain ⟨a, ha, e⟩ := h.f2
    by_cases c : x ≤ fr C k
    · exact ⟨k, by omega, by omega⟩
    · exact ⟨a, by omega, by omega⟩
  · by_cases e : a = k
    · subst e; omega
    · have := h.t1 a (by omega); omega
  · obtain ⟨a, ha, e⟩ := h.t2
    by_cases c : tt C k ≤ y
    · exact ⟨k, by omega, by omega⟩
    · exact ⟨a, by omega, by omega⟩
theorem Ml.fin {C : List (Int × Int)} {x y : Int} (h : Ml C C.length x y) : IsSp C (max (x - y) 0) := by
  obtain ⟨a, ha, e⟩ := h.f2
  obtain ⟨b, hb, e2⟩ := h.t2
  refine ⟨by omega, fun c d hc hd => ?_, ?_⟩
  · have u := h.f1 c hc
    have v := h.t1 d hd
    omega
  · by_cases g : x - y ≤ 0
    · exact .inl (by omega)
    · exact .inr ⟨a, b, ha, hb, by omega⟩
theorem sp_nil : IsSp [] 0 := ⟨Int.le_refl _, fun a b ha _ => absurd ha (by simp), .inl rfl⟩
theorem own_bd {l : List (Int × Int)} {L : List Dt} (h : evi l L = true) (i : Nat) (hi : i < l.length) : (-20000 ≤ fr (own l L) i ∧ fr (own l L) i ≤ 2100) ∧ -20000 ≤ tt (own l L) i ∧ tt (own l L) i ≤ 2100 := by
  obtain ⟨⟨a, b⟩, hl⟩ : ∃ p, l[i]? = some p := ⟨_, List.getElem?_eq_getElem hi⟩
  have e := own_at (L := L) hl
  have ho : (-20000 ≤ (iv L a).1 ∧ (iv L a).1 ≤ 2100) ∧ -20000 ≤ (iv L a).2 ∧ (iv L a).2 ≤ 2100 := by
    unfold iv
    cases hf : L.find? (fun x => x.1 == a) with
    | none => decide
    | some x =>
      obtain ⟨u, y, z⟩ := x
      have hm := List.mem_of_find?_eq_some hf
      obtain ⟨k, hk, e⟩ := List.mem_iff_getElem.1 hm
      have hv := (evi_at h (k := k) (x := u) (y := y) (z := z) (by rw [List.getElem?_eq_getElem hk, e])).2
      unfold ivl yr at hv
      simp only [Bool.and_eq_true, decide_eq_true_eq] at hv
      simp only
      omega
  have e2 : (own l L)[i]? = some ((iv L a).1, (iv L a).2) := e
  rw [fr_at e2, tt_at e2]
  exact ho
theorem tight_bd {l m : List (Int × Int)} {L : List Dt} (h : evi l L = true) (i : Nat) (hi : i < l.length) : (-20000 ≤ fr (PrM.tight l m (own l L)) i ∧ fr (PrM.tight l m (own l L)) i ≤ 2100) ∧ -20000 ≤ tt (PrM.tight l m (own l L)) i ∧ tt (PrM.tight l m (own l L)) i ≤ 2100 := by
  have hO : (own l L).length = l.length := own_len l L
  have e : (PrM.tight l m (own l L))[i]? = some (mf l m (own l L) i (own l L).length, mt l m (own l L) i (own l L).length) := by
    unfold PrM.tight
    rw [List.getElem?_map, List.getElem?_range (by rw [hO]; exact hi)]
    rfl
  rw [fr_at e, tt_at e]
  constructor
  · rcases mf_is l m (own l L) i (own l L).length with f | ⟨j, hj, _, f⟩
    · rw [f]; exact (own_bd h i hi).1
    · rw [f]; exact (own_bd h j (by omega)).1
  · rcases mt_is l m (own l L) i (own l L).length with f | ⟨j, hj, _, f⟩
    · rw [f]; exact (own_bd h i hi).2
    · rw [f]; exact (own_bd h j (by omega)).2
theorem prP_bd {l m : List (Int × Int)} {L : List Dt} : ∀ i, i < ((prP l m L).getD []).length → (-20000 ≤ fr ((prP l m L).getD []) i ∧ fr ((prP l m L).getD []) i ≤ 2100) ∧ -20000 ≤ tt ((prP l m L).getD []) i ∧ tt ((prP l m L).getD []) i ≤ 2100 := by
  intro i hi
  cases hp : prP l m L with
  | none => rw [hp] at hi; exact absurd hi (by simp)
  | some C =>
    rw [hp] at hi
    unfold prP at hp
    split at hp
    · rename_i hev
      split at hp
      · injection hp with hp
        subst hp
        have hi2 : i < (PrM.tight l m (own l L)).length := hi
        rw [tight_len, own_len] at hi2
        exact tight_bd (ev_parts hev).2 i hi2
      · cases hp
    · cases hp
end Go.Proofs.Ytmjhgjlnpnkmkaa.SpM

namespace Go.Proofs.Ytmjhgjlnpnkmkaa.SpS
open Go.RowKit Pairs Rec RecEq Chain Find2 GoodM Keep GivesI Da DaT DaG EvM RepI Elems IvS LpM FcM PrM PrI TgS SpM
set_option linter.unusedVariables false
def SaysS (f : FuncId) : Prop := ∀ (a1 a2 p : Option Addr) (n1 c1 n2 c2 np cp : Nat) (l m : List (Int × Int)) (L : List Dt) (w : World), n1 ≤ 1048576 → n2 ≤ 1048576 → np ≤ 1048576 → Holds w a1 n1 l → Holds w a2 n2 m → HoldsD w p np L →
    Calls Try.prog f #[.agg #[.slice a1 n1 c1, .slice a2 n2 c2], .slice p np cp] w fun e w' => e = .returned (.tuple #[.int .i64 (spP l m L).1, .bool (spP l m L).2]) ∧ Below w.heap.size w w'
theorem sp_none {l m : List (Int × Int)} {L : List Dt} (h : prP l m L = none) : spP l m L = (0, false) := by unfold spP; rw [h]
theorem sp_some {l m : List (Int × Int)} {L : List Dt} {C : List (Int × Int)} (h : prP l m L = some C) {s : Int} (hs : IsSp C s) : spP l m L = (s, true) := by unfold spP; rw [h]; show (spv C, true) = _; rw [spv_eq hs]
/-- What the program's loop and the model's come to. -/
theorem sp_is {l m : List (Int × Int)} {L : List Dt} {s : Int} (hs : IsSp ((prP l m L).getD []) s) : spP l m L = (s, (prP l m L).isSome) := by
  cases h : prP l m L with
  | none =>
    rw [h] at hs
    rw [sp_none h, show s = 0 from hs.eq sp_nil]
    rfl
  | some C =>
    rw [h] at hs
    exact sp_some h hs
theorem on_bd {C : List (Int × Int)} (hB : ∀ i, i < C.length → (-20000 ≤ fr C i ∧ fr C i ≤ 2100) ∧ -20000 ≤ tt C i ∧ tt C i ≤ 2100) {i j : Nat} {s : Int} (h : On C i j s) : 0 ≤ s ∧ s ≤ 22100 := by
  refine ⟨h.pos, ?_⟩
  rcases h.is with e | ⟨a, b, ha, hb, e⟩
  · omega
  · have := hB a ha
    have := hB b hb
    omega
set_option maxRecDepth 100000 in
set_option maxHeartbeats 8000000 in
theorem impl_any : SaysS 44 := by
  intro a1 a2 p n1 c1 n2 c2 np cp l m L w z1 z2 z3 h1 h2 h3
  obtain ⟨W, hW⟩ : ∃ W, w.alloc (.cells #[.slice a1 n1 c1, .slice a2 n2 c2] 33) = W := ⟨_, rfl⟩
  have hb : Below w.heap.size w W := by rw [← hW]; exact below_alloc w _
  have hf : W.cell? ⟨w.heap.size, 0, none⟩ = some (.slice a1 n1 c1) := by rw [← hW]; exact box_first w _ _ _
  have hf2 : W.cell? ⟨w.heap.size, 1, none⟩ = some (.slice a2 n2 c2) := by rw [← hW]; exact box_second w _ _ _
  have HB := Lib.hid hb
  have HP := Lib.hid (PrI.impl_any a1 a2 p n1 c1 n2 c2 np cp l m L W z1 z2 z3 (h1.below hb) (h2.below hb) (h3.below hb))
  have HSP := Lib.hid (fun s => @sp_is l m L s)
  have HBD := Lib.hid (@prP_bd l m L)
  generalize spP l m L = S at *
  clear h1 h2 h3 hb
  generalize prP l m L = R at *
  obtain ⟨ok, hok⟩ : ∃ ok, R.isSome = ok := ⟨_, rfl⟩
  obtain ⟨C, hC⟩ : ∃ C, R.getD [] = C := ⟨_, rfl⟩
  rw [hok, hC] at HP HSP
  rw [hC] at HBD
  clear hok hC
  go_enter Try.func44, Try.ntmps44
  go_wp2_with fail
  clear hW
  refine HP.out.mono ?_
  rintro e2 w1 ⟨p', k1, d1, rfl, hown, hk1, b1⟩
  have hCl : C.length = k1 := by have := hown.1; rw [flat_len] at this; omega
  have HC := Lib.hid (Keep.holds_own hown)
  have HB1 := Lib.hid (HB.out.trans (b1.mono HB.out.size))
  have hon0 := Lib.hid (On.start C)
  have HCL := Lib.hid hCl
  clear hown b1 hf hf2 HP hCl
  go_wp2_with fail
  go_loopw [8, 21] (fun s8 s21 wr => ∃ (i : Nat) (s : Int), i ≤ k1 ∧ s8 = .int .i64 s ∧ s21 = .int .i64 i ∧ Hid (On C i 0 s ∧ Below w1.heap.size w1 wr)) (fun _ s21 _ => k1 - (intOf s21).toNat)
  case atStart => exact ⟨0, 0, Nat.zero_le _, rfl, rfl, hon0.out, Below.refl _ _⟩
  case round =>
    clear hon0
    obtain ⟨i, s, hi, rfl, rfl, HR⟩ := hrel
    obtain ⟨wo, rfl⟩ : ∃ z, z = wr := ⟨wr, rfl⟩
    by_cases hlt : i < k1
    · have hin : (i : Int) < (k1 : Int) := by omega
      have hi0 : (0 : Int) ≤ (i : Int) := by omega
      obtain ⟨b, off, x, y, rfl, hx, e1, e2⟩ := (HC.out.below HR.out.2).at i hlt
      have HFX : Hid (fr C i = x) := fr_at hx
      have hbz := below_alloc wo (.cells #[.int .i64 x, .int .i64 y] 64)
      have u1 := box_first wo (.int .i64 x) (.int .i64 y) 64
      have HRY := Lib.hid (HR.out.2.trans (hbz.mono HR.out.2.size))
      have HON := Lib.hid HR.out.1
      clear hx hbz HR
      go_wp2_with fail
      generalize wo.alloc (.cells #[.int .i64 x, .int .i64 y] 64) = Y at *
      clear e1 e2
      go_loopw [8, 27] (fun s8 s27 wi => ∃ (j : Nat) (s : Int), j ≤ k1 ∧ s8 = .int .i64 s ∧ s27 = .int .i64 j ∧ Hid (On C i j s ∧ Below Y.heap.size Y wi)) (fun _ s27 _ => k1 - (intOf s27).toNat)
      case atStart => exact ⟨0, s, Nat.zero_le _, rfl, rfl, HON.out, Below.refl _ _⟩
      case round =>
        clear HON
        obtain ⟨j, s2, hj, rfl, rfl, HI⟩ := hrel
        by_cases hlj : j < k1
        · have hjn : (j : Int) < (k1 : Int) := by omega
          have hj0 : (0 : Int) ≤ (j : Int) := by omega
          have HBI := Lib.hid (HRY.out.trans (HI.out.2.mono HRY.out.size))
          obtain ⟨b', off', x2, y2, hpp, hx2, e1, e2⟩ := (HC.out.below HBI.out).at j hlj
          injection hpp with hpp
          injection hpp with hp1 hp2
          subst hp1 hp2
          have HTY : Hid (tt C j = y2) := tt_at hx2
          have q1 := (HI.out.2.cell (World.block_lt_of_cell? Y _ u1)).trans u1
          have hbz := below_alloc wr (.cells #[.int .i64 x2, .int .i64 y2] 64)
          have v1 := (hbz.cell (World.block_lt_of_cell? wr _ q1)).trans q1
          have v2 := box_second wr (.int .i64 x2) (.int .i64 y2) 64
          have HN := Lib.hid (HI.out.1.next (by rw [HCL.out]; exact hlt) (by rw [HCL.out]; exact hlj))
          have hbd := on_bd HBD.out HI.out.1
          have hb1 := HBD.out i (by rw [HCL.out]; exact hlt)
          have hb2 := HBD.out j (by rw [HCL.out]; exact hlj)
          rw [HFX.out, HTY.out] at HN
          rw [HFX.out] at hb1
          rw [HTY.out] at hb2
          obtain ⟨d, hd⟩ : ∃ d, x - y2 = d := ⟨_, rfl⟩
          have hw64 : wrap64 (x - y2) = d := by unfold wrap64; omega
          have HY2 := Lib.hid (HI.out.2.trans (hbz.mono HI.out.2.size))
          rw [hd] at HN
          clear hx2 hbz q1 HI hbd hb1 hb2 hd
          by_cases hm : s2 < d
          · have hm2 : s2 ≤ d := Int.le_of_lt hm
            have hm3 : ¬ d ≤ s2 := by omega
            have hm4 : ¬ d < s2 := by omega
            rw [Int.max_eq_right hm2] at HN
            have HQ := Lib.hid (And.intro HN.out HY2.out)
            clear HN HY2
            go_wp2_with fail
            exact ⟨⟨j + 1, d, by omega, rfl, by go_num, HQ⟩, by simp [intOf]; omega⟩
          · have hm2 : d ≤ s2 := by omega
            rw [Int.max_eq_left hm2] at HN
            have HQ := Lib.hid (And.intro HN.out HY2.out)
            clear HN HY2
            go_wp2_with fail
            exact ⟨⟨j + 1, s2, by omega, rfl, by go_num, HQ⟩, by simp [intOf]; omega⟩
        · obtain rfl : j = k1 := by omega
          have hjj : ¬ (j : Int) < (j : Int) := by omega
          have HQ : Hid (On C (i + 1) 0 s2 ∧ Below w1.heap.size w1 wr) := by
            refine ⟨On.row ?_, HRY.out.trans (HI.out.2.mono HRY.out.size)⟩
            rw [HCL.out]
            exact HI.out.1
          clear HI
          go_wp2_with fail
          exact ⟨⟨i + 1, s2, by omega, rfl, by go_num, HQ⟩, by simp [intOf]; omega⟩
    · obtain rfl : i = k1 := by omega
      have hii : ¬ (i : Int) < (i : Int) := by omega
      have HS2 : Hid (S = (s, ok)) := HSP.out s (On.fin (by rw [HCL.out]; exact HR.out.1))
      have HQ := Lib.hid HR.out.2
      clear HR
      go_wp2_with fail
      go_ret2
      exact ⟨by rw [HS2.out]; rfl, HB1.out.trans (HQ.out.mono HB1.out.size)⟩
end Go.Proofs.Ytmjhgjlnpnkmkaa.SpS

namespace Go.Proofs.Ytmjhgjlnpnkmkaa.SpT
open Go.RowKit Pairs Rec RecEq Chain Find2 GoodM Keep GivesI Da DaT DaG EvM RepI Elems IvS LpM FcM PrM PrI TgS SpM SpS
set_option linter.unusedVariables false
theorem ml_bd {C : List (Int × Int)} (hB : ∀ i, i < C.length → (-20000 ≤ fr C i ∧ fr C i ≤ 2100) ∧ -20000 ≤ tt C i ∧ tt C i ≤ 2100) {k : Nat} {x y : Int} (hk : k ≤ C.length) (h : Ml C k x y) : (-20000 ≤ x ∧ x ≤ 2100) ∧ -20000 ≤ y ∧ y ≤ 2100 := by
  obtain ⟨a, ha, e⟩ := h.f2
  obtain ⟨b, hb, e2⟩ := h.t2
  have := hB a (by omega)
  have := hB b (by omega)
  omega
set_option maxRecDepth 100000 in
set_option maxHeartbeats 8000000 in
theorem spec_any : SaysS 43 := by
  intro a1 a2 p n1 c1 n2 c2 np cp l m L w z1 z2 z3 h1 h2 h3
  obtain ⟨W, hW⟩ : ∃ W, w.alloc (.cells #[.slice a1 n1 c1, .slice a2 n2 c2] 33) = W := ⟨_, rfl⟩
  have hb : Below w.heap.size w W := by rw [← hW]; exact below_alloc w _
  have hf : W.cell? ⟨w.heap.size, 0, none⟩ = some (.slice a1 n1 c1) := by rw [← hW]; exact box_first w _ _ _
  have hf2 : W.cell? ⟨w.heap.size, 1, none⟩ = some (.slice a2 n2 c2) := by rw [← hW]; exact box_second w _ _ _
  have HB := Lib.hid hb
  have HP := Lib.hid (TgS.spec_any a1 a2 p n1 c1 n2 c2 np cp l m L W z1 z2 z3 (h1.below hb) (h2.below hb) (h3.below hb))
  have HSP := Lib.hid (fun s => @sp_is l m L s)
  have HBD := Lib.hid (@prP_bd l m L)
  have HNO : Hid ((prP l m L).isSome = false → spP l m L = (0, false)) := fun h => sp_none (by cases e : prP l m L with | none => rfl | some C => rw [e] at h; cases h)
  generalize spP l m L = S at *
  clear h1 h2 h3 hb
  generalize prP l m L = R at *
  obtain ⟨ok, hok⟩ : ∃ ok, R.isSome = ok := ⟨_, rfl⟩
  obtain ⟨C, hC⟩ : ∃ C, R.getD [] = C := ⟨_, rfl⟩
  rw [hok, hC] at HP HSP
  rw [hC] at HBD
  rw [hok] at HNO
  clear hok hC
  go_enter Try.func43, Try.ntmps43
  go_wp2_with fail
  clear hW
  refine HP.out.mono ?_
  rintro e2 w1 ⟨p', k1, d1, rfl, hown, hk1, b1⟩
  have hCl : C.length = k1 := by have := hown.1; rw [flat_len] at this; omega
  have HC := Lib.hid (Keep.holds_own hown)
  have HB1 := Lib.hid (HB.out.trans (b1.mono HB.out.size))
  have HCL := Lib.hid hCl
  clear hown b1 hf hf2 HP hCl
  cases ok with
  | false =>
    have HS2 := Lib.hid (HNO.out rfl)
    go_wp2_with fail
    go_ret2
    exact ⟨by rw [HS2.out]; rfl, HB1.out⟩
  | true =>
    by_cases h0 : k1 = 0
    · subst h0
      have HS2 : Hid (S = (0, true)) := HSP.out 0 (by
        have e : C = [] := List.length_eq_zero_iff.1 HCL.out
        rw [e]
        exact sp_nil)
      go_wp2_with fail
      go_ret2
      exact ⟨by rw [HS2.out]; rfl, HB1.out⟩
    · have hk0 : (0 : Int) < (k1 : Int) := by omega
      have hk0n : 0 < k1 := by omega
      have hk1n : ¬ (k1 : Int) = 0 := by omega
      have hk1b : ((k1 : Int) == 0) = false := by simp; omega
      obtain ⟨b, off, x, y, rfl, hx, e1, e2⟩ := HC.out.at 0 hk0n
      simp only [Nat.zero_mul, Nat.add_zero] at e1 e2
      have HM0 : Hid (Ml C 1 x y) := by
        have := Ml.start C
        rw [fr_at hx, tt_at hx] at this
        exact this
      have k1' := cell_regrown e1
      have k2' := cell_regrown e2
      clear hx
      go_wp2_with fail
      refine wp_region_quiet_below (by kernel_rfl) (by kernel_rfl) ?_
      repeat (go_big_quiet_step (fail))
      refine wpQuiet_nil ?_
      intro _ hw'
      obtain ⟨⟨dq, osq⟩, hw''⟩ := hw'
      subst hw''
      have hbq := below_regrown w1 dq osq
      have HQ0 := Lib.hid (And.intro HM0.out hbq)
      clear k1' k2' hbq e1 e2 HM0
      generalize Sort.grow (redrawn w1 dq) osq = W5 at *
      go_wp2_with fail
      go_loopw [8, 9, 10] (fun s8 s9 s10 wr => ∃ (k : Nat) (x y : Int), k ≤ k1 ∧ s8 = .int .i64 x ∧ s9 = .int .i64 y ∧ s10 = .int .i64 k ∧ Hid (Ml C k x y ∧ Below w1.heap.size w1 wr)) (fun _ _ s10 _ => k1 - (intOf s10).toNat)
      case atStart => exact ⟨1, x, y, by omega, rfl, rfl, rfl, HQ0.out⟩
      case round =>
        clear HQ0
        obtain ⟨k, x1, y1, hk, rfl, rfl, rfl, HR⟩ := hrel
        by_cases hlt : k < k1
        · have hkn : (k : Int) < (k1 : Int) := by omega
          have hkk0 : (0 : Int) ≤ (k : Int) := by omega
          obtain ⟨b', off', x2, y2, hpp, hx2, e1, e2⟩ := (HC.out.below HR.out.2).at k hlt
          injection hpp with hpp
          injection hpp with hp1 hp2
          subst hp1 hp2
          have HN := Lib.hid (HR.out.1.next)
          rw [fr_at hx2, tt_at hx2] at HN
          have HBW := Lib.hid HR.out.2
          clear hx2 HR
          go_wp2_with fail
          refine (l1Most_is x1 x2 _).mono ?_
          rintro e3 w6 ⟨rfl, b6⟩
          have q2 := (b6.cell (World.block_lt_of_cell? _ _ e2)).trans e2
          have HB6 := Lib.hid (HBW.out.trans (b6.mono HBW.out.size))
          obtain ⟨mx, hmx⟩ : ∃ mx, max x1 x2 = mx := ⟨_, rfl⟩
          rw [hmx] at HN ⊢
          clear hmx b6 e1 e2
          go_wp2_with fail
          refine (l1Least_is y1 y2 _).mono ?_
          rintro e3 w7 ⟨rfl, b7⟩
          have HB7 := Lib.hid (HB6.out.trans (b7.mono HB6.out.size))
          obtain ⟨mn, hmn⟩ : ∃ mn, min y1 y2 = mn := ⟨_, rfl⟩
          rw [hmn] at HN ⊢
          clear hmn b7 q2
          have HQ := Lib.hid (And.intro HN.out HB7.out)
          clear HN
          go_wp2_with fail
          exact ⟨⟨k + 1, mx, mn, by omega, rfl, rfl, by go_num, HQ⟩, by simp [intOf]; omega⟩
        · obtain rfl : k = k1 := by omega
          have hkk : ¬ (k : Int) < (k : Int) := by omega
          have hbd := ml_bd HBD.out (by rw [HCL.out]; exact Nat.le_refl _) HR.out.1
          have HS2 : Hid (S = (max (x1 - y1) 0, true)) := HSP.out _ (Ml.fin (by rw [HCL.out]; exact HR.out.1))
          obtain ⟨d, hd⟩ : ∃ d, x1 - y1 = d := ⟨_, rfl⟩
          have hw64 : wrap64 (x1 - y1) = d := by unfold wrap64; omega
          rw [hd] at HS2
          have HQ := Lib.hid HR.out.2
          clear HR hbd hd
          go_wp2_with fail
          refine (l1Most_is d 0 _).mono ?_
          rintro e3 w6 ⟨rfl, b6⟩
          have HB6 := Lib.hid (HB1.out.trans ((HQ.out.trans (b6.mono HQ.out.size)).mono HB1.out.size))
          obtain ⟨mx, hmx⟩ : ∃ mx, max d 0 = mx := ⟨_, rfl⟩
          rw [hmx] at HS2 ⊢
          clear hmx b6
          go_wp2_with fail
          go_ret2
          exact ⟨by rw [HS2.out]; rfl, HB6.out⟩
end Go.Proofs.Ytmjhgjlnpnkmkaa.SpT

namespace Go.Proofs.Ytmjhgjlnpnkmkaa.WShortestSpan
open Go.ChangeShapes Go.WideShapes Go.ChangeAt Go.RowKit
open Pairs Rec RecEq RecOpen
open LawKit (S toRecord_keeps eqRecord_keeps ownHolds)
set_option linter.unusedVariables false
set_option maxRecDepth 100000 in
set_option maxHeartbeats 8000000 in
theorem walk (F : List (Int × Int) → List (Int × Int) → List Da.Dt → Int × Bool) (hI : ∀ (a1 a2 : Option Addr) (n1 c1 n2 c2 : Nat) (l m : List (Int × Int)) (p : Option Addr) (np : Nat) (L : List Da.Dt) (w : World), n1 ≤ 1048576 → n2 ≤ 1048576 → Holds w a1 n1 l → Holds w a2 n2 m → np ≤ 1048576 → Da.HoldsD w p np L → Calls Try.prog 44 #[.agg #[.slice a1 n1 c1, .slice a2 n2 c2], .slice p np np] w fun e w' => e = .returned (.tuple #[.int .i64 ((F l m L).1), .bool ((F l m L).2)]) ∧ Below w.heap.size w w') (hM : ∀ (a1 a2 : Option Addr) (n1 c1 n2 c2 : Nat) (l m : List (Int × Int)) (p : Option Addr) (np : Nat) (L : List Da.Dt) (w : World), n1 ≤ 1048576 → n2 ≤ 1048576 → Holds w a1 n1 l → Holds w a2 n2 m → np ≤ 1048576 → Da.HoldsD w p np L → Calls Try.prog 43 #[.agg #[.slice a1 n1 c1, .slice a2 n2 c2], .slice p np np] w fun e w' => e = .returned (.tuple #[.int .i64 ((F l m L).1), .bool ((F l m L).2)]) ∧ Below w.heap.size w w') (a1 a2 : Option Addr) (n1 c1 n2 c2 : Nat) (l1 l2 : List (Int × Int)) (p : Option Addr) (np cp : Nat) (L : List Da.Dt) (w : World) (z1 : n1 ≤ 9223372036854775807) (z2 : n2 ≤ 9223372036854775807) (H1 : Holds w a1 n1 l1) (H2 : Holds w a2 n2 l2) (z3 : np ≤ 9223372036854775807) (H3 : Da.HoldsD w p np L) :
    Calls Try.prog 10 #[.agg #[.slice a1 n1 c1, .slice a2 n2 c2], .slice p np cp] w fun e w' => e = .returned (.bool true) ∧ Below w.heap.size w w' := by
  have hb0 := below_alloc w (.cells #[.slice a1 n1 c1, .slice a2 n2 c2] 25)
  have f1 := box_first w (.slice a1 n1 c1) (.slice a2 n2 c2) 25
  have f2 := box_second w (.slice a1 n1 c1) (.slice a2 n2 c2) 25
  have hlt : w.heap.size < (w.alloc (.cells #[.slice a1 n1 c1, .slice a2 n2 c2] 25)).heap.size := by simp
  have K1 := Lib.hid (H1.below hb0)
  have K2 := Lib.hid (H2.below hb0)
  have K3 := Lib.hid (H3.below hb0)
  clear H1 H2 H3
  have hI1 := fun (p1 p2 p3 : Option Addr) (w : World) h1 h2 h3 h4 h5 h6 => hI p1 p2 n1 n1 n2 n2 l1 l2 p3 np L w h1 h2 h3 h4 h5 h6
  have hM1 := fun (p1 p2 p3 : Option Addr) (w : World) h1 h2 h3 h4 h5 h6 => hM p1 p2 n1 n1 n2 n2 l1 l2 p3 np L w h1 h2 h3 h4 h5 h6
  clear hI hM
  generalize F l1 l2 L = FF at hI1 hM1
  obtain ⟨r1, r2⟩ := FF
  have HI := Lib.hid hI1
  have HM := Lib.hid hM1
  clear hI1 hM1
  go_enter Try.func10, Try.ntmps10
  go_wp2_with fail
  generalize w.alloc (.cells #[.slice a1 n1 c1, .slice a2 n2 c2] 25) = W at *
  refine (szRecord_any a1 a2 n1 c1 n2 c2 z1 z2 W).mono ?_
  rintro e w1 ⟨rfl, b1⟩
  have k1 := (b1.cell (p := ⟨w.heap.size, 0, none⟩) hlt).trans f1
  have k2 := (b1.cell (p := ⟨w.heap.size, 1, none⟩) hlt).trans f2
  by_cases hbig : (1048576 : Int) < (n1 : Int) + n2
  · have hl : left n1 n2 = -1 := by unfold left; rw [if_pos hbig]
    rw [hl]
    go_wp2_with fail
    go_ret
    exact ⟨rfl, hb0.trans (b1.mono hb0.size)⟩
  · have hl : left n1 n2 = 1048576 - n1 - n2 := by unfold left; rw [if_neg hbig]
    rw [hl]
    clear hl
    have hs1 : n1 ≤ 1048576 := by omega
    have hs2 : n2 ≤ 1048576 := by omega
    have hnn : ¬ (1048576 : Int) - n1 - n2 < 0 := by omega
    go_wp2_with fail
    refine (DaT.szDatedS_any p np cp (1048576 - n1 - n2) (by omega) (by omega) z3 w1).mono ?_
    rintro e wz ⟨rfl, rfl⟩
    by_cases hbp : (1048576 : Int) - n1 - n2 < np
    · rw [if_pos hbp]
      go_wp2_with fail
      go_ret
      exact ⟨rfl, hb0.trans (b1.mono hb0.size)⟩
    · rw [if_neg hbp]
      have B1Z := Lib.hid b1
      have hnp : np ≤ 1048576 := by omega
      have hrn : ¬ (1048576 : Int) - n1 - n2 - np < 0 := by omega
      clear b1
      go_wp2_with fail
      refine (toRecord_any a1 a2 n1 c1 n2 c2 l1 l2 hs1 hs2 _ (K1.out.below B1Z.out) (K2.out.below B1Z.out)).mono ?_
      rintro e w2 ⟨g1, g2, rfl, o2, b2⟩
      have b12 := B1Z.out.trans (b2.mono B1Z.out.size)
      have hh := ownHolds o2
      have hh1 := Lib.hid hh.1
      have hh2 := Lib.hid hh.2
      have B12 := Lib.hid b12
      clear hh o2 b2 b12 k1 k2
      go_wp2_with fail
      refine (DaT.toDatedS_any p np cp L hnp _ (K3.out.below B12.out)).mono ?_
      rintro e w3 ⟨g3, rfl, o3, b3⟩
      have b13 := B12.out.trans (b3.mono B12.out.size)
      have hh3 := Lib.hid (hh1.out.below b3)
      have hh4 := Lib.hid (hh2.out.below b3)
      have HP3 := Lib.hid (Da.holds_ownD o3)
      have B13 := Lib.hid b13
      clear b13 b3 o3 hh1 hh2
      go_wp2_with fail
      refine (HM.out _ _ _ _ hs1 hs2 hh3.out hh4.out hnp HP3.out).mono ?_
      rintro e X ⟨rfl, b4⟩
      have bX := B13.out.trans (b4.mono B13.out.size)
      have m1 := (bX.cell (p := ⟨w.heap.size, 0, none⟩) hlt).trans f1
      have m2 := (bX.cell (p := ⟨w.heap.size, 1, none⟩) hlt).trans f2
      have KX1 := Lib.hid (K1.out.below bX)
      have KX2 := Lib.hid (K2.out.below bX)
      have KX3 := Lib.hid (K3.out.below bX)
      have HBX := Lib.hid (hb0.trans (bX.mono hb0.size))
      have hltX := Nat.lt_of_lt_of_le hlt bX.size
      clear b4 hh3 hh4 HP3 bX hb0 K1 K2 K3 f1 f2 B1Z B12 B13
      go_wp2_with fail
      refine (toRecord_any a1 a2 n1 c1 n2 c2 l1 l2 hs1 hs2 _ KX1.out KX2.out).mono ?_
      rintro e w4 ⟨g4, g5, rfl, o4, b4⟩
      have hb5 := below_alloc w4 (.cells #[.slice (some ⟨g4, 0, none⟩) n1 n1, .slice (some ⟨g5, 0, none⟩) n2 n2] 33)
      have x1 := box_first w4 (.slice (some ⟨g4, 0, none⟩) n1 n1) (.slice (some ⟨g5, 0, none⟩) n2 n2) 33
      have x2 := box_second w4 (.slice (some ⟨g4, 0, none⟩) n1 n1) (.slice (some ⟨g5, 0, none⟩) n2 n2) 33
      have hlt5 : w4.heap.size < (w4.alloc (.cells #[.slice (some ⟨g4, 0, none⟩) n1 n1, .slice (some ⟨g5, 0, none⟩) n2 n2] 33)).heap.size := by simp
      have B5 := Lib.hid (b4.trans (hb5.mono b4.size))
      have hh5 := Lib.hid ((ownHolds o4).1.below hb5)
      have hh6 := Lib.hid ((ownHolds o4).2.below hb5)
      clear o4 b4 hb5
      go_wp2_with fail
      generalize w4.alloc (.cells #[.slice (some ⟨g4, 0, none⟩) n1 n1, .slice (some ⟨g5, 0, none⟩) n2 n2] 33) = W5 at *
      refine (DaT.toDatedS_any p np cp L hnp _ (KX3.out.below B5.out)).mono ?_
      rintro e w6 ⟨g6, rfl, o6, b6⟩
      have B6 := Lib.hid (B5.out.trans (b6.mono B5.out.size))
      have y1 := (b6.cell (p := ⟨w4.heap.size, 0, none⟩) hlt5).trans x1
      have y2 := (b6.cell (p := ⟨w4.heap.size, 1, none⟩) hlt5).trans x2
      have hh7 := Lib.hid (hh5.out.below b6)
      have hh8 := Lib.hid (hh6.out.below b6)
      have HP6 := Lib.hid (Da.holds_ownD o6)
      have hlt6 := Nat.lt_of_lt_of_le hlt5 b6.size
      clear x1 x2 o6 b6 hh5 hh6
      go_wp2_with fail
      refine (HI.out _ _ _ _ hs1 hs2 hh7.out hh8.out hnp HP6.out).mono ?_
      rintro e w7 ⟨rfl, b7⟩
      have y1 := (b7.cell (p := ⟨w4.heap.size, 0, none⟩) hlt6).trans y1
      have y2 := (b7.cell (p := ⟨w4.heap.size, 1, none⟩) hlt6).trans y2
      have b67 := B6.out.trans (b7.mono B6.out.size)
      have j1 := (b67.cell (p := ⟨w.heap.size, 0, none⟩) hltX).trans m1
      have j2 := (b67.cell (p := ⟨w.heap.size, 1, none⟩) hltX).trans m2
      have hh9 := Lib.hid (hh7.out.below b7)
      have hh10 := Lib.hid (hh8.out.below b7)
      have HP7 := Lib.hid (HP6.out.below b7)
      have hlt7 := Nat.lt_of_lt_of_le hlt6 b7.size
      have hltw7 := Nat.lt_of_lt_of_le hltX b67.size
      have B7 := Lib.hid b67
      clear b7 b67 hh7 hh8 HP6
      go_wp2_with fail
      have hK1 := Lib.hid (KX1.out.below B7.out.drew)
      have hK2 := Lib.hid (KX2.out.below B7.out.drew)
      have hh11 := Lib.hid (hh9.out.below (Below.refl w7.heap.size w7).drew)
      have hh12 := Lib.hid (hh10.out.below (Below.refl w7.heap.size w7).drew)
      go_region_held3 (fun w' => w'.cell? ⟨w4.heap.size, 0, none⟩ = some (.slice (some ⟨g4, 0, none⟩) n1 n1) ∧ w'.cell? ⟨w4.heap.size, 1, none⟩ = some (.slice (some ⟨g5, 0, none⟩) n2 n2) ∧ w4.heap.size < w'.heap.size ∧ w'.cell? ⟨w.heap.size, 0, none⟩ = some (.slice a1 n1 c1) ∧ w'.cell? ⟨w.heap.size, 1, none⟩ = some (.slice a2 n2 c2) ∧ w.heap.size < w'.heap.size)
        (first | go_keep | (exact ⟨by assumption, by assumption, by assumption, by assumption, by assumption, by assumption⟩))
        (first
          | (go_at_call 15; refine (toRecord_keeps a1 a2 n1 c1 n2 c2 l1 l2 hs1 hs2 w4.heap.size w.heap.size (.slice (some ⟨g4, 0, none⟩) n1 n1) (.slice (some ⟨g5, 0, none⟩) n2 n2) (.slice a1 n1 c1) (.slice a2 n2 c2) w7.drew hK1.out hK2.out ⟨y1, y2, hlt7, j1, j2, hltw7⟩).mono ?_; rintro e w8 ⟨g7, g8, rfl, o8, b8, s1, s2, s3, s4, s5, s6⟩)
          | (go_at_call 18; refine (eqRecord_keeps (some ⟨g4, 0, none⟩) (some ⟨g5, 0, none⟩) (some ⟨g7, 0, none⟩) (some ⟨g8, 0, none⟩) n1 n2 n1 n2 n1 n2 l1 l2 hs1 hs2 w4.heap.size w.heap.size (.slice (some ⟨g4, 0, none⟩) n1 n1) (.slice (some ⟨g5, 0, none⟩) n2 n2) (.slice a1 n1 c1) (.slice a2 n2 c2) w8 (hh11.out.below b8) (hh12.out.below b8) (ownHolds o8).1 (ownHolds o8).2 ⟨s1, s2, s3, s4, s5, s6⟩).mono ?_; rintro e w9 ⟨rfl, b9, t1, t2, t3, t4, t5, t6⟩))
      have b79 : Below w7.heap.size w7 w9 := (Below.refl w7.heap.size w7).drew.trans (b8.trans (b9.mono b8.size))
      have B9 := Lib.hid (B7.out.trans (b79.mono B7.out.size))
      have HP9 := Lib.hid (HP7.out.below b79)
      clear o8 b8 b9 b79 s1 s2 s3 s4 s5 s6 y1 y2 j1 j2 t1 t2 t4 t5 hh11 hh12 HP7
      go_wp2_with fail
      refine (DaT.toDatedS_any p np cp L hnp _ (KX3.out.below B9.out)).mono ?_
      rintro e w10 ⟨g9, rfl, o10, b10⟩
      have B10 := Lib.hid (B9.out.trans (b10.mono B9.out.size))
      have HP10 := Lib.hid (HP9.out.below b10)
      have HQ10 := Lib.hid (Da.holds_ownD o10)
      clear o10 b10
      go_wp2_with fail
      refine (DaT.eqDatedS_same _ _ np np np L hnp _ HP10.out HQ10.out).mono ?_
      rintro e w11 ⟨rfl, b11⟩
      have HB := Lib.hid (HBX.out.trans ((B10.out.trans (b11.mono B10.out.size)).mono HBX.out.size))
      clear b11
      go_wp2_with fail
      go_ret
      exact ⟨rfl, HB.out⟩
end Go.Proofs.Ytmjhgjlnpnkmkaa.WShortestSpan

namespace Go.Proofs.Ytmjhgjlnpnkmkaa.FShortestSpan
open Go.ChangeShapes Go.WideShapes Go.ChangeAt Go.RowKit
open Pairs Rec RecEq RecOpen LawKit
set_option linter.unusedVariables false

theorem field_int {H : Type} {enc : TypeId × Value → H} {w : World} {base : Nat} {spare : Nat → Bool} {held : Bool} {t : TypeId} {fuel : Nat} {v : Value} {x : DataW H × List MemPlace} (t0 : Try.prog.underlying t = some (.int .i64)) (h : DataW.trod enc Try.prog w base spare held fuel t [v] = some x) : ∃ y : Int, v = .int .i64 y := by
  obtain ⟨p, hp, _⟩ := DataW.trod_int t0 h
  simp only [List.cons.injEq, and_true] at hp
  exact ⟨p, hp⟩
set_option maxRecDepth 100000 in
theorem lifted (hw : ∀  (a1 a2 : Option Addr) (n1 c1 n2 c2 : Nat) (l1 l2 : List (Int × Int)) (p : Option Addr) (np cp : Nat) (L : List Da.Dt) (w : World), n1 ≤ 9223372036854775807 → n2 ≤ 9223372036854775807 → Holds w a1 n1 l1 → Holds w a2 n2 l2 → np ≤ 9223372036854775807 → Da.HoldsD w p np L → Calls Try.prog 10 #[.agg #[.slice a1 n1 c1, .slice a2 n2 c2], .slice p np cp] w fun e w' => e = .returned (.bool true) ∧ Below w.heap.size w w') (os : Os) (started : os.Started) (H : Type) (enc : TypeId × Value → H) :
    ReturnsInHanded {} Try.checked os 10 .any (Rows.fnExactShortestSpanSpec.pre6 enc Try.prog Try.f10 Rows.fnExactShortestSpanRow.domain false) (Rows.fnExactShortestSpanSpec.post enc Try.prog Try.f10 false true false false) := by
  refine returnsInHanded_of_change (C := Try.checked) own started (by kernel_rfl) Try.func10
    (ChangeSpec.witness6 (enc := enc) (C := Try.checked) false ⟨#[], #[.agg #[.slice none 0 0, .slice none 0 0], .slice none 0 0], []⟩ 8 (by kernel_rfl) (by kernel_rfl) (by kernel_rfl) (by kernel_rfl)) ?_
  intro W base args ds gs before hval0 hW hcnd _
  have hval : ∀ (j : Nat) t v, Try.f10.params[j]? = some t → args[j]? = some v → Value.okWide Try.prog W .any base t v := hval0
  have hW' := hW
  obtain ⟨p, q, hA0, hV, rfl, hfz, hnd⟩ := hW
  have hA : DataW.TrodAll enc Try.prog W 0 (fun _ => true) true Try.f10.params.toList args.toList ds p := hA0
  rw [Try.params10] at hA hval
  obtain ⟨v0, vs0, d0, ds0, p0, q0, hargs, rfl, rfl, h0, r0⟩ := trodAll_cons hA
  obtain ⟨v1, vs1, d1, ds1, p1, q1, rfl, rfl, rfl, h1, r1⟩ := trodAll_cons r0
  obtain ⟨rfl, rfl, rfl⟩ := trodAll_nil r1
  obtain rfl : args = #[v0, v1] := by cases args; simp_all
  obtain ⟨rfl, rfl⟩ := trodVars_none hV
  have k0 := h0
  have lt0 : ∀ x ∈ p0, x.block < W.heap.size := by obtain ⟨m, hm⟩ := k0; exact DataW.trod_lt m _ _ _ hm
  obtain ⟨u, v, y0, y9, fuel, rfl, rfl, hp, hu, hv⟩ := Joins.open_agg2 Try.underlying25 (by kernel_rfl) (by kernel_rfl) (hval 0 25 v0 rfl rfl) h0
  obtain ⟨a1, n1, c1, l1, rfl, z1, H1⟩ := open_pairs Try.underlying22 Try.underlying108 (by kernel_rfl) rfl rfl (by kernel_rfl) (by kernel_rfl) Try.underlying3 Try.underlying3 hu
  obtain ⟨a2, n2, c2, l2, rfl, z2, H2⟩ := open_pairs Try.underlying23 Try.underlying112 (by kernel_rfl) rfl rfl (by kernel_rfl) (by kernel_rfl) Try.underlying3 Try.underlying3 hv
  have k1 := h1
  have lt1 : ∀ x ∈ p1, x.block < W.heap.size := by obtain ⟨m, hm⟩ := k1; exact DataW.trod_lt m _ _ _ hm
  obtain ⟨sa, sn, sc, rfl⟩ := okWide_slice Try.underlying26 (hval 1 26 v1 rfl rfl)
  obtain ⟨ps, nps, cps, L, hps, z3, H3⟩ : ∃ (a : Option Addr) (n c : Nat) (L : List Da.Dt), Value.slice sa sn sc = .slice a n c ∧ n ≤ 9223372036854775807 ∧ Da.HoldsD W a n L := by
    obtain ⟨fuel, hf⟩ := h1
    exact Da.open_datedS Try.underlying26 Try.underlying61 Try.underlying59 rfl rfl rfl rfl rfl (by kernel_rfl) (by kernel_rfl) (by kernel_rfl) (by kernel_rfl) (by kernel_rfl) Try.underlying3 Try.underlying3 Try.underlying3 hf
  injection hps with hp1 hp2 hp3
  subst hp1 hp2 hp3
  clear hA0 hval0
  refine (hw  a1 a2 n1 c1 n2 c2 l1 l2 sa sn sc L W z1 z2 H1 H2 z3 H3).mono fun e W' ⟨he, bel⟩ => ?_
  subst he
  exact ⟨_, rfl, _, _, _, [], _, [], hW', trodAll_mk1 (shut_bool Try.underlying4 _), (trodAll_cons_mk (Below.trod LawKit.laidOut (by kernel_rfl) (of_decide_eq_true (by kernel_rfl)) k0 bel lt0) (trodAll_cons_mk (Below.trod LawKit.laidOut (by kernel_rfl) (of_decide_eq_true (by kernel_rfl)) k1 bel lt1) trodAll_mk0)), rfl, bel.frame _, fun h => by cases h⟩

theorem over (hw : ∀  (a1 a2 : Option Addr) (n1 c1 n2 c2 : Nat) (l1 l2 : List (Int × Int)) (p : Option Addr) (np cp : Nat) (L : List Da.Dt) (w : World), n1 ≤ 9223372036854775807 → n2 ≤ 9223372036854775807 → Holds w a1 n1 l1 → Holds w a2 n2 l2 → np ≤ 9223372036854775807 → Da.HoldsD w p np L → Calls Try.prog 10 #[.agg #[.slice a1 n1 c1, .slice a2 n2 c2], .slice p np cp] w fun e w' => e = .returned (.bool true) ∧ Below w.heap.size w w') : Rows.fnExactShortestSpanRow.holds Try.pinned (OpenSpec.ofChange Rows.fnExactShortestSpanSpec) :=
  OpenClaim.holds_of_wide 10 Try.f10 rfl rfl rfl rfl rfl rfl rfl ⟨rfl, rfl, rfl, rfl, rfl⟩ rfl rfl rfl rfl rfl (by kernel_rfl) Try.func10 (by kernel_rfl)
    (of_decide_eq_true (by kernel_rfl)) (by unfold Func.isWrapper; first | (rw [if_pos (by decide +kernel)]; kernel_rfl) | (rw [if_neg (by decide +kernel)]; exact ⟨rfl, rfl⟩))
    (fun os started H enc _ => lifted hw os started H enc)
end Go.Proofs.Ytmjhgjlnpnkmkaa.FShortestSpan

namespace Go.Proofs.Ytmjhgjlnpnkmkaa
theorem fnExactShortestSpan_proved : Rows.FnExactShortestSpanSaid := FShortestSpan.over (WShortestSpan.walk SpM.spP (fun a1 a2 n1 c1 n2 c2 l m p np L w z1 z2 h1 h2 z3 h3 => SpS.impl_any a1 a2 p n1 c1 n2 c2 np np l m L w z1 z2 z3 h1 h2 h3) (fun a1 a2 n1 c1 n2 c2 l m p np L w z1 z2 h1 h2 z3 h3 => SpT.spec_any a1 a2 p n1 c1 n2 c2 np np l m L w z1 z2 z3 h1 h2 h3))
#print axioms fnExactShortestSpan_proved
end Go.Proofs.Ytmjhgjlnpnkmkaa

