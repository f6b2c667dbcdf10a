/- Draws for the law of renumbering: a record and two numbers. -/
import Derived.Test.YthcjembekadijaaOrderSaidPartba
import Derived.Deep.RegionHeld3
import Derived.Test.YthcjembekadijaaOrderSaidPartam
import Derived.Test.YthcjembekadijaaOrderSaidPartav
import Derived.Laws.AppendOwn
import Derived.Test.YthcjembekadijaaOrderSaidPartaw
import Derived.Test.YthcjembekadijaaOrderSaidPartas
namespace Go.Proofs.Ythcjembekadijaa.DrwM
open Go.RowKit Cur Pairs Rec RecEq Keep Two Drw DrwC DrwR DrwD DrwK DrwP
theorem far {w : World} {k g : Nat} {o : Nat} {u v x : Value} (h : w.cell? ⟨g, o, none⟩ = some x) (hne : g ≠ k) : ((w.setCell ⟨k, 0, none⟩ u).setCell ⟨k, 1, none⟩ v).cell? ⟨g, o, none⟩ = some x :=
  ((World.cell?_setCell_other _ _ _ _ (by intro e; injection e with e; exact hne e.symm)).trans (World.cell?_setCell_other _ _ _ _ (by intro e; injection e with e; exact hne e.symm))).trans h
/-- One of the numbers that a context may get: at the row just laid, behind a draw, and behind a growth that keeps it. -/
theorem among_kept (B : Nat) (a : Option Addr) (len cap m : Nat) (hm : m ≤ 900000) (w wq : World) (hB : B < w.heap.size) (hg : (w.alloc (.cells #[.int .i64 1, .int .i64 2, .int .i64 3, .int .i64 8, .int .i64 40, .int .i64 999, .int .i64 0, .int .i64 1000] 3)).grownBy wq (some B)) (h : Ok wq B a len cap m) :
    Calls Try.prog 76 #[.pointer (some ⟨B, 0, none⟩), .slice (some ⟨w.heap.size, 0, none⟩) 8 8] wq fun e w' => ∃ y : Int, e = .returned (.int .i64 y) ∧ Ok w' B a len cap (m + 1) ∧ wq.grownBy w' (some B) := by
  have hs : (w.alloc (.cells #[.int .i64 1, .int .i64 2, .int .i64 3, .int .i64 8, .int .i64 40, .int .i64 999, .int .i64 0, .int .i64 1000] 3)).heap.size = w.heap.size + 1 := by simp
  have hc : ∀ (i : Nat) (x : Int), ([1, 2, 3, 8, 40, 999, 0, 1000] : List Int)[i]? = some x → (w.alloc (.cells #[.int .i64 1, .int .i64 2, .int .i64 3, .int .i64 8, .int .i64 40, .int .i64 999, .int .i64 0, .int .i64 1000] 3)).cell? ⟨w.heap.size, i, none⟩ = some (.int .i64 x) := list_cells w [1, 2, 3, 8, 40, 999, 0, 1000]
  have hne : w.heap.size ≠ B := by omega
  refine (among_ok B a len cap m hm w.heap.size 8 [1, 2, 3, 8, 40, 999, 0, 1000] rfl (by omega) (by omega) wq h hne (by have := hg.size; omega) (fun i x hi => ?_)).mono ?_
  · exact (World.cell?_of_block (w := w.alloc (.cells #[.int .i64 1, .int .i64 2, .int .i64 3, .int .i64 8, .int .i64 40, .int .i64 999, .int .i64 0, .int .i64 1000] 3)) (w' := wq) (a := ⟨w.heap.size, i, none⟩) (hg.block w.heap.size (by omega) (fun e => by injection e with e; omega))).trans (hc i x hi)
  · rintro e w' ⟨y, he, _, hok, hg'⟩
    exact ⟨y, he, hok, hg'⟩
theorem among_new (B : Nat) (a : Option Addr) (len cap m : Nat) (hm : m ≤ 900000) (w : World) (hB : B < w.heap.size) (h : Ok w B a len cap m) :
    Calls Try.prog 76 #[.pointer (some ⟨B, 0, none⟩), .slice (some ⟨w.heap.size, 0, none⟩) 8 8] (w.alloc (.cells #[.int .i64 1, .int .i64 2, .int .i64 3, .int .i64 8, .int .i64 40, .int .i64 999, .int .i64 0, .int .i64 1000] 3)) fun e w' => ∃ y : Int, e = .returned (.int .i64 y) ∧ Ok w' B a len cap (m + 1) ∧ w.grownBy w' (some B) :=
  (among_kept B a len cap m hm w _ hB (grefl _ _) (ok_alloc h _)).mono fun _ _ ⟨y, h1, h2, h3⟩ => ⟨y, h1, h2, gtrans (World.grownBy_alloc w _ _) h3⟩
theorem among_drew (B : Nat) (a : Option Addr) (len cap m : Nat) (hm : m ≤ 900000) (w : World) (hB : B < w.heap.size) (h : Ok w B a len cap m) :
    Calls Try.prog 76 #[.pointer (some ⟨B, 0, none⟩), .slice (some ⟨w.heap.size, 0, none⟩) 8 8] (w.alloc (.cells #[.int .i64 1, .int .i64 2, .int .i64 3, .int .i64 8, .int .i64 40, .int .i64 999, .int .i64 0, .int .i64 1000] 3)).drew fun e w' => ∃ y : Int, e = .returned (.int .i64 y) ∧ Ok w' B a len cap (m + 1) ∧ w.grownBy w' (some B) :=
  have hd : (w.alloc (.cells #[.int .i64 1, .int .i64 2, .int .i64 3, .int .i64 8, .int .i64 40, .int .i64 999, .int .i64 0, .int .i64 1000] 3)).grownBy (w.alloc (.cells #[.int .i64 1, .int .i64 2, .int .i64 3, .int .i64 8, .int .i64 40, .int .i64 999, .int .i64 0, .int .i64 1000] 3)).drew (some B) := ⟨rfl, rfl, rfl, Nat.le_refl _, fun _ _ _ => rfl⟩
  (among_kept B a len cap m hm w _ hB hd (ok_below (ok_alloc h _) ((Below.refl _ _).drew))).mono fun _ _ ⟨y, h1, h2, h3⟩ => ⟨y, h1, h2, gtrans (gtrans (World.grownBy_alloc w _ _) hd) h3⟩
set_option maxRecDepth 100000 in
set_option maxHeartbeats 8000000 in
theorem drawRenumber_any (a : Option Addr) (len cap : Nat) (w : World) (h : IsCode w a len) :
    Calls Try.prog 41 #[.slice a len cap] w (Drawn2 w) := by
  have hb0 := below_alloc w (.cells #[.slice none 0 0, .slice none 0 0] 27)
  have hok := ok_new (cap := cap) (h.below hb0)
  have hs0 : (w.alloc (.cells #[.slice none 0 0, .slice none 0 0] 27)).heap.size = w.heap.size + 1 := by simp
  rw [hs0] at hok
  have hrb0 : (w.alloc (.cells #[.slice none 0 0, .slice none 0 0] 27)).heap[w.heap.size]? = some (.cells #[.slice none 0 0, .slice none 0 0] 27) := heap_alloc_new w _
  generalize hW0 : w.alloc (.cells #[.slice none 0 0, .slice none 0 0] 27) = W0 at *
  have HW0 := Lib.hid hW0
  clear hW0
  have hbW := below_alloc W0 (.cells #[.slice a len cap, .int .i64 0, .int .u64 0] 80)
  have HB1 := Lib.hid (hb0.trans (hbW.mono hb0.size))
  have HRB := Lib.hid ((hbW.block w.heap.size (by omega)).trans hrb0)
  have hs1 : (W0.alloc (.cells #[.slice a len cap, .int .i64 0, .int .u64 0] 80)).heap.size = w.heap.size + 2 := by simp [hs0]
  have HS1 := Lib.hid hs1
  have HOK := Lib.hid hok
  clear hb0 hrb0 hbW hs1 hok h
  go_enter Try.func41, Try.ntmps41
  go_upto_region 2 with fail
  rw [HW0.out]
  generalize W0.alloc (.cells #[.slice a len cap, .int .i64 0, .int .u64 0] 80) = W at *
  clear hs0 HW0
  have HBl : Hid (w.heap.size + 1 < W.heap.size) := by have := HS1.out; unfold Hid; omega
  go_wp2_with fail
  refine (DrwN.anyRecord_any (w.heap.size + 1) a len cap 0 (by omega) W HOK.out).mono ?_
  rintro e w1 ⟨p1, n1, d1, p2, n2, d2, L1, L2, rfl, hgot⟩
  have hf1 := hgot.few1
  have hf2 := hgot.few2
  have HN := Lib.hid (RSt.new hgot.ctx hgot.rel hgot.ok hgot.gr)
  clear hgot
  go_upto_region 3 with fail
  generalize w1.alloc (.cells #[.slice p1 n1 d1, .slice p2 n2 d2] 27) = V at *
  have HD := Lib.hid (HN.out.below ((Below.refl _ _).drew))
  have HDB := Lib.hid (HN.out.below ((below_alloc V (.cells #[.int .i64 1, .int .i64 2, .int .i64 3, .int .i64 8, .int .i64 40, .int .i64 999, .int .i64 0, .int .i64 1000] 3)).drew))
  have HVB : Hid (w.heap.size + 1 < V.heap.size) := by have h1 := HN.out.gr.size; have h2 := HBl.out; unfold Hid; omega
  have HDR : Hid ((V.alloc (.cells #[.int .i64 1, .int .i64 2, .int .i64 3, .int .i64 8, .int .i64 40, .int .i64 999, .int .i64 0, .int .i64 1000] 3)).grownBy (V.alloc (.cells #[.int .i64 1, .int .i64 2, .int .i64 3, .int .i64 8, .int .i64 40, .int .i64 999, .int .i64 0, .int .i64 1000] 3)).drew (some (w.heap.size + 1))) := ⟨rfl, rfl, rfl, Nat.le_refl _, fun _ _ _ => rfl⟩
  have HGW : Hid (w1.heap.size ≠ w.heap.size) := by have h1 := HN.out.gr.size; have h2 := HBl.out; have h3 := HN.out.gt; unfold Hid; omega
  go_region_held3 (fun (X : World) => X.cell? ⟨w1.heap.size, 0, none⟩ = some (.slice p1 n1 d1) ∧ X.cell? ⟨w1.heap.size, 1, none⟩ = some (.slice p2 n2 d2)) (first | with_reducible exact ⟨HD.out.cells.1, HD.out.cells.2.1⟩ | with_reducible exact ⟨HDB.out.cells.1, HDB.out.cells.2.1⟩ | with_reducible exact ⟨HX5.out.cells.1, HX5.out.cells.2.1⟩ | with_reducible exact ⟨HX6.out.cells.1, HX6.out.cells.2.1⟩ | with_reducible exact ⟨(HX5.out.below (below_alloc w5 (.cells #[.int .i64 1, .int .i64 2, .int .i64 3, .int .i64 8, .int .i64 40, .int .i64 999, .int .i64 0, .int .i64 1000] 3))).cells.1, (HX5.out.below (below_alloc w5 (.cells #[.int .i64 1, .int .i64 2, .int .i64 3, .int .i64 8, .int .i64 40, .int .i64 999, .int .i64 0, .int .i64 1000] 3))).cells.2.1⟩ | with_reducible exact ⟨(HN.out.below (below_alloc V (.cells #[.int .i64 1, .int .i64 2, .int .i64 3, .int .i64 8, .int .i64 40, .int .i64 999, .int .i64 0, .int .i64 1000] 3))).cells.1, (HN.out.below (below_alloc V (.cells #[.int .i64 1, .int .i64 2, .int .i64 3, .int .i64 8, .int .i64 40, .int .i64 999, .int .i64 0, .int .i64 1000] 3))).cells.2.1⟩ | with_reducible exact ⟨far HX6.out.cells.1 HGW.out, far HX6.out.cells.2.1 HGW.out⟩ | fail) (first
    | (go_at_call 65; have hcall := (number_any (w.heap.size + 1) W.heap.size a len cap _ (by omega) HBl.out p1 p2 n1 d1 n2 d2 L1 (by omega) w5 HX5.out.ok HX5.out.ctx); refine hcall.mono ?_; clear hcall; rintro e w6 ⟨x, rfl, _, hok5, hg5⟩; have HX6 := Lib.hid (HX5.out.step HBl.out hg5 hok5); obtain ⟨e1, e2, e3, e4, e5⟩ := HX6.out.cells; obtain ⟨r1, r2, r3, r4, z1, z2⟩ := HX6.out.other HRB.out (by omega) (.slice p1 n1 d1) (.slice p2 n2 d2); clear hok5 hg5)
    | (go_at_call 65; refine (number_any (w.heap.size + 1) W.heap.size a len cap (0 + 120) (by omega) HBl.out p1 p2 n1 d1 n2 d2 L1 (by omega) _ (by first | exact HD.out.ok | exact HDB.out.ok) (by first | exact HD.out.ctx | exact HDB.out.ctx)).mono ?_; rintro e w5 ⟨x, rfl, _, hok5, hg5⟩; have HX5 : Hid (RSt W w5 (w.heap.size + 1) a len cap (0 + 120 + 2) w1.heap.size p1 n1 d1 p2 n2 d2 L1 L2) := (by first | exact HD.out.step HBl.out hg5 hok5 | exact HDB.out.step HBl.out hg5 hok5); obtain ⟨c1, c2, c3, c4, c5⟩ := HX5.out.cells; first | (have HGK : Hid ((V.alloc (.cells #[.int .i64 1, .int .i64 2, .int .i64 3, .int .i64 8, .int .i64 40, .int .i64 999, .int .i64 0, .int .i64 1000] 3)).grownBy w5 (some (w.heap.size + 1))) := gtrans HDR.out hg5; clear hok5 hg5) | clear hok5 hg5)
    | (go_at_call 76; have hcall := (among_kept (w.heap.size + 1) a len cap _ (by omega) V w5 HVB.out HGK.out HX5.out.ok); refine hcall.mono ?_; clear hcall; rintro e w6 ⟨y, rfl, hok5, hg5⟩; have HX6 := Lib.hid (HX5.out.step HBl.out hg5 hok5); obtain ⟨e1, e2, e3, e4, e5⟩ := HX6.out.cells; obtain ⟨r1, r2, r3, r4, z1, z2⟩ := HX6.out.other HRB.out (by omega) (.slice p1 n1 d1) (.slice p2 n2 d2); clear hok5 hg5)
    | (go_at_call 76; have hcall := (among_new (w.heap.size + 1) a len cap _ (by omega) w5 (by have := HX5.out.gr.size; have := HBl.out; omega) HX5.out.ok); refine hcall.mono ?_; clear hcall; rintro e w6 ⟨y, rfl, hok5, hg5⟩; have HX6 := Lib.hid (HX5.out.step HBl.out hg5 hok5); obtain ⟨e1, e2, e3, e4, e5⟩ := HX6.out.cells; obtain ⟨r1, r2, r3, r4, z1, z2⟩ := HX6.out.other HRB.out (by omega) (.slice p1 n1 d1) (.slice p2 n2 d2); clear hok5 hg5)
    | (go_at_call 76; have hcall := (among_drew (w.heap.size + 1) a len cap _ (by omega) V HVB.out HN.out.ok); refine hcall.mono ?_; clear hcall; rintro e w5 ⟨y, rfl, hok5, hg5⟩; have HX5 := Lib.hid (HN.out.step HBl.out hg5 hok5); obtain ⟨c1, c2, c3, c4, c5⟩ := HX5.out.cells;  clear hok5 hg5)
    | fail)
  all_goals go_wp2_with fail
  all_goals refine bodyPost_ret (v := .tuple #[.agg #[.slice p1 n1 d1, .slice p2 n2 d2], .int .i64 x, .int .i64 y]) (by simp [results, Try.results41, go_sem, z1, z2]) rfl ?_
  all_goals exact ⟨_, _, _, _, _, _, _, _, _, _, rfl, RSt.drec HX6.out HB1.out (by omega) (by have := HBl.out; omega) (by omega) (by omega) _ _⟩
end Go.Proofs.Ythcjembekadijaa.DrwM
/- Relations whose numbers are replaced: in their order, each once, none of a context with itself. -/
namespace Go.Proofs.Ythcjembekadijaa.SwapM
open Pairs Find2 GoodM RelM
def rn (o n a : Int) : Int := if a = o then n else a
def rnp (o n : Int) (p : Int × Int) : Int × Int := (rn o n p.1, rn o n p.2)
def nz (p : Int × Int) : Bool := decide (p.1 ≠ p.2)
def pre (o n : Int) (m : List (Int × Int)) : List (Int × Int) := (m.map (rnp o n)).filter nz
def swapM (o n : Int) (m : List (Int × Int)) : List (Int × Int) := (pre o n m).foldl link []
theorem rn_same (o n : Int) : rn o n o = n := by unfold rn; rw [if_pos rfl]
theorem rn_other {o n a : Int} (h : a ≠ o) : rn o n a = a := by unfold rn; rw [if_neg h]
theorem pre_next {o n : Int} {m : List (Int × Int)} {k : Nat} {x : Int × Int} (hx : m[k]? = some x) : pre o n (m.take (k + 1)) = pre o n (m.take k) ++ (if nz (rnp o n x) = true then [rnp o n x] else []) := by
  unfold pre
  rw [List.take_add_one, hx, List.map_append, List.filter_append]
  cases h : nz (rnp o n x) <;> simp [h]
theorem pre_len (o n : Int) (m : List (Int × Int)) (k : Nat) : (pre o n (m.take k)).length ≤ k :=
  Nat.le_trans (List.length_filter_le _ _) (by rw [List.length_map, List.length_take]; omega)
theorem up_fold : ∀ (L acc : List (Int × Int)), Up acc → Up (L.foldl link acc)
  | [], _, h => h
  | x :: L, acc, h => up_fold L (link acc x) (up_link h x)
theorem mem_fold {y : Int × Int} : ∀ (L acc : List (Int × Int)), y ∈ L.foldl link acc ↔ y ∈ acc ∨ y ∈ L
  | [], acc => by simp
  | x :: L, acc => by
    rw [List.foldl_cons, mem_fold L (link acc x), mem_link, List.mem_cons]
    constructor
    · rintro ((rfl | h) | h)
      · exact .inr (.inl rfl)
      · exact .inl h
      · exact .inr (.inr h)
    · rintro (h | rfl | h)
      · exact .inl (.inr h)
      · exact .inl (.inl rfl)
      · exact .inr h
theorem up_nil : Up [] := List.Pairwise.nil
theorem link_len (m : List (Int × Int)) (x : Int × Int) : (link m x).length ≤ m.length + 1 := by
  unfold link
  by_cases h : m[plR m x]? = some x
  · rw [if_pos h]; omega
  · rw [if_neg h, ins_len]; omega
theorem fold_len : ∀ (L acc : List (Int × Int)), (L.foldl link acc).length ≤ acc.length + L.length
  | [], _ => by simp
  | x :: L, acc => by
    have h1 := fold_len L (link acc x)
    have h2 := link_len acc x
    rw [List.foldl_cons, List.length_cons]
    omega
theorem swap_next {o n : Int} {m : List (Int × Int)} {k : Nat} {x : Int × Int} (hx : m[k]? = some x) : swapM o n (m.take (k + 1)) = if nz (rnp o n x) = true then link (swapM o n (m.take k)) (rnp o n x) else swapM o n (m.take k) := by
  unfold swapM
  rw [pre_next hx, List.foldl_append]
  cases h : nz (rnp o n x) <;> simp
theorem swap_len (o n : Int) (m : List (Int × Int)) (k : Nat) : (swapM o n (m.take k)).length ≤ k := by
  have h1 := fold_len (pre o n (m.take k)) []
  have h2 := pre_len o n m k
  unfold swapM
  simp at h1
  omega

/-- What slices.Compact keeps of the first k. -/
def ct (L : List (Int × Int)) : Nat → List (Int × Int)
  | 0 => []
  | k + 1 => ct L k ++ (match L[k]? with | none => [] | some x => if k = 0 ∨ L[k - 1]? ≠ some x then [x] else [])
theorem ct_new {L : List (Int × Int)} {k : Nat} {x : Int × Int} (hx : L[k]? = some x) (h : k = 0 ∨ L[k - 1]? ≠ some x) : ct L (k + 1) = ct L k ++ [x] := by
  show ct L k ++ _ = _
  rw [hx]
  simp only [if_pos h]
theorem ct_old {L : List (Int × Int)} {k : Nat} {x : Int × Int} (hx : L[k]? = some x) (h : ¬ (k = 0 ∨ L[k - 1]? ≠ some x)) : ct L (k + 1) = ct L k := by
  show ct L k ++ _ = _
  rw [hx]
  simp only [if_neg h, List.append_nil]
theorem ct_len (L : List (Int × Int)) : ∀ k, (ct L k).length ≤ k
  | 0 => Nat.le_refl _
  | k + 1 => by
    have ih := ct_len L k
    cases hx : L[k]? with
    | none =>
      show (ct L k ++ _).length ≤ _
      rw [hx]
      simp
      omega
    | some x =>
      by_cases h : k = 0 ∨ L[k - 1]? ≠ some x
      · rw [ct_new hx h, List.length_append]
        simp
        omega
      · rw [ct_old hx h]; omega
theorem ct_mem {L : List (Int × Int)} {y : Int × Int} : ∀ k, y ∈ ct L k ↔ y ∈ L.take k
  | 0 => by simp [ct]
  | k + 1 => by
    have ih := ct_mem (L := L) (y := y) k
    rw [List.take_add_one]
    cases hx : L[k]? with
    | none =>
      show y ∈ ct L k ++ _ ↔ _
      rw [hx]
      simpa using ih
    | some x =>
      by_cases h : k = 0 ∨ L[k - 1]? ≠ some x
      · rw [ct_new hx h, List.mem_append, ih, List.mem_append]
        simp
      · rw [ct_old hx h, ih, List.mem_append]
        constructor
        · exact .inl
        · rintro (h1 | h1)
          · exact h1
          · simp at h1
            subst h1
            have hk : ¬ k = 0 := fun e => h (.inl e)
            have hp : L[k - 1]? = some y := by
              cases e : decide (L[k - 1]? = some y) with
              | true => exact of_decide_eq_true e
              | false => exact absurd (.inr (of_decide_eq_false e)) h
            rw [List.mem_take_iff_getElem]
            have hl := (List.getElem?_eq_some_iff.1 hp).1
            exact ⟨k - 1, by omega, (List.getElem?_eq_some_iff.1 hp).2⟩
/-- A list in order, equals allowed. -/
def InOrder (L : List (Int × Int)) : Prop := ∀ (i j : Nat) (x y : Int × Int), i ≤ j → L[i]? = some x → L[j]? = some y → x = y ∨ before x y = true
theorem ct_up {L : List (Int × Int)} (hs : InOrder L) : ∀ k, Up (ct L k)
  | 0 => up_nil
  | k + 1 => by
    have ih := ct_up hs k
    cases hx : L[k]? with
    | none =>
      show Up (ct L k ++ _)
      rw [hx]
      simpa using ih
    | some x =>
      by_cases h : k = 0 ∨ L[k - 1]? ≠ some x
      · rw [ct_new hx h]
        unfold Up
        rw [List.pairwise_append]
        refine ⟨ih, List.pairwise_singleton _ _, ?_⟩
        intro a ha b hb
        have eb : b = x := by simpa using hb
        subst eb
        rw [ct_mem, List.mem_take_iff_getElem] at ha
        obtain ⟨i, hi, rfl⟩ := ha
        have hil : i < L.length := by omega
        rcases hs i k _ _ (by omega) (List.getElem?_eq_getElem hil) hx with e | e
        · exfalso
          rcases h with h | h
          · omega
          · have hkl := (List.getElem?_eq_some_iff.1 hx).1
            have hz : L[k - 1]? = some L[k - 1] := List.getElem?_eq_getElem (by omega)
            rcases hs i (k - 1) _ _ (by omega) (List.getElem?_eq_getElem hil) hz with e1 | e1
            · exact h (by rw [hz, ← e1, e])
            · rcases hs (k - 1) k _ _ (by omega) hz hx with e2 | e2
              · exact h (by rw [hz, e2])
              · have := before_trans e1 e2
                rw [e, before_irrefl] at this
                cases this
        · exact e
      · rw [ct_old hx h]; exact ih
def leR (x y : Int × Int) : Bool := !before y x
theorem leR_trans (a b c : Int × Int) (h1 : leR a b = true) (h2 : leR b c = true) : leR a c = true := by
  unfold leR at *
  cases hca : before c a with
  | false => rfl
  | true =>
    exfalso
    have n1 : before b a = false := by simpa using h1
    have n2 : before c b = false := by simpa using h2
    have m1 : ¬ before b a = true := by simp [n1]
    have m2 : ¬ before c b = true := by simp [n2]
    rw [before_iff] at hca m1 m2
    omega
theorem leR_total (a b : Int × Int) : (leR a b || leR b a) = true := by
  unfold leR
  cases h1 : before b a with
  | false => simp
  | true =>
    cases h2 : before a b with
    | false => simp
    | true =>
      have := before_trans h1 h2
      rw [before_irrefl] at this
      cases this
theorem sort_order (P : List (Int × Int)) : InOrder (P.mergeSort leR) := by
  have hp := List.pairwise_mergeSort leR_trans leR_total P
  intro i j x y hij hx hy
  by_cases e : i = j
  · subst e
    rw [hx] at hy
    injection hy with hy
    exact .inl hy
  · have hi := List.getElem?_eq_some_iff.1 hx
    have hj := List.getElem?_eq_some_iff.1 hy
    have h := List.pairwise_iff_getElem.1 hp i j hi.1 hj.1 (by omega)
    rw [hi.2, hj.2] at h
    unfold leR at h
    have h' : before y x = false := by simpa using h
    cases hb : before x y with
    | true => exact .inr rfl
    | false => exact .inl (before_total hb h')
/-- What the program makes of the relations is what the model makes of them. -/
theorem compact_sort (o n : Int) (m : List (Int × Int)) : ct ((pre o n m).mergeSort leR) (pre o n m).length = swapM o n m := by
  refine Up.ext (ct_up (sort_order _) _) (up_fold _ _ up_nil) ?_
  intro x
  unfold swapM
  rw [ct_mem, mem_fold, List.take_of_length_le (by rw [List.length_mergeSort]; omega), List.mem_mergeSort]
  simp
end Go.Proofs.Ythcjembekadijaa.SwapM
/- A row of relations under way: what is kept stands ahead; from some place on it is as it was. -/
namespace Go.Proofs.Ythcjembekadijaa.Rw
open Go.RowKit Pairs Rec RecEq Keep Row2 Copy Two
open RemC (own_of_take)
def Rw (w wr : World) (g n : Nat) (P : List (Int × Int)) (j : Nat) (m : List (Int × Int)) : Prop :=
  ∃ ys : List Value, wr.heap[g]? = some (.cells ys.toArray 39) ∧ ys.length = n * 2 ∧ P.length ≤ n ∧ (∀ t, t < P.length * 2 → ys[t]? = (flat P)[t]?) ∧ (∀ t, j * 2 ≤ t → t < m.length * 2 → ys[t]? = (flat m)[t]?) ∧ Kept (fun b => b = g) w wr
variable {w wr wq : World} {g n j : Nat} {P m : List (Int × Int)}
theorem Rw.start (h : w.heap[g]? = some (.cells (flat m).toArray 39)) (hl : m.length = n) : Rw w w g n [] 0 m :=
  ⟨flat m, h, by rw [flat_len, hl], by simp, fun t ht => by simp at ht, fun _ _ _ => rfl, Kept.refl _ w⟩
theorem Rw.kept (h : Rw w wr g n P j m) : Kept (fun b => b = g) w wr := by obtain ⟨_, _, _, _, _, _, h⟩ := h; exact h
theorem Rw.lt (h : Rw w wr g n P j m) : g < wr.heap.size := by obtain ⟨_, h, _⟩ := h; exact (Array.getElem?_eq_some_iff.1 h).1
theorem Rw.below (h : Rw w wr g n P j m) (hb : Below wr.heap.size wr wq) : Rw w wq g n P j m := by
  obtain ⟨ys, h1, h2, h3, h4, h5, h6⟩ := h
  exact ⟨ys, (hb.block g (Array.getElem?_eq_some_iff.1 h1).1).trans h1, h2, h3, h4, h5, h6.trans (Kept.of hb)⟩
theorem Rw.mono (h : Rw w wr g n P j m) {j' : Nat} (hj : j ≤ j') : Rw w wr g n P j' m := by
  obtain ⟨ys, h1, h2, h3, h4, h5, h6⟩ := h
  exact ⟨ys, h1, h2, h3, h4, fun t ht => h5 t (by omega), h6⟩
theorem Rw.cells (h : Rw w wr g n P j m) {k : Nat} (hk : j ≤ k) {x y : Int} (hx : m[k]? = some (x, y)) : wr.cell? ⟨g, k * 2, none⟩ = some (.int .i64 x) ∧ wr.cell? ⟨g, k * 2 + 1, none⟩ = some (.int .i64 y) := by
  obtain ⟨ys, h1, _, _, _, h5, _⟩ := h
  have e := flat_get m k x y hx
  have hkl := (List.getElem?_eq_some_iff.1 hx).1
  constructor
  · simp only [World.cell?, h1, List.getElem?_toArray]
    rw [h5 _ (by omega) (by omega), e.1]
    rfl
  · simp only [World.cell?, h1, List.getElem?_toArray]
    rw [h5 _ (by omega) (by omega), e.2]
    rfl
theorem Rw.there (h : Rw w wr g n P j m) {t : Nat} (ht : t < n * 2) : (∃ v, wr.cell? ⟨g, t, none⟩ = some v) ∧ wr.frozen? ⟨g, t, none⟩ = false := by
  obtain ⟨ys, h1, h2, _⟩ := h
  refine ⟨⟨ys[t], ?_⟩, ?_⟩
  · simp only [World.cell?, h1, List.getElem?_toArray]
    rw [List.getElem?_eq_getElem (by omega)]
    rfl
  · simp only [World.frozen?, h1]
    rfl
theorem Rw.put2 (h : Rw w wr g n P j m) {j' : Nat} (hj : j ≤ j') (hf : P.length < j') (hn : P.length < n) (x y : Int) :
    Rw w ((wr.setCell ⟨g, P.length * 2, none⟩ (.int .i64 x)).setCell ⟨g, P.length * 2 + 1, none⟩ (.int .i64 y)) g n (P ++ [(x, y)]) j' m := by
  obtain ⟨ys, h1, h2, h3, h4, h5, h6⟩ := h
  have s1 := heap_setCell_same wr g (P.length * 2) ys.toArray _ (.int .i64 x) h1
  have s2 := heap_setCell_same (wr.setCell ⟨g, P.length * 2, none⟩ (.int .i64 x)) g (P.length * 2 + 1) _ _ (.int .i64 y) s1
  refine ⟨(ys.set (P.length * 2) (.int .i64 x)).set (P.length * 2 + 1) (.int .i64 y), ?_, by simpa using h2, by simp; omega, ?_, ?_, (h6.setCell (g := g) rfl _).setCell (g := g) rfl _⟩
  · rw [s2]
    simp
  · intro t ht
    rw [List.length_append, List.length_singleton] at ht
    rw [flat_app]
    have hl : (flat P).length = P.length * 2 := flat_len P
    by_cases e1 : t = P.length * 2 + 1
    · subst e1
      rw [List.getElem?_set_self (by simp; omega), List.getElem?_append_right (by omega), hl, show P.length * 2 + 1 - P.length * 2 = 1 by omega]
      rfl
    · rw [List.getElem?_set_ne (by omega)]
      by_cases e2 : t = P.length * 2
      · subst e2
        rw [List.getElem?_set_self (by omega), List.getElem?_append_right (by omega), hl, Nat.sub_self]
        rfl
      · rw [List.getElem?_set_ne (by omega), List.getElem?_append_left (by omega)]
        exact h4 t (by omega)
  · intro t ht htm
    rw [List.getElem?_set_ne (by omega), List.getElem?_set_ne (by omega)]
    exact h5 t (by omega) htm
/-- An append where there is room. -/
theorem Rw.append (h : Rw w wr g n P j m) {j' f : Nat} (hj : j ≤ j') (hP : P.length = f) (hf : f < j') (hn : f < n) {x y : Int} {k : Nat} {T : TypeId} (hp : wr.heap[k]? = some (.cells #[.int .i64 x, .int .i64 y] T)) (ty : TypeId) :
    ∃ w', (Builtin.append_ #[25, 25] ty #[.slice (some ⟨g, 0, none⟩) f n, .slice (some ⟨k, 0, none⟩) 1 1]).run Try.prog wr = .ok (.slice (some ⟨g, 0, none⟩) (f + 1) n) w' ∧ Rw w w' g n (P ++ [(x, y)]) j' m ∧ (∀ b, b ≠ g → w'.heap[b]? = wr.heap[b]?) ∧ w'.heap.size = wr.heap.size := by
  obtain ⟨i, hi, _, hsz, _⟩ := info_parts infoRelation
  obtain ⟨ys, h1, h2, h3, h4, h5, h6⟩ := h
  have hrun := run_append_room (P := Try.prog) wr 25 ty 39 i Try.underlying25 hi g f n ys.toArray h1 ⟨k, 0, none⟩ 1 1 [.int .i64 x, .int .i64 y] (by rw [hsz]; rfl) (World.news_of_block hp) (by intro v hv; simp at hv; rcases hv with rfl | rfl <;> rfl) (by omega) (by rw [hsz]; simp; omega)
  rw [hsz] at hrun
  refine ⟨_, hrun, ⟨ys.take (f * 2) ++ [.int .i64 x, .int .i64 y] ++ ys.drop (f * 2 + 2), setRow_heap wr g _ _ _ _ h1, ?_, by simp; omega, ?_, ?_, ?_⟩, fun b hb => setRow_other wr g b _ hb, by unfold World.setRow; simp⟩
  · simp; omega
  · intro t ht
    rw [List.length_append, List.length_singleton] at ht
    rw [flat_app, List.append_assoc]
    have hl : (flat P).length = f * 2 := by rw [flat_len, hP]
    by_cases e2 : t < f * 2
    · rw [List.getElem?_append_left (by simp; omega), List.getElem?_append_left (by omega), List.getElem?_take_of_lt e2]
      exact h4 t (by omega)
    · have hlt : (ys.take (f * 2)).length = f * 2 := by rw [List.length_take]; omega
      rw [List.getElem?_append_right (l₁ := ys.take (f * 2)) (by omega), List.getElem?_append_right (l₁ := flat P) (by omega), hlt, hl, List.getElem?_append_left (by simp; omega)]
      rfl
  · intro t ht htm
    have hlt : (ys.take (f * 2)).length = f * 2 := by rw [List.length_take]; omega
    rw [List.append_assoc, List.getElem?_append_right (l₁ := ys.take (f * 2)) (by omega), hlt, List.getElem?_append_right (l₁ := [Value.int .i64 x, Value.int .i64 y]) (by simp; omega), List.getElem?_drop]
    rw [show f * 2 + 2 + (t - f * 2 - [Value.int .i64 x, Value.int .i64 y].length) = t by simp; omega]
    exact h5 t (by omega) htm
  · exact h6.trans ⟨rfl, rfl, rfl, by unfold World.setRow; simp, fun b _ hb => setRow_other wr g b _ hb⟩
theorem Rw.owns {B k : Nat} (h : Rw w wr g n P j m) (hP : P.length = k) (hz : n ≤ 1048576) (hB : B ≤ g) : wr.ownsRow B 39 2 (.slice (some ⟨g, 0, none⟩) k n) k (flat P) := by
  obtain ⟨ys, h1, h2, h3, h4, _, _⟩ := h
  refine own_of_take h1 h2 hP (by omega) hz ?_ hB
  apply List.ext_getElem?
  intro t
  by_cases ht : t < P.length * 2
  · rw [List.getElem?_take_of_lt (by omega)]
    exact h4 t ht
  · rw [List.getElem?_eq_none (by rw [List.length_take]; omega), List.getElem?_eq_none (by rw [flat_len]; omega)]
/-- What stands ahead, taken for the row that is worked on. -/
theorem Rw.again (h : Rw w wr g n P j m) {k : Nat} (hk : k ≤ P.length) : Rw wr wr g n (P.take k) k P := by
  obtain ⟨ys, h1, h2, h3, h4, _, _⟩ := h
  refine ⟨ys, h1, h2, by rw [List.length_take]; omega, fun t ht => ?_, fun t _ ht => h4 t ht, Kept.refl _ _⟩
  rw [List.length_take] at ht
  rw [h4 t (by omega), PSrc.flat_take, List.getElem?_take_of_lt (by omega)]
theorem Rw.again0 (h : Rw w wr g n P j m) : Rw wr wr g n [] 0 P := by
  have := h.again (k := 0) (Nat.zero_le _)
  simpa using this
theorem Rw.rebase {w0 : World} (h : Rw w wr g n P j m) (hk : Kept (fun b => b = g) w0 w) : Rw w0 wr g n P j m := by
  obtain ⟨ys, h1, h2, h3, h4, h5, h6⟩ := h
  exact ⟨ys, h1, h2, h3, h4, h5, hk.trans h6⟩
theorem Rw.fill {k : Nat} (h0 : Rw w wr g n [] 0 m) (hk : k ≤ m.length) (hn : m.length ≤ n) : Rw w wr g n (m.take k) k m := by
  obtain ⟨ys, h1, h2, _, _, h5, h6⟩ := h0
  refine ⟨ys, h1, h2, by rw [List.length_take]; omega, fun t ht => ?_, fun t _ ht => h5 t (by omega) ht, h6⟩
  rw [List.length_take] at ht
  rw [h5 t (by omega) (by omega), PSrc.flat_take, List.getElem?_take_of_lt (by omega)]
/-- The rest of the row, cleared. -/
theorem Rw.clear (h : Rw w wr g n P j m) {f k : Nat} (hP : P.length = f) (hk : f + k ≤ n) : Rw w (wr.setCells g (f * 2) (DelF.zl k)) g n P n [] := by
  obtain ⟨ys, h1, h2, h3, h4, _, h6⟩ := h
  refine ⟨splice ys (f * 2) (DelF.zl k), ?_, ?_, h3, ?_, fun t _ ht => by simp at ht, DelC.kept_setCells h6 (g := g) rfl _⟩
  · rw [DelC.setCells_row h1 (by rw [DelF.zl_len]; omega) (DelF.zl_one _)]
    exact setRow_heap _ _ _ _ _ _ h1
  · rw [length_splice _ _ _ (by rw [DelF.zl_len]; omega), h2]
  · intro t ht
    unfold splice
    rw [List.getElem?_append_left (by rw [List.length_take]; omega), List.getElem?_take_of_lt (by omega)]
    exact h4 t ht
end Go.Proofs.Ythcjembekadijaa.Rw
/- The program's renumberRelation: a relation whose numbers are replaced. -/
namespace Go.Proofs.Ythcjembekadijaa.RnR
open Go.RowKit Pairs Rec RecEq Keep Row2 Copy Two SwapM
set_option maxHeartbeats 2000000 in
theorem renumber_any (o n a b : Int) (w : World) : Calls Try.prog 132 #[.agg #[.int .i64 a, .int .i64 b], .int .i64 o, .int .i64 n] w fun e w' => e = .returned (.agg #[.int .i64 (rn o n a), .int .i64 (rn o n b)]) ∧ Below w.heap.size w w' := by
  by_cases ha : a = o
  all_goals by_cases hb : b = o
  all_goals (first | (have qa := beq_false_of_ne ha; rw [rn_other ha]; clear ha) | (subst ha; rw [rn_same]) | fail)
  all_goals (first | (have qb := beq_false_of_ne hb; rw [rn_other hb]; clear hb) | (subst hb; rw [rn_same]) | (clear hb; try rw [rn_same]) | fail)
  all_goals go_enter Try.func132, Try.ntmps132
  all_goals go_wp2
  all_goals refine bodyPost_ret ?_ rfl ⟨rfl, ((Below.refl _ _).alloc (Nat.le_refl _) _).alloc (by simp) _⟩
  all_goals simp [results, Try.results132, go_sem]
end Go.Proofs.Ythcjembekadijaa.RnR
