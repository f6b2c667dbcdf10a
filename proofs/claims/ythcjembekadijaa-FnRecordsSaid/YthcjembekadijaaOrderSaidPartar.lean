/- The program's elementsThat over relations: those that meet a condition. -/
import Derived.Test.YthcjembekadijaaOrderSaidPartaj
import Derived.Test.YthcjembekadijaaOrderSaidPartao
import Derived.Test.YthcjembekadijaaOrderSaidPartaq
import Derived.Test.YthcjembekadijaaOrderSaidPartap
import Derived.Maps.AppendAt
import Derived.Deep.AppendLies
namespace Go.Proofs.Ythcjembekadijaa.Elems
open Go.RowKit Pairs Rec Chain Find2 Keep
theorem cell_two_new (w : World) (x y : Value) (t : TypeId) : ∀ j u, [x, y][j]? = some u → (w.alloc (.cells #[x, y] t)).cell? ((⟨w.heap.size, 0, none⟩ : Addr).add j) = some u := by
  intro j u hj
  match j, hj with
  | 0, hj =>
    simp at hj
    subst hj
    exact box_first w x y t
  | 1, hj =>
    simp at hj
    subst hj
    exact box_second w x y t
theorem flat_append (l1 l2 : List (Int × Int)) : flat (l1 ++ l2) = flat l1 ++ flat l2 := by unfold flat; rw [List.flatMap_append]
theorem filt_next (q : Int × Int → Bool) {m : List (Int × Int)} {k : Nat} {x y : Int} (hx : m[k]? = some (x, y)) : (m.take (k + 1)).filter q = (m.take k).filter q ++ (if q (x, y) = true then [(x, y)] else []) := by
  rw [List.take_add_one, hx, List.filter_append]
  cases h : q (x, y) <;> simp [h]
theorem filt_len (q : Int × Int → Bool) (m : List (Int × Int)) (k : Nat) : ((m.take k).filter q).length ≤ k :=
  Nat.le_trans (List.length_filter_le _ _) (by rw [List.length_take]; omega)
theorem own_form {T : TypeId} {B n : Nat} {w : World} {v : Value} {xs : List Value} (h : w.ownsRow B T 2 v n xs) : ∃ p d, v = .slice p n d := by
  rcases h.2 with ⟨hv, hn⟩ | ⟨g, cap, cur, hv, _⟩
  · subst hn
    exact ⟨none, 0, hv⟩
  · exact ⟨_, cap, hv⟩
theorem empty_own {T : TypeId} (w : World) : (w.alloc (.cells #[] T)).ownsRow w.heap.size T 2 (.slice (some ⟨w.heap.size, 0, none⟩) 0 0) 0 [] :=
  World.ownsRow_made w #[] 0 (Nat.le_refl _) (by unfold maxLen; omega) (by simp)
def ResR (L : List (Int × Int)) (w : World) (e : Ending) (w' : World) : Prop :=
  ∃ (p : Option Addr) (k d : Nat), e = .returned (.slice p k d) ∧ w'.ownsRow w.heap.size 39 2 (.slice p k d) k (flat L) ∧ k ≤ 1048576 ∧ Below w.heap.size w w'
def G1 (B : Nat) (w wr : World) (v : Value) (L : List (Int × Int)) : Prop := wr.ownsRow B 39 2 v L.length (flat L) ∧ Below B w wr
set_option maxRecDepth 100000 in
set_option maxHeartbeats 4000000 in
theorem elems_any (f : FuncId) (bs : Array Value) (q : Int × Int → Bool) (a : Option Addr) (n c : Nat) (m : List (Int × Int)) (w : World) (hn : n ≤ 24) (h1 : Holds w a n m)
    (hcall : ∀ (args : Array Value) (W : World), (callFunc f args).run Try.prog W = .ok (.enter f args) W)
    (hf : ∀ x y wr, (x, y) ∈ m → Below w.heap.size w wr → Calls Try.prog f (#[.agg #[.int .i64 x, .int .i64 y]] ++ bs) wr fun e w' => e = .returned (.bool (q (x, y))) ∧ Below wr.heap.size wr w') :
    Calls Try.prog 61 #[.slice a n c, .func (.func f) #[] bs] w (ResR (m.filter q) w) := by
  obtain ⟨i0, hi, hy0, hy1, hy2⟩ := info_parts infoRelation
  have H1 := Lib.hid h1
  have HL1 := Lib.hid h1.1
  have HF := Lib.hid hf
  have HC := Lib.hid hcall
  have he0 := below_alloc w (.cells #[] 39)
  have HE0 := Lib.hid he0
  have HG0 : Hid (G1 w.heap.size w (w.alloc (.cells #[] 39)) (.slice (some ⟨w.heap.size, 0, none⟩) 0 0) ((m.take 0).filter q)) := ⟨empty_own w, he0⟩
  have hs0 : w.heap.size < (w.alloc (.cells #[] 39)).heap.size := by simp
  clear h1 hf hcall he0
  go_enter Try.func61, Try.ntmps61
  go_wp2_with fail
  generalize w.alloc (.cells #[] 39) = W1 at *
  go_loopw [5, 11] (fun s5 s11 wr => ∃ k : Nat, k ≤ n ∧ s11 = .int .i64 k ∧ Hid (G1 w.heap.size w wr s5 ((m.take k).filter q))) (fun _ s11 _ => n - (intOf s11).toNat)
  case atStart => exact ⟨0, Nat.zero_le _, rfl, HG0⟩
  case round =>
    obtain ⟨k, hk, rfl, HR⟩ := hrel
    clear HG0
    by_cases hlt : k < n
    · obtain ⟨b, off, x, y, rfl, hx, e1, e2⟩ := (H1.out.below HR.out.2).at k hlt
      have HX := Lib.hid (filt_next q hx)
      have hkn : (k : Int) < (n : Int) := by omega
      have hb7 := below_alloc wr (.cells #[.int .i64 x, .int .i64 y] 39)
      have u1 := box_first wr (.int .i64 x) (.int .i64 y) 39
      have u2' := box_second wr (.int .i64 x) (.int .i64 y) 39
      have hz7 : wr.heap.size < (wr.alloc (.cells #[.int .i64 x, .int .i64 y] 39)).heap.size := by simp
      have hBs : w.heap.size ≤ wr.heap.size := HR.out.2.size
      have hfl := filt_len q m k
      have HXM : Hid ((x, y) ∈ m) := List.mem_of_getElem? hx
      have HW7 := Lib.hid (HR.out.2.trans (hb7.mono hBs))
      have HO7 := Lib.hid (ownsRow_below HR.out.1 hb7)
      clear hx hb7 HR
      go_wp2_with fail
      generalize wr.alloc (.cells #[.int .i64 x, .int .i64 y] 39) = W7 at *
      clear e1 e2
      rw [HC.out, Oper.upon_enter]
      refine (HF.out x y W7 HXM.out HW7.out).mono ?_
      rintro e w8 ⟨rfl, b8⟩
      have hown := ownsRow_below HO7.out b8
      have v1 := (b8.cell (p := ⟨wr.heap.size, 0, none⟩) hz7).trans u1
      have v2 := (b8.cell (p := ⟨wr.heap.size, 1, none⟩) hz7).trans u2'
      have HB8 := Lib.hid (HW7.out.trans (b8.mono HW7.out.size))
      have hw8 := HB8.out.size
      clear u1 u2' b8
      cases hq : q (x, y) with
      | true =>
        have HX2 : Hid ((m.take (k + 1)).filter q = (m.take k).filter q ++ [(x, y)]) := by unfold Hid; rw [HX.out, if_pos hq]
        clear HX hq
        go_wp2_with (at_builtin; refine wpList_append_own _ rfl _ _ 25 rfl w.heap.size 39 i0 _ 2 16 Try.underlying25 hi hy0 hy1 hy2 rfl (by decide) _ _ _ rfl (hown.alloc _) ⟨w8.heap.size, 0, none⟩ 1 1 [.int .i64 x, .int .i64 y] rfl rfl (cell_two_new _ _ _ _) (by simp [Value.oneCell']) (by unfold maxLen; omega) (by omega) (by simp; omega) ?_; intro v' w9 hown' hgrow hnil)
        have HG : Hid (G1 w.heap.size w w9 v' ((m.take (k + 1)).filter q)) := by
          unfold Hid G1
          rw [HX2.out, List.length_append, flat_append]
          exact ⟨hown', (HB8.out.alloc hw8 _).grown hgrow (by simp; omega) (fun j hj => (hown.lt j hj).1)⟩
        clear hown' hgrow hown hnil
        exact ⟨⟨k + 1, by omega, by go_num, HG⟩, by simp [intOf]; omega⟩
      | false =>
        have HX2 : Hid ((m.take (k + 1)).filter q = (m.take k).filter q) := by unfold Hid; rw [HX.out, if_neg (by rw [hq]; simp), List.append_nil]
        have HG : Hid (G1 w.heap.size w w8 u5 ((m.take (k + 1)).filter q)) := by
          unfold Hid G1
          rw [HX2.out]
          exact ⟨hown, HB8.out⟩
        clear hown hq HX
        go_wp2_with fail
        exact ⟨⟨k + 1, by omega, by go_num, HG⟩, by simp [intOf]; omega⟩
    · obtain rfl : k = n := by omega
      have hkn : ¬ (k : Int) < (k : Int) := by omega
      have hown := HR.out.1
      rw [List.take_of_length_le (by rw [HL1.out]; exact Nat.le_refl _)] at hown
      have hfl : (m.filter q).length ≤ 24 := by
        have := List.length_filter_le q m
        rw [HL1.out] at this
        omega
      have HBD := Lib.hid HR.out.2
      obtain ⟨p, d, rfl⟩ := own_form hown
      have HO := Lib.hid hown
      clear hown
      go_wp2_with fail
      go_ret
      exact ⟨_, _, _, rfl, HO.out, by omega, HBD.out⟩
end Go.Proofs.Ythcjembekadijaa.Elems
/- Draws: some contexts. -/
namespace Go.Proofs.Ythcjembekadijaa.DrwC
open Go.RowKit Cur Pairs Rec Keep Drw
theorem infoC : (Try.prog.info? 55).map (fun i => (i.zero, i.size, i.bytes)) = some (some (.agg #[.int .i64 0, .int .i64 0]), 2, 16) := by kernel_rfl
theorem infoR : (Try.prog.info? 39).map (fun i => (i.zero, i.size, i.bytes)) = some (some (.agg #[.int .i64 0, .int .i64 0]), 2, 16) := by kernel_rfl
theorem two_new (w : World) (a b : Value) (T : TypeId) : (w.alloc (.cells #[a, b] T)).cell? ⟨w.heap.size, 0, none⟩ = some a ∧ (w.alloc (.cells #[a, b] T)).cell? ⟨w.heap.size, 1, none⟩ = some b := ⟨box_first w a b T, box_second w a b T⟩
/-- A row of contexts under way beside a cursor. -/
structure CSt (w wr : World) (B : Nat) (a : Option Addr) (len cap M : Nat) (v : Value) (n : Nat) (L : List (Int × Int)) : Prop where
  own : wr.ownsRow w.heap.size 55 2 v n (flat L)
  ln : L.length = n
  ok : Ok wr B a len cap M
  gr : w.grownBy wr (some B)
theorem CSt.step {w wr wq : World} {B : Nat} {a : Option Addr} {len cap M M' : Nat} {v : Value} {n : Nat} {L : List (Int × Int)} (h : CSt w wr B a len cap M v n L) (hB : B < w.heap.size) (hg : wr.grownBy wq (some B)) (ho : Ok wq B a len cap M') : CSt w wq B a len cap M' v n L :=
  ⟨own_step h.own hg hB, h.ln, ho, gtrans h.gr hg⟩
def CRes (B : Nat) (a : Option Addr) (len cap M n : Nat) (w : World) (e : Ending) (w' : World) : Prop :=
  ∃ (p : Option Addr) (d : Nat) (L : List (Int × Int)), e = .returned (.slice p n d) ∧ CSt w w' B a len cap M (.slice p n d) n L
theorem CSt.app {w wr w9 : World} {B : Nat} {a : Option Addr} {len cap M : Nat} {v v' : Value} {n : Nat} {L : List (Int × Int)} (h : CSt w wr B a len cap M v n L) (hB : B < w.heap.size) (o : Obj) {x y : Int}
    (hown : w9.ownsRow w.heap.size 55 2 v' (n + 1) (flat L ++ [.int .i64 x, .int .i64 y])) (hg : (wr.alloc o).grownBy w9 v.ownBlock) : CSt w w9 B a len cap M v' (n + 1) (L ++ [(x, y)]) := by
  have h0 := h.own
  have hf : ∀ k, v.ownBlock = some k → w.heap.size ≤ k := fun k hk => (h0.lt k hk).1
  refine ⟨?_, by rw [List.length_append, h.ln]; rfl, ?_, ?_⟩
  · rw [Two.flat_app]
    exact hown
  · exact ok_fresh (ok_alloc h.ok o) hB hg hf
  · exact fresh (gtrans h.gr (World.grownBy_alloc wr o (some B))) hg hf
set_option maxRecDepth 100000 in
set_option maxHeartbeats 4000000 in
theorem some_any (B : Nat) (a : Option Addr) (len cap m : Nat) (hm : m ≤ 800000) (n : Nat) (hn : n ≤ 8) (w : World) (h : Ok w B a len cap m) :
    Calls Try.prog 116 #[.pointer (some ⟨B, 0, none⟩), .int .i64 n] w (CRes B a len cap (m + 2 * n) n w) := by
  obtain ⟨i0, hi, hy0, hy1, hy2⟩ := info_parts infoC
  have hB := h.lt
  have H := Lib.hid h
  have HB := Lib.hid hB
  clear h
  go_enter Try.func116, Try.ntmps116
  go_wp2_with fail
  have HS0 : Hid (CSt w (w.alloc (.cells #[] 55)) B a len cap (m + 2 * 0) (.slice (some ⟨w.heap.size, 0, none⟩) 0 0) 0 []) :=
    ⟨Elems.empty_own w, rfl, ok_alloc H.out _, World.grownBy_alloc w _ _⟩
  generalize w.alloc (.cells #[] 55) = V at *
  go_loopw [5, 6, 7] (fun s5 s6 s7 wr => ∃ (k : Nat) (p : Option Addr) (d : Nat) (L : List (Int × Int)) (num : Int), k ≤ n ∧ s7 = .int .i64 k ∧ s6 = .int .i64 num ∧ 0 ≤ num ∧ num ≤ 3 * (k : Int) ∧ s5 = .slice p k d ∧ Hid (CSt w wr B a len cap (m + 2 * k) (.slice p k d) k L)) (fun _ _ s7 _ => n - (intOf s7).toNat)
  case atStart => exact ⟨0, _, 0, [], 0, Nat.zero_le _, rfl, rfl, by omega, by omega, rfl, HS0⟩
  case round =>
    clear HS0
    obtain ⟨k, p, d, L, num, hk, rfl, rfl, hn0, hn1, rfl, HR⟩ := hrel
    by_cases hlt : k < n
    · have hkn : (k : Int) < (n : Int) := by omega
      go_wp2_with fail
      refine (pick_small B a len cap (m + 2 * k) (by omega) 3 (by omega) (by omega) _ HR.out.ok).mono ?_
      rintro e w1 ⟨r, rfl, ⟨hr0, hr1⟩, hok1, hg1⟩
      have HR1 := Lib.hid (HR.out.step HB.out hg1 hok1)
      clear hok1 hg1
      have hw1 : wrap64 (wrap64 (num + 1) + r) = num + 1 + r := by unfold wrap64; omega
      go_wp2_with fail
      refine (pick_small B a len cap (m + 2 * k + 1) (by omega) 4 (by omega) (by omega) _ HR1.out.ok).mono ?_
      rintro e w2 ⟨s, rfl, ⟨hs0, hs1⟩, hok2, hg2⟩
      have HR2 := Lib.hid (HR1.out.step HB.out hg2 hok2)
      clear hok2 hg2 HR HR1
      have hown := HR2.out.own
      have hle2 := HR2.out.gr.size
      go_wp2_with (at_builtin; (refine wpList_append_lies _ rfl _ _ 24 rfl w.heap.size 55 i0 (.agg #[.int .i64 0, .int .i64 0]) 2 16 Try.underlying24 hi hy0 hy1 hy2 rfl (by decide) (.slice p k d) k (flat L) rfl (hown.alloc _) ⟨w2.heap.size, 0, none⟩ 1 1 [.int .i64 (num + 1 + r), .int .i64 (1 + s)] rfl rfl (Elems.cell_two_new _ _ _ _) (by simp [Value.oneCell']) (by decide) (by unfold maxLen; omega) (by omega) (by simp; omega) (w2.heap.size + 1) (by simp) ?_; intro g9 cap9 w9 hown9 hgrow9 hat9 hlt9))
      have HS2 := HR2.out.app HB.out _ hown9 hgrow9
      rw [show m + 2 * k + 1 + 1 = m + 2 * (k + 1) by omega] at HS2
      have HS3 := Lib.hid HS2
      clear hown9 hgrow9 hat9 hlt9 hown HS2
      exact ⟨⟨k + 1, _, _, _, num + 1 + r, by omega, by go_num, rfl, by omega, by omega, rfl, HS3⟩, by simp [intOf]; omega⟩
    · obtain rfl : k = n := by omega
      have hkn : ¬ (k : Int) < (k : Int) := by omega
      go_wp2_with fail
      go_ret
      exact ⟨p, d, L, rfl, HR.out⟩
end Go.Proofs.Ythcjembekadijaa.DrwC
