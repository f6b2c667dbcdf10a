/- The program's EndContexts. -/
import Derived.Test.YtaikphcemldikaaThat
import Derived.Test.YtaikphcemldikaaSets
import Derived.Test.YtaikphcemldikaaGivesE
import Derived.Test.YtaikphcemldikaaTable
import Derived.Laws.EntriesVeiled
namespace Go.Proofs.Ytaikphcemldikaa.Ends2
open Go.RowKit Go.Maps Pairs Rec Chain Find2 GoodM Keep GivesI Lows Order Idx That Sets MapStep
def upB (m : Ps) (z : Int) : Bool := m.any (fun p => p.1 == z)
def loB (m : Ps) (z : Int) : Bool := m.any (fun p => p.2 == z)
theorem up_next {m : Ps} {k : Nat} {x y : Int} (hx : m[k]? = some (x, y)) (z : Int) : upB (m.take (k + 1)) z = (upB (m.take k) z || (x == z)) := by
  unfold upB
  rw [List.take_add_one, hx, List.any_append]
  simp
theorem lo_next {m : Ps} {k : Nat} {x y : Int} (hx : m[k]? = some (x, y)) (z : Int) : loB (m.take (k + 1)) z = (loB (m.take k) z || (y == z)) := by
  unfold loB
  rw [List.take_add_one, hx, List.any_append]
  simp
def endsP (l m : Ps) : Bool × List Int × List Int := if good l m = true then (true, sel (fun z => !loB m z) l, sel (fun z => !upB m z) l) else (false, [], [])
theorem ends_no {l m : Ps} (h : good l m = false) : endsP l m = (false, [], []) := by unfold endsP; rw [if_neg (by rw [h]; simp)]
theorem ends_yes {l m : Ps} (h : good l m = true) : endsP l m = (true, sel (fun z => !loB m z) l, sel (fun z => !upB m z) l) := by unfold endsP; rw [if_pos h]
theorem clos1 (x : Int) (bo g n : Nat) (S : Int → Bool) (W : World) (c1 : W.cell? ⟨bo, 0, none⟩ = some (.map (some g))) (h : SetAt W g n S) (hrx : -1000000 ≤ x ∧ x ≤ 1000000) :
    Calls Try.prog 87 #[.int .i64 x, .pointer (some ⟨bo, 0, none⟩)] W fun e w' => e = .returned (.bool (!S x)) ∧ Below W.heap.size W w' := by
  have hl := set_look h hrx
  generalize S x = b at *
  clear h
  go_enter Try.func87, Try.ntmps87
  go_wp2_with fail
  go_ret
  exact ⟨rfl, Below.refl _ _⟩
theorem clos2 (x : Int) (bo g n : Nat) (S : Int → Bool) (W : World) (c1 : W.cell? ⟨bo, 0, none⟩ = some (.map (some g))) (h : SetAt W g n S) (hrx : -1000000 ≤ x ∧ x ≤ 1000000) :
    Calls Try.prog 88 #[.int .i64 x, .pointer (some ⟨bo, 0, none⟩)] W fun e w' => e = .returned (.bool (!S x)) ∧ Below W.heap.size W w' := by
  have hl := set_look h hrx
  generalize S x = b at *
  clear h
  go_enter Try.func88, Try.ntmps88
  go_wp2_with fail
  go_ret
  exact ⟨rfl, Below.refl _ _⟩
theorem one_boxed (w : World) : ((w.alloc (.map #[] 0)).alloc (.cells #[.map (some w.heap.size)] 107)).cell? ⟨w.heap.size + 1, 0, none⟩ = some (.map (some w.heap.size)) := by
  have e : (w.alloc (.map #[] 0)).heap.size = w.heap.size + 1 := by simp
  rw [← e, World.cell?_alloc_mark]
  rfl
theorem below_map (w : World) : Below w.heap.size w ((w.alloc (.map #[] 0)).alloc (.cells #[.map (some w.heap.size)] 107)) := That.belA (below_alloc w _) _
theorem two_empty {w : World} {B : Nat} (hB : B ≤ w.heap.size) : ((w.alloc (.cells #[] 3)).alloc (.cells #[] 3)).ownsRow B 3 1 (.slice (some ⟨w.heap.size, 0, none⟩) 0 0) 0 [] ∧ ((w.alloc (.cells #[] 3)).alloc (.cells #[] 3)).ownsRow B 3 1 (.slice (some ⟨w.heap.size + 1, 0, none⟩) 0 0) 0 [] := by
  refine ⟨ownsRow_base ((That.empty_own w).alloc _) hB, ?_⟩
  have h := That.empty_own (T := 3) (w.alloc (.cells #[] 3))
  have e : (w.alloc (.cells #[] 3)).heap.size = w.heap.size + 1 := by simp
  rw [e] at h
  exact ownsRow_base h (by omega)
set_option maxRecDepth 100000 in
set_option maxHeartbeats 8000000 in
theorem impl_any : GivesE.Gives 34 endsP := by
  intro a1 a2 n1 c1 n2 c2 l m w hz1 hz2 h1 h2
  have hmm := @run_makeMap Try.prog
  have hb := below_alloc w (.cells #[.slice a1 n1 c1, .slice a2 n2 c2] 27)
  have hf := box_first w (.slice a1 n1 c1) (.slice a2 n2 c2) 27
  have hf2 := box_second w (.slice a1 n1 c1) (.slice a2 n2 c2) 27
  have H1 := Lib.hid (h1.below hb)
  have H2 := Lib.hid (h2.below hb)
  have HL1 := Lib.hid h1.1
  have HL2 := Lib.hid h2.1
  have hsz : w.heap.size < (w.alloc (.cells #[.slice a1 n1 c1, .slice a2 n2 c2] 27)).heap.size := by simp
  clear h1 h2
  go_enter Try.func34, Try.ntmps34
  go_wp2_with fail
  generalize w.alloc (.cells #[.slice a1 n1 c1, .slice a2 n2 c2] 27) = W at *
  refine (Avr.impl_any a1 a2 n1 c1 n2 c2 l m W hz1 hz2 H1.out H2.out).mono ?_
  rintro e w1 ⟨rfl, b1⟩
  have r1 := (b1.cell (p := ⟨w.heap.size, 0, none⟩) hsz).trans hf
  have r2 := (b1.cell (p := ⟨w.heap.size, 1, none⟩) hsz).trans hf2
  have hsz1 := Nat.lt_of_lt_of_le hsz b1.size
  have HB1 := Lib.hid (hb.trans (b1.mono hb.size))
  have K1 := Lib.hid (H1.out.below b1)
  have K2 := Lib.hid (H2.out.below b1)
  clear hf hf2 b1 hb
  cases hg : good l m with
  | false =>
    have HE := Lib.hid (ends_no hg)
    clear hg
    go_wp2_with fail
    go_ret3
    rw [HE.out]
    obtain ⟨o1, o2⟩ := two_empty (w := w1) (B := w.heap.size) HB1.out.size
    exact ⟨_, _, _, _, _, _, rfl, o1, o2, fun b h1 h2 => by simp [Value.ownBlock] at h1 h2; omega, by omega, by omega, HB1.out.trans ((Good2.below2 _ _ _).mono HB1.out.size)⟩
  | true =>
    have HE := Lib.hid (ends_yes hg)
    have HG := Lib.hid hg
    have hn1 : n1 ≤ 10 := by rw [← HL1.out]; exact (Table.good_few hg).1
    have hn2 : n2 ≤ 24 := by rw [← HL2.out]; exact (Table.good_few hg).2
    have zA : ((w1.alloc (.map #[] 0)).alloc (.cells #[.map (some w1.heap.size)] 107)).heap.size = w1.heap.size + 2 := by simp
    have zZ : ((((w1.alloc (.map #[] 0)).alloc (.cells #[.map (some w1.heap.size)] 107)).alloc (.map #[] 0)).alloc (.cells #[.map (some (w1.heap.size + 2))] 107)).heap.size = w1.heap.size + 4 := by simp
    have hbA := below_map w1
    have hbB := below_map ((w1.alloc (.map #[] 0)).alloc (.cells #[.map (some w1.heap.size)] 107))
    rw [zA] at hbB
    have hbZ := hbA.trans (hbB.mono (by omega))
    have oA := (hbB.cell (p := ⟨w1.heap.size + 1, 0, none⟩) (by show w1.heap.size + 1 < _; omega)).trans (one_boxed w1)
    have oB := one_boxed ((w1.alloc (.map #[] 0)).alloc (.cells #[.map (some w1.heap.size)] 107))
    have sA : SetAt ((((w1.alloc (.map #[] 0)).alloc (.cells #[.map (some w1.heap.size)] 107)).alloc (.map #[] 0)).alloc (.cells #[.map (some (w1.heap.size + 2))] 107)) w1.heap.size 0 (fun _ => false) := (((set_new w1).below (below_alloc _ _)).below (below_alloc _ _)).below (below_alloc _ _)
    have sB := (set_new ((w1.alloc (.map #[] 0)).alloc (.cells #[.map (some w1.heap.size)] 107))).below (below_alloc (((w1.alloc (.map #[] 0)).alloc (.cells #[.map (some w1.heap.size)] 107)).alloc (.map #[] 0)) (.cells #[.map (some (w1.heap.size + 2))] 107))
    rw [zA] at oB sB
    have q1 := (hbZ.cell (p := ⟨w.heap.size, 0, none⟩) hsz1).trans r1
    have q2 := (hbZ.cell (p := ⟨w.heap.size, 1, none⟩) hsz1).trans r2
    have HBZ := Lib.hid hbZ
    have SA := Lib.hid sA
    have SB := Lib.hid sB
    have OA := Lib.hid oA
    have OB := Lib.hid oB
    have R12 := Lib.hid (And.intro r1 r2)
    clear hg r1 r2 hbA hbB hbZ sA sB oA oB zA
    go_wp2_with fail
    clear hmm q1 q2
    generalize ((((w1.alloc (.map #[] 0)).alloc (.cells #[.map (some w1.heap.size)] 107)).alloc (.map #[] 0)).alloc (.cells #[.map (some (w1.heap.size + 2))] 107)) = Z at *
    go_loopw [21] (fun s21 wr => ∃ k : Nat, k ≤ n2 ∧ s21 = .int .i64 k ∧ Hid (SetAt wr w1.heap.size k (upB (m.take k))) ∧ Hid (SetAt wr (w1.heap.size + 2) k (loB (m.take k))) ∧ Hid (wr.cell? ⟨w1.heap.size + 1, 0, none⟩ = some (.map (some w1.heap.size))) ∧ Hid (wr.cell? ⟨w1.heap.size + 2 + 1, 0, none⟩ = some (.map (some (w1.heap.size + 2)))) ∧ Hid (Below w1.heap.size w1 wr) ∧ w1.heap.size + 4 ≤ wr.heap.size) (fun s21 _ => n2 - (intOf s21).toNat)
    case atStart => exact ⟨0, Nat.zero_le _, rfl, SA, SB, OA, OB, HBZ, by omega⟩
    case round =>
      obtain ⟨k, hk, rfl, SU, SL, CU, CL, HBR, hws⟩ := hrel
      clear zZ SA SB OA OB HBZ
      by_cases hlt : k < n2
      · obtain ⟨b, off, x, y, rfl, hx, e1, e2⟩ := (K2.out.below HBR.out).at k hlt
        have hkn : (k : Int) < (n2 : Int) := by omega
        have hxr := rels HG.out (List.mem_of_getElem? hx)
        have HXR := Lib.hid hxr
        have HX := Lib.hid hx
        have hbz := below_alloc wr (.cells #[.int .i64 x, .int .i64 y] 40)
        have u1 := box_first wr (.int .i64 x) (.int .i64 y) 40
        have u2' := box_second wr (.int .i64 x) (.int .i64 y) 40
        have cx1 := (hbz.cell (p := ⟨w1.heap.size + 1, 0, none⟩) (by show w1.heap.size + 1 < _; omega)).trans CU.out
        have cx2 := (hbz.cell (p := ⟨w1.heap.size + 2 + 1, 0, none⟩) (by show w1.heap.size + 2 + 1 < _; omega)).trans CL.out
        have hzs : wr.heap.size < (wr.alloc (.cells #[.int .i64 x, .int .i64 y] 40)).heap.size := by simp
        obtain ⟨DU, hou, hsu⟩ := SU.out.below hbz
        obtain ⟨DL, hol, hsl⟩ := SL.out.below hbz
        have HOU := Lib.hid hou
        have HOL := Lib.hid hol
        have HSU := Lib.hid hsu
        have HSL := Lib.hid hsl
        have HB7 := Lib.hid (HBR.out.trans (hbz.mono HBR.out.size))
        clear hx hxr hbz hou hol hsu hsl SU SL CU CL HBR
        go_wp2_with (first
          | (at_mapUpdate; refine wpList_mapUpdate_own _ rfl _ _ _ 107 rfl 3 4 law Try.underlying107 bR _ k DU rfl HOU.out (by unfold maxLen; omega) _ _ (.int .i64 x) rfl rfl (keyI (by have := HXR.out; omega)) (.lit (.bool true)) [] rfl ?_; intro w8 hown8 hgrow8; have y1 : w8.cell? ⟨w1.heap.size + 2 + 1, 0, none⟩ = some (.map (some (w1.heap.size + 2))) := (World.cell?_of_block (hgrow8.block (w1.heap.size + 2 + 1) (World.block_lt_of_cell? _ _ cx2) (by intro e; injection e with e; omega))).trans cx2; have y2 : w8.cell? ⟨wr.heap.size, 1, none⟩ = some (.int .i64 y) := (World.cell?_of_block (hgrow8.block wr.heap.size hzs (by intro e; injection e with e; omega))).trans u2'; have y3 : w8.cell? ⟨w1.heap.size + 1, 0, none⟩ = some (.map (some w1.heap.size)) := (World.cell?_of_block (hgrow8.block (w1.heap.size + 1) (World.block_lt_of_cell? _ _ cx1) (by intro e; injection e with e; omega))).trans cx1; have HN8 := Lib.hid hown8; have HGR8 := Lib.hid hgrow8; clear hown8 hgrow8)
          | (at_mapUpdate; refine wpList_mapUpdate_own _ rfl _ _ _ 107 rfl 3 4 law Try.underlying107 bR _ k DL rfl (HOL.out.kept HGR8.out (by intro e; injection e with e; omega)) (by unfold maxLen; omega) _ _ (.int .i64 y) rfl rfl (keyI (by have := HXR.out; omega)) (.lit (.bool true)) [] rfl ?_; intro w9 hown9 hgrow9; have HN9 := Lib.hid hown9; have HGR9 := Lib.hid hgrow9; clear hown9 hgrow9))
        have hs7 : w1.heap.size ≤ (wr.alloc (.cells #[.int .i64 x, .int .i64 y] 40)).heap.size := HB7.out.size
        have hs8 := HGR8.out.size
        have hs9 := HGR9.out.size
        have B8 := HB7.out.grown HGR8.out hs7 (fun j hj => by injection hj with hj; omega)
        have B9 := Lib.hid (B8.grown HGR9.out B8.size (fun j hj => by injection hj with hj; omega))
        have SU8 : SetAt w8 w1.heap.size (k + 1) (upB (m.take (k + 1))) := set_put HOU.out HSU.out HN8.out (up_next HX.out)
        have SU9 := Lib.hid (SU8.kept HGR9.out (by intro e; injection e with e; omega))
        have SL8 : ∀ z, DL.atKey (.int .i64 z) (.lit (.bool false)) = .lit (.bool (loB (m.take k) z)) := HSL.out
        have SL9 : Hid (SetAt w9 (w1.heap.size + 2) (k + 1) (loB (m.take (k + 1)))) := set_put (HOL.out.kept HGR8.out (by intro e; injection e with e; omega)) SL8 HN9.out (lo_next HX.out)
        have CU9 : Hid (w9.cell? ⟨w1.heap.size + 1, 0, none⟩ = some (.map (some w1.heap.size))) := (World.cell?_of_block (HGR9.out.block (w1.heap.size + 1) (World.block_lt_of_cell? _ _ y3) (by intro e; injection e with e; omega))).trans y3
        have CL9 : Hid (w9.cell? ⟨w1.heap.size + 2 + 1, 0, none⟩ = some (.map (some (w1.heap.size + 2)))) := (World.cell?_of_block (HGR9.out.block (w1.heap.size + 2 + 1) (World.block_lt_of_cell? _ _ y1) (by intro e; injection e with e; omega))).trans y1
        have hwn : w1.heap.size + 4 ≤ w9.heap.size := by omega
        clear B8 SU8 SL8 y1 y2 y3 cx1 cx2
        go_wp2_with fail
        exact ⟨⟨k + 1, by omega, by go_num, SU9, SL9, CU9, CL9, B9, hwn⟩, by simp [intOf]; omega⟩
      · obtain rfl : k = n2 := by omega
        have hkn : ¬ (k : Int) < (k : Int) := by omega
        have hsu := SU.out
        have hsl := SL.out
        rw [List.take_of_length_le (by rw [HL2.out]; exact Nat.le_refl _)] at hsu hsl
        have SU2 := Lib.hid hsu
        have SL2 := Lib.hid hsl
        have t1 := (HBR.out.cell (p := ⟨w.heap.size, 0, none⟩) hsz1).trans R12.out.1
        have t2 := (HBR.out.cell (p := ⟨w.heap.size, 1, none⟩) hsz1).trans R12.out.2
        have hszr := Nat.lt_of_lt_of_le hsz1 HBR.out.size
        have HBX := Lib.hid (HB1.out.trans (HBR.out.mono HB1.out.size))
        clear hsu hsl SU SL
        go_wp2_with fail
        refine (that_any 87 #[.pointer (some ⟨w1.heap.size + 2 + 1, 0, none⟩)] (fun z => !loB m z) a1 a2 n1 c1 k c2 l wr hn1 (K1.out.below HBR.out) (fun args W => call_enter Try.func87 (by kernel_rfl) rfl args W) (fun x wx hx hwx => ?_)).mono ?_
        · have hxr : 1 ≤ x ∧ x ≤ 999 := by
            obtain ⟨⟨x', y'⟩, hm, rfl⟩ := List.mem_map.1 hx
            obtain ⟨i, hi, e⟩ := List.getElem_of_mem hm
            exact nums HG.out (x := x') (y := y') (i := i) (by rw [List.getElem?_eq_getElem hi, e])
          exact clos1 x _ _ k _ wx ((hwx.cell (p := ⟨w1.heap.size + 2 + 1, 0, none⟩) (by show w1.heap.size + 2 + 1 < wr.heap.size; omega)).trans CL.out) (SL2.out.below hwx) (by omega)
        rintro e w10 ⟨p1, k1, d1, rfl, o1, hk1, b10⟩
        have O1 := Lib.hid o1
        have v1 := (b10.cell (p := ⟨w.heap.size, 0, none⟩) hszr).trans t1
        have v2 := (b10.cell (p := ⟨w.heap.size, 1, none⟩) hszr).trans t2
        have B10 := Lib.hid b10
        clear o1 t1 t2 b10
        go_wp2_with fail
        refine (that_any 88 #[.pointer (some ⟨w1.heap.size + 1, 0, none⟩)] (fun z => !upB m z) a1 a2 n1 c1 k c2 l w10 hn1 ((K1.out.below HBR.out).below B10.out) (fun args W => call_enter Try.func88 (by kernel_rfl) rfl args W) (fun x wx hx hwx => ?_)).mono ?_
        · have hxr : 1 ≤ x ∧ x ≤ 999 := by
            obtain ⟨⟨x', y'⟩, hm, rfl⟩ := List.mem_map.1 hx
            obtain ⟨i, hi, e⟩ := List.getElem_of_mem hm
            exact nums HG.out (x := x') (y := y') (i := i) (by rw [List.getElem?_eq_getElem hi, e])
          have hs10 := B10.out.size
          exact clos2 x _ _ k _ wx ((hwx.cell (p := ⟨w1.heap.size + 1, 0, none⟩) (by show w1.heap.size + 1 < w10.heap.size; omega)).trans ((B10.out.cell (p := ⟨w1.heap.size + 1, 0, none⟩) (by show w1.heap.size + 1 < wr.heap.size; omega)).trans CU.out)) ((SU2.out.below B10.out).below hwx) (by omega)
        rintro e w11 ⟨p2, k2, d2, rfl, o2, hk2, b11⟩
        have O2 := Lib.hid o2
        have B11 := Lib.hid b11
        clear o2 b11 v1 v2
        go_wp2_with fail
        go_ret3
        rw [HE.out]
        have hs10 := B10.out.size
        have hsx := HBX.out.size
        refine ⟨p1, k1, d1, p2, k2, d2, rfl, ownsRow_base (ownsRow_below O1.out B11.out) hsx, ownsRow_base O2.out (by omega), fun b hb1 hb2 => ?_, hk1, hk2, HBX.out.trans ((B10.out.trans (B11.out.mono hs10)).mono hsx)⟩
        have := (O1.out.lt b hb1).2
        have := (O2.out.lt b hb2).1
        omega
end Go.Proofs.Ytaikphcemldikaa.Ends2
