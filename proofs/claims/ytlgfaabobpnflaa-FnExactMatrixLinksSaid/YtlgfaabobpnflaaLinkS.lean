/- The model's l5Links and MatrixLinks. -/
import Derived.Test.YtlgfaabobpnflaaLinkM
import Derived.Test.YtlgfaabobpnflaaRedS
import Derived.Test.YtlgfaabobpnflaaElems
namespace Go.Proofs.Ytlgfaabobpnflaa.LinkS
open Go.RowKit Pairs Rec RecEq Chain Find2 GoodM Keep GivesI Lows Order Bit Table Idx That IsLater Consist OrdM DepM RedM RedS Elems DepS LinkM
theorem g1_app {B : Nat} {w wr X w9 : World} {v v' : Value} {L : List (Int × Int)} {x y : Int} (h : G1 B w wr v L) (hX : Below wr.heap.size wr X) (hs : B ≤ wr.heap.size)
    (hown' : w9.ownsRow B 89 2 v' (L.length + 1) (flat L ++ [.int .i64 x, .int .i64 y])) (hgrow : X.grownBy w9 v.ownBlock) : G1 B w w9 v' (L ++ [(x, y)]) := by
  have hsx := hX.size
  refine ⟨?_, (h.2.trans (hX.mono hs)).grown hgrow (by omega) (fun j hj => (h.1.lt j hj).1)⟩
  rw [List.length_append, flat_append]
  exact hown'
set_option maxRecDepth 100000 in
set_option maxHeartbeats 8000000 in
theorem l5Links_any (a1 a2 : Option Addr) (n1 c1 n2 c2 : Nat) (l m : List (Int × Int)) (w : World) (hgood : good l m = true) (hc : cyc l m = false) (h1 : Holds w a1 n1 l) (h2 : Holds w a2 n2 m) :
    Calls Try.prog 96 #[.agg #[.slice a1 n1 c1, .slice a2 n2 c2]] w (ResR (m.filter (link l m)) w) := by
  obtain ⟨i0, hi, hy0, hy1, hy2⟩ := info_parts infoRelation
  have hb := below_alloc w (.cells #[.slice a1 n1 c1, .slice a2 n2 c2] 33)
  have hf := box_first w (.slice a1 n1 c1) (.slice a2 n2 c2) 33
  have hf2 := box_second w (.slice a1 n1 c1) (.slice a2 n2 c2) 33
  have H1 := Lib.hid (h1.below hb)
  have H2 := Lib.hid (h2.below hb)
  have HL1 := Lib.hid h1.1
  have HL2 := Lib.hid h2.1
  have HB := Lib.hid hb
  have HG := Lib.hid hgood
  have HC := Lib.hid hc
  have HEN := Lib.hid (Table.good_ends hgood)
  have hn1 : n1 ≤ 10 := by rw [← HL1.out]; exact (Table.good_few hgood).1
  have hn2 : n2 ≤ 24 := by rw [← HL2.out]; exact (Table.good_few hgood).2
  clear h1 h2 hb hgood hc
  go_enter Try.func96, Try.ntmps96
  go_wp2_with fail
  generalize w.alloc (.cells #[.slice a1 n1 c1, .slice a2 n2 c2] 33) = W at *
  refine (l5Depths_any a1 a2 n1 c1 n2 c2 l m W HG.out HC.out H1.out H2.out).mono ?_
  rintro e w1 ⟨g, L, rfl, hge, hH, hLl, hT, b1⟩
  have q1 := (b1.cell (World.block_lt_of_cell? W _ hf)).trans hf
  have q2 := (b1.cell (World.block_lt_of_cell? W _ hf2)).trans hf2
  have HB1 := Lib.hid (HB.out.trans (b1.mono HB.out.size))
  have K1 := Lib.hid (H1.out.below b1)
  have K2 := Lib.hid (H2.out.below b1)
  have HH := Lib.hid hH
  have HT := Lib.hid hT
  have HLl := Lib.hid hLl
  have hs1 := b1.size
  have he0 := below_alloc w1 (.cells #[] 89)
  have HG0 : Hid (G1 w1.heap.size w1 (w1.alloc (.cells #[] 89)) (.slice (some ⟨w1.heap.size, 0, none⟩) 0 0) ((m.take 0).filter (link l m))) := ⟨Elems.empty_own w1, he0⟩
  have HM3 : Hid (∀ wr, Below w1.heap.size w1 wr → ((Holds wr a1 n1 l ∧ Holds wr a2 n2 m) ∧ HoldsI wr (some ⟨g, 0, none⟩) n1 (intsN L)) ∧ wr.cell? ⟨w.heap.size, 0, none⟩ = some (.slice a1 n1 c1) ∧ wr.cell? ⟨w.heap.size, 1, none⟩ = some (.slice a2 n2 c2)) := fun wr hwr =>
    ⟨⟨⟨K1.out.below hwr, K2.out.below hwr⟩, HH.out.below hwr⟩, (hwr.cell (World.block_lt_of_cell? w1 _ q1)).trans q1, (hwr.cell (World.block_lt_of_cell? w1 _ q2)).trans q2⟩
  clear hf hf2 b1 hH hT hLl he0 q1 q2 hge
  go_wp2_with fail
  generalize w1.alloc (.cells #[] 89) = V at *
  go_loopw [4, 5] (fun s4 s5 wr => ∃ k : Nat, k ≤ n2 ∧ s5 = .int .i64 k ∧ Hid (G1 w1.heap.size w1 wr s4 ((m.take k).filter (link l m)))) (fun _ s5 _ => n2 - (intOf s5).toNat)
  case atStart => exact ⟨0, Nat.zero_le _, rfl, HG0⟩
  case round =>
    clear HG0
    obtain ⟨k, hk, rfl, HR⟩ := hrel
    obtain ⟨⟨⟨z1, z2⟩, z3⟩, p1, p2⟩ := HM3.out wr HR.out.2
    by_cases hlt : k < n2
    · have hkn : (k : Int) < (n2 : Int) := by omega
      have hk0 : (0 : Int) ≤ (k : Int) := by omega
      obtain ⟨b, off, x, y, rfl, hx, e1, e2⟩ := z2.at k hlt
      have HX := Lib.hid (Elems.filt_next (link l m) hx)
      have HXM : Hid ((x, y) ∈ m) := List.mem_of_getElem? hx
      have hfl := Elems.filt_len (link l m) m k
      obtain ⟨⟨ix, hix⟩, ⟨iy, hiy⟩⟩ := HEN.out x y HXM.out
      have hixl : ix < n1 := by rw [← HL1.out]; exact isAt_lt hix
      have hiyl : iy < n1 := by rw [← HL1.out]; exact isAt_lt hiy
      obtain ⟨tx, htx⟩ := isAt_num hix
      obtain ⟨ty, hty⟩ := isAt_num hiy
      obtain ⟨vx, hvx, hdx⟩ := HT.out ix x tx htx
      obtain ⟨vy, hvy, hdy⟩ := HT.out iy y ty hty
      have hbz := below_alloc wr (.cells #[.int .i64 x, .int .i64 y] 89)
      have tab : ∀ (i v : Nat), i < n1 → L[i]? = some v → (wr.alloc (.cells #[.int .i64 x, .int .i64 y] 89)).cell? ⟨g, i, none⟩ = some (.int .i64 (v : Int)) := fun i v hi hv => by
        obtain ⟨bb, oo, zz, hp, hzz, e3⟩ := (z3.below hbz).at i hi
        obtain ⟨v', hv', rfl⟩ := row_at hzz
        obtain rfl : v' = v := by rw [hv] at hv'; exact (Option.some.inj hv').symm
        injection hp with hp
        injection hp with hp1 hp2
        subst hp1 hp2
        rw [Nat.zero_add] at e3
        exact e3
      have t1 := tab ix vx hixl hvx
      have t2 := tab iy vy hiyl hvy
      have u1 := box_first wr (.int .i64 x) (.int .i64 y) 89
      have u2 := box_second wr (.int .i64 x) (.int .i64 y) 89
      have r1 := (hbz.cell (World.block_lt_of_cell? wr _ p1)).trans p1
      have r2 := (hbz.cell (World.block_lt_of_cell? wr _ p2)).trans p2
      have Z1 := Lib.hid (z1.below hbz)
      have Z2 := Lib.hid (z2.below hbz)
      have HRY : Hid (G1 w1.heap.size w1 (wr.alloc (.cells #[.int .i64 x, .int .i64 y] 89)) u4 ((m.take k).filter (link l m))) := ⟨ownsRow_below HR.out.1 hbz, HR.out.2.trans (hbz.mono HR.out.2.size)⟩
      have hxb : (ix : Int) < (n1 : Int) := by omega
      have hyb : (iy : Int) < (n1 : Int) := by omega
      have hx0 : (0 : Int) ≤ (ix : Int) := by omega
      have hy0' : (0 : Int) ≤ (iy : Int) := by omega
      have hdl := depth_le (m := m) HG.out x
      have hvxs : (vx : Int) ≤ 240 := by omega
      have hw64 : wrap64 ((vx : Int) + 1) = (vx : Int) + 1 := by unfold wrap64; omega
      have HLK : Hid (link l m (x, y) = ((vy : Int) == (vx : Int) + 1)) := by unfold Hid link; rw [← hdx, ← hdy]
      have HFX := Lib.hid (find_some hix)
      have HFY := Lib.hid (find_some hiy)
      clear hx z1 z2 z3 hix hiy htx hty hvx hvy hdx hdy tab
      go_wp2_with fail
      clear p1 p2 e1 e2
      generalize wr.alloc (.cells #[.int .i64 x, .int .i64 y] 89) = Y at *
      have k1 := cell_regrown r1
      have k2 := cell_regrown r2
      have k3 := cell_regrown u1
      have k4 := cell_regrown u2
      have k5 := cell_regrown t1
      have k6 := cell_regrown t2
      have cU : ∀ d os, Calls Try.prog 90 #[.agg #[.slice a1 n1 c1, .slice (some ⟨b, off, none⟩) n2 c2], .int .i64 x] (Sort.grow (redrawn Y d) os) fun e w'' => e = .returned (.int .i64 (ix : Int)) ∧ ∃ p : Regrown, w'' = Sort.grow (redrawn Y p.d) p.os := fun d os => Calls.regrown_of (by rw [← HFX.out]; exact l2Find_any a1 _ n1 c1 n2 c2 l x _ (by omega) (Z1.out.below (below_regrown Y d os)))
      have cV : ∀ d os, Calls Try.prog 90 #[.agg #[.slice a1 n1 c1, .slice (some ⟨b, off, none⟩) n2 c2], .int .i64 y] (Sort.grow (redrawn Y d) os) fun e w'' => e = .returned (.int .i64 (iy : Int)) ∧ ∃ p : Regrown, w'' = Sort.grow (redrawn Y p.d) p.os := fun d os => Calls.regrown_of (by rw [← HFY.out]; exact l2Find_any a1 _ n1 c1 n2 c2 l y _ (by omega) (Z1.out.below (below_regrown Y d os)))
      have cR : ∀ d os, Calls Try.prog 78 #[.agg #[.slice a1 n1 c1, .slice (some ⟨b, off, none⟩) n2 c2], .agg #[.int .i64 x, .int .i64 y]] (Sort.grow (redrawn Y d) os) fun e w'' => e = .returned (.bool (red m (x, y))) ∧ ∃ p : Regrown, w'' = Sort.grow (redrawn Y p.d) p.os := fun d os => Calls.regrown_of (l5Redundant_any x y a1 (some ⟨b, off, none⟩) n1 c1 n2 c2 l m _ HG.out HC.out HXM.out (Z1.out.below (below_regrown Y d os)) (Z2.out.below (below_regrown Y d os)))
      cases hlk : link l m (x, y) with
      | true =>
        have hvb : ((vy : Int) == (vx : Int) + 1) = true := by rw [← HLK.out]; exact hlk
        have hrd := link_red HG.out HC.out hlk
        rw [hrd] at cR
        have HX2 : Hid ((m.take (k + 1)).filter (link l m) = (m.take k).filter (link l m) ++ [(x, y)]) := by unfold Hid; rw [HX.out, if_pos hlk]
        have hve : (vy : Int) = (vx : Int) + 1 := by simpa using hvb
        clear hlk hrd HX
        refine wp_region_quiet_below (by kernel_rfl) (by kernel_rfl) ?_
        repeat (go_big_quiet_step (first | (go_at_call_of 90 x; exact cU _ _) | (go_at_call_of 90 y; exact cV _ _) | (go_at_call 78; exact cR _ _)))
        refine wpQuiet_nil ?_
        intro _ hw'
        obtain ⟨⟨dq, osq⟩, hw''⟩ := hw'
        subst hw''
        have hbq := below_regrown Y dq osq
        have HR3 := Lib.hid (⟨ownsRow_below HRY.out.1 hbq, HRY.out.2.trans (hbq.mono HRY.out.2.size)⟩ : G1 w1.heap.size w1 (Sort.grow (redrawn Y dq) osq) u4 ((m.take k).filter (link l m)))
        have v1 := (hbq.cell (World.block_lt_of_cell? Y _ u1)).trans u1
        have v2 := (hbq.cell (World.block_lt_of_cell? Y _ u2)).trans u2
        have hs5 := HR3.out.2.size
        clear k1 k2 k3 k4 k5 k6 cU cV cR u1 u2 t1 t2 r1 r2 hbq HRY HR
        generalize Sort.grow (redrawn Y dq) osq = W5 at *
        have hown := HR3.out.1
        go_wp2_with (at_builtin; refine wpList_append_own _ rfl _ _ 31 rfl w1.heap.size 89 i0 (.agg #[.int .i64 0, .int .i64 0]) 2 16 Try.underlying31 hi hy0 hy1 hy2 rfl (by decide) _ _ _ rfl (hown.alloc _) ⟨W5.heap.size, 0, none⟩ 1 1 [.int .i64 x, .int .i64 y] rfl rfl (cell_two_new _ _ _ _) (by simp [Value.oneCell']) (by unfold maxLen; omega) (by omega) (by simp; omega) ?_; intro v' w9 hown' hgrow hnil)
        have HG9 : Hid (G1 w1.heap.size w1 w9 v' ((m.take (k + 1)).filter (link l m))) := by
          unfold Hid
          rw [HX2.out]
          exact g1_app HR3.out (below_alloc W5 _) (by omega) hown' hgrow
        clear hown' hgrow hown hnil
        exact ⟨⟨k + 1, by omega, by go_num, HG9⟩, by simp [intOf]; omega⟩
      | false =>
        have hvb : ((vy : Int) == (vx : Int) + 1) = false := by rw [← HLK.out]; exact hlk
        have HX2 : Hid ((m.take (k + 1)).filter (link l m) = (m.take k).filter (link l m)) := by unfold Hid; rw [HX.out, if_neg (by rw [hlk]; simp), List.append_nil]
        have hve : ¬ (vy : Int) = (vx : Int) + 1 := by simpa using hvb
        clear hlk HX
        refine wp_region_quiet_below (by kernel_rfl) (by kernel_rfl) ?_
        repeat (go_big_quiet_step (first | (go_at_call_of 90 x; exact cU _ _) | (go_at_call_of 90 y; exact cV _ _) | (go_at_call 78; exact cR _ _)))
        refine wpQuiet_nil ?_
        intro _ hw'
        obtain ⟨⟨dq, osq⟩, hw''⟩ := hw'
        subst hw''
        have hbq := below_regrown Y dq osq
        have HR3 := Lib.hid (⟨ownsRow_below HRY.out.1 hbq, HRY.out.2.trans (hbq.mono HRY.out.2.size)⟩ : G1 w1.heap.size w1 (Sort.grow (redrawn Y dq) osq) u4 ((m.take k).filter (link l m)))
        have v1 := (hbq.cell (World.block_lt_of_cell? Y _ u1)).trans u1
        have v2 := (hbq.cell (World.block_lt_of_cell? Y _ u2)).trans u2
        have hs5 := HR3.out.2.size
        clear k1 k2 k3 k4 k5 k6 cU cV cR u1 u2 t1 t2 r1 r2 hbq HRY HR
        generalize Sort.grow (redrawn Y dq) osq = W5 at *
        rw [← HX2.out] at HR3
        go_wp2_with fail
        exact ⟨⟨k + 1, by omega, by go_num, HR3⟩, by simp [intOf]; omega⟩
    · obtain rfl : k = n2 := by omega
      have hkn : ¬ (k : Int) < (k : Int) := by omega
      have hown := HR.out.1
      rw [List.take_of_length_le (by rw [HL2.out]; omega)] at hown
      have hfl : (m.filter (link l m)).length ≤ 24 := Nat.le_trans (List.length_filter_le _ _) (by rw [HL2.out]; omega)
      have HBD := Lib.hid (HB1.out.trans (HR.out.2.mono HB1.out.size))
      have HO := Lib.hid hown
      obtain ⟨p, d, rfl⟩ := Elems.own_form hown
      clear hown HR z1 z2 z3
      go_wp2_with fail
      go_ret
      exact ⟨_, _, _, rfl, ownsRow_base HO.out HB1.out.size, by show (m.filter (link l m)).length ≤ _; omega, HBD.out⟩
end Go.Proofs.Ytlgfaabobpnflaa.LinkS
