/- The model's l6Bad, l6Relations and ContradictoryRelations. -/
import Derived.Test.YtkaafocadjhlnaaConM
import Derived.Test.YtkaafocadjhlnaaElems
import Derived.Test.YtkaafocadjhlnaaConsistA
import Derived.Test.YtkaafocadjhlnaaTable
import Derived.Test.YtkaafocadjhlnaaRowTake
import Derived.Deep.AppendLies
namespace Go.Proofs.Ytkaafocadjhlnaa.ConS
open Go.RowKit Pairs Rec RecEq Chain Find2 GoodM Keep GivesI Lows Order Bit Table Idx That IsLater Consist OrdM RedM ConM
open RowTake (own_drew new_pair)
set_option linter.unusedVariables false
/-- An answer: places, in a row of its own. -/
def ResN (J : List Nat) (w : World) (e : Ending) (w' : World) : Prop :=
  ∃ (p : Option Addr) (k d : Nat), e = .returned (.slice p k d) ∧ w'.ownsRow w.heap.size 3 1 (.slice p k d) k (ints (intsN J)) ∧ k ≤ 1048576 ∧ Below w.heap.size w w'
theorem intsN_append (J K : List Nat) : intsN (J ++ K) = intsN J ++ intsN K := by unfold intsN; rw [List.map_append]
theorem intsN_len (J : List Nat) : (intsN J).length = J.length := by unfold intsN; rw [List.length_map]
theorem intsN_at {J : List Nat} {k : Nat} {z : Int} (h : (intsN J)[k]? = some z) : ∃ j, J[k]? = some j ∧ z = (j : Int) := row_at h
set_option maxRecDepth 100000 in
set_option maxHeartbeats 8000000 in
theorem l6Bad_any (a1 a2 : Option Addr) (n1 c1 n2 c2 : Nat) (l m : List (Int × Int)) (w : World) (hgood : good l m = true) (h1 : Holds w a1 n1 l) (h2 : Holds w a2 n2 m) :
    Calls Try.prog 66 #[.agg #[.slice a1 n1 c1, .slice a2 n2 c2]] w (ResN (plc (con m) m n2) w) := by
  obtain ⟨i0, hi, hy0, hy1, hy2⟩ := info_parts That.infoInt
  have hb := below_alloc w (.cells #[.slice a1 n1 c1, .slice a2 n2 c2] 32)
  have hf := box_first w (.slice a1 n1 c1) (.slice a2 n2 c2) 32
  have hf2 := box_second w (.slice a1 n1 c1) (.slice a2 n2 c2) 32
  have H1 := Lib.hid (h1.below hb)
  have H2 := Lib.hid (h2.below hb)
  have HL1 := Lib.hid h1.1
  have HL2 := Lib.hid h2.1
  have HB := Lib.hid hb
  have HG := Lib.hid hgood
  have HEN := Lib.hid (Table.good_ends hgood)
  have hn1 : n1 ≤ 10 := by rw [← HL1.out]; exact (Table.good_few hgood).1
  have hn2 : n2 ≤ 24 := by rw [← HL2.out]; exact (Table.good_few hgood).2
  clear h1 h2 hb hgood
  go_enter Try.func66, Try.ntmps66
  go_wp2_with fail
  generalize w.alloc (.cells #[.slice a1 n1 c1, .slice a2 n2 c2] 32) = W at *
  refine (later_any a1 a2 n1 c1 n2 c2 l m W HG.out H1.out H2.out).mono ?_
  rintro e w1 ⟨g, T, rfl, hge, hT, TT, b1⟩
  have q1 := (b1.cell (World.block_lt_of_cell? W _ hf)).trans hf
  have q2 := (b1.cell (World.block_lt_of_cell? W _ hf2)).trans hf2
  have HB1 := Lib.hid (HB.out.trans (b1.mono HB.out.size))
  have K1 := Lib.hid (H1.out.below b1)
  have K2 := Lib.hid (H2.out.below b1)
  have HH := Lib.hid hT
  have HTT := Lib.hid TT
  have HLT : Hid (T.length = n1) := TT.len
  have hs1 := b1.size
  have he0 := below_alloc w1 (.cells #[] 3)
  have HG0 : Hid (That.G1 w1.heap.size w1 (w1.alloc (.cells #[] 3)) (.slice (some ⟨w1.heap.size, 0, none⟩) 0 0) (intsN (plc (con m) m 0))) := ⟨That.empty_own w1, he0⟩
  have HM3 : Hid (∀ wr, Below w1.heap.size w1 wr → ((Holds wr a1 n1 l ∧ Holds wr a2 n2 m) ∧ HoldsI wr (some ⟨g, 0, none⟩) n1 (intsN T)) ∧ wr.cell? ⟨w.heap.size, 0, none⟩ = some (.slice a1 n1 c1) ∧ wr.cell? ⟨w.heap.size, 1, none⟩ = some (.slice a2 n2 c2)) := fun wr hwr =>
    ⟨⟨⟨K1.out.below hwr, K2.out.below hwr⟩, HH.out.below hwr⟩, (hwr.cell (World.block_lt_of_cell? w1 _ q1)).trans q1, (hwr.cell (World.block_lt_of_cell? w1 _ q2)).trans q2⟩
  clear hf hf2 b1 hT TT he0 q1 q2 hge
  go_wp2_with fail
  generalize w1.alloc (.cells #[] 3) = V at *
  go_loopw [4, 5] (fun s4 s5 wr => ∃ k : Nat, k ≤ n2 ∧ s5 = .int .i64 k ∧ Hid (That.G1 w1.heap.size w1 wr s4 (intsN (plc (con m) m k)))) (fun _ s5 _ => n2 - (intOf s5).toNat)
  case atStart => exact ⟨0, Nat.zero_le _, rfl, HG0⟩
  case round =>
    clear HG0
    obtain ⟨k, hk, rfl, HR⟩ := hrel
    obtain ⟨⟨⟨z1, z2⟩, z3⟩, p1, p2⟩ := HM3.out wr HR.out.2
    by_cases hlt : k < n2
    · have hkn : (k : Int) < (n2 : Int) := by omega
      have hk0 : (0 : Int) ≤ (k : Int) := by omega
      obtain ⟨b, off, x, y, rfl, hx, e1, e2⟩ := z2.at k hlt
      have HX := Lib.hid (plc_next (con m) hx)
      have HXM : Hid ((x, y) ∈ m) := List.mem_of_getElem? hx
      have hfl := plc_len (con m) m k
      obtain ⟨⟨ix, hix⟩, ⟨iy, hiy⟩⟩ := HEN.out x y HXM.out
      have hixl : ix < n1 := by rw [← HL1.out]; exact isAt_lt hix
      have hiyl : iy < n1 := by rw [← HL1.out]; exact isAt_lt hiy
      obtain ⟨bb, oo, zz, hp, hzz, t1⟩ := z3.at iy hiyl
      obtain ⟨t, ht, rfl⟩ := row_at hzz
      injection hp with hp
      injection hp with hp1 hp2
      subst hp1 hp2
      rw [Nat.zero_add] at t1
      have ht10 := bd hn1 (HTT.out.bd iy t ht)
      have hbit : t.testBit ix = con m (x, y) := tbit HG.out HL1.out HTT.out hiy hix ht
      have hl4 := l4Bit_any t ix ht10 (by omega)
      rw [hbit] at hl4
      have Z1 := Lib.hid z1
      have hxb : (ix : Int) < (n1 : Int) := by omega
      have hyb : (iy : Int) < (n1 : Int) := by omega
      have hx0 : (0 : Int) ≤ (ix : Int) := by omega
      have hy0' : (0 : Int) ≤ (iy : Int) := by omega
      have k1 := cell_regrown p1
      have k2 := cell_regrown p2
      have k3 := cell_regrown e1
      have k4 := cell_regrown e2
      have k5 := cell_regrown t1
      have HFX := Lib.hid (find_some hix)
      have HFY := Lib.hid (find_some hiy)
      have cU : ∀ d os, Calls Try.prog 80 #[.agg #[.slice a1 n1 c1, .slice (some ⟨b, off, none⟩) n2 c2], .int .i64 x] (Sort.grow (redrawn wr d) os) fun e w'' => e = .returned (.int .i64 (ix : Int)) ∧ ∃ p : Regrown, w'' = Sort.grow (redrawn wr p.d) p.os := fun d os => Calls.regrown_of (by rw [← HFX.out]; exact l2Find_any a1 _ n1 c1 n2 c2 l x _ (by omega) (Z1.out.below (below_regrown wr d os)))
      have cV : ∀ d os, Calls Try.prog 80 #[.agg #[.slice a1 n1 c1, .slice (some ⟨b, off, none⟩) n2 c2], .int .i64 y] (Sort.grow (redrawn wr d) os) fun e w'' => e = .returned (.int .i64 (iy : Int)) ∧ ∃ p : Regrown, w'' = Sort.grow (redrawn wr p.d) p.os := fun d os => Calls.regrown_of (by rw [← HFY.out]; exact l2Find_any a1 _ n1 c1 n2 c2 l y _ (by omega) (Z1.out.below (below_regrown wr d os)))
      have cB : ∀ d os, Calls Try.prog 76 #[.int .i64 (t : Int), .int .i64 (ix : Int)] (Sort.grow (redrawn wr d) os) fun e w'' => e = .returned (.bool (con m (x, y))) ∧ ∃ p : Regrown, w'' = Sort.grow (redrawn wr p.d) p.os := fun d os => Calls.regrown_of ((hl4 _).mono fun e w'' ⟨h1, h2⟩ => ⟨h1, by rw [← h2]; exact Below.refl _ _⟩)
      have HRY := Lib.hid HR.out
      clear hx z1 z2 z3 hix hiy hzz ht hbit hl4
      cases hlk : con m (x, y) with
      | true =>
        rw [hlk] at cB
        have HX2 : Hid (plc (con m) m (k + 1) = plc (con m) m k ++ [k]) := by unfold Hid; rw [HX.out, if_pos hlk]
        clear hlk HX
        go_wp2_with fail
        refine wp_region_quiet_below (by kernel_rfl) (by kernel_rfl) ?_
        repeat (go_big_quiet_step (first | (go_at_call_of 80 x; exact cU _ _) | (go_at_call_of 80 y; exact cV _ _) | (go_at_call 76; exact cB _ _)))
        refine wpQuiet_nil ?_
        intro _ hw'
        obtain ⟨⟨dq, osq⟩, hw''⟩ := hw'
        subst hw''
        have hbq := below_regrown wr dq osq
        have HR3 := Lib.hid (⟨ownsRow_below HRY.out.1 hbq, HRY.out.2.trans (hbq.mono HRY.out.2.size)⟩ : That.G1 w1.heap.size w1 (Sort.grow (redrawn wr dq) osq) u4 (intsN (plc (con m) m k)))
        have hs5 := HR3.out.2.size
        clear k1 k2 k3 k4 k5 cU cV cB e1 e2 t1 p1 p2 hbq HRY HR
        generalize Sort.grow (redrawn wr dq) osq = W5 at *
        have hown := HR3.out.1
        rw [intsN_len] at hown
        go_wp2_with (at_builtin; refine wpList_append_own _ rfl _ _ 39 rfl w1.heap.size 3 i0 (.int .i64 0) 1 8 Try.underlying39 hi hy0 hy1 hy2 rfl (by decide) _ _ _ rfl (hown.alloc _) ⟨W5.heap.size, 0, none⟩ 1 1 [.int .i64 k] rfl rfl (cell_one_new _ _ _) (by simp [Value.oneCell']) (by unfold maxLen; omega) (by omega) (by simp; omega) ?_; intro v' w9 hown' hgrow hnil)
        have HG9 : Hid (That.G1 w1.heap.size w1 w9 v' (intsN (plc (con m) m (k + 1)))) := by
          unfold Hid That.G1
          rw [HX2.out, intsN_append, List.length_append, ints_append, intsN_len]
          exact ⟨hown', (HR3.out.2.alloc HR3.out.2.size _).grown hgrow (by simp; omega) (fun j hj => (hown.lt j hj).1)⟩
        clear hown' hgrow hown hnil
        exact ⟨⟨k + 1, by omega, by go_num, HG9⟩, by simp [intOf]; omega⟩
      | false =>
        rw [hlk] at cB
        have HX2 : Hid (plc (con m) m (k + 1) = plc (con m) m k) := by unfold Hid; rw [HX.out, if_neg (by rw [hlk]; simp), List.append_nil]
        clear hlk HX
        go_wp2_with fail
        refine wp_region_quiet_below (by kernel_rfl) (by kernel_rfl) ?_
        repeat (go_big_quiet_step (first | (go_at_call_of 80 x; exact cU _ _) | (go_at_call_of 80 y; exact cV _ _) | (go_at_call 76; exact cB _ _)))
        refine wpQuiet_nil ?_
        intro _ hw'
        obtain ⟨⟨dq, osq⟩, hw''⟩ := hw'
        subst hw''
        have hbq := below_regrown wr dq osq
        have HR3 := Lib.hid (⟨ownsRow_below HRY.out.1 hbq, HRY.out.2.trans (hbq.mono HRY.out.2.size)⟩ : That.G1 w1.heap.size w1 (Sort.grow (redrawn wr dq) osq) u4 (intsN (plc (con m) m k)))
        clear k1 k2 k3 k4 k5 cU cV cB e1 e2 t1 p1 p2 hbq HRY HR
        generalize Sort.grow (redrawn wr dq) osq = W5 at *
        rw [← HX2.out] at HR3
        go_wp2_with fail
        exact ⟨⟨k + 1, by omega, by go_num, HR3⟩, by simp [intOf]; omega⟩
    · obtain rfl : k = n2 := by omega
      have hkn : ¬ (k : Int) < (k : Int) := by omega
      have hown := HR.out.1
      have hfl := plc_len (con m) m k
      have HBD := Lib.hid (HB1.out.trans (HR.out.2.mono HB1.out.size))
      rw [intsN_len] at hown
      have HO := Lib.hid hown
      obtain ⟨p, d, rfl⟩ := From.own_form hown
      clear hown HR z1 z2 z3
      go_wp2_with fail
      go_ret
      exact ⟨_, _, _, rfl, ownsRow_base HO.out HB1.out.size, by omega, HBD.out⟩
set_option maxRecDepth 100000 in
set_option maxHeartbeats 8000000 in
theorem l6Relations_any (a1 a2 p : Option Addr) (n1 c1 n2 c2 n c : Nat) (l m : List (Int × Int)) (J : List Nat) (w : World) (hn : n ≤ 1000000) (h2 : Holds w a2 n2 m) (hJ : HoldsI w p n (intsN J)) (hb2 : ∀ j ∈ J, j < n2) (hz2 : n2 ≤ 1048576) :
    Calls Try.prog 65 #[.agg #[.slice a1 n1 c1, .slice a2 n2 c2], .slice p n c] w (Elems.ResR (pickAt m J) w) := by
  obtain ⟨i0, hi, hy0, hy1, hy2⟩ := info_parts infoRelation
  have hb := below_alloc w (.cells #[.slice a1 n1 c1, .slice a2 n2 c2] 32)
  have hf := box_first w (.slice a1 n1 c1) (.slice a2 n2 c2) 32
  have hf2 := box_second w (.slice a1 n1 c1) (.slice a2 n2 c2) 32
  have H2 := Lib.hid (h2.below hb)
  have HP := Lib.hid (hJ.below hb)
  have HLJ : Hid (J.length = n) := by have := hJ.1; rw [intsN_len] at this; exact this
  have HB := Lib.hid hb
  have HBJ := Lib.hid hb2
  have hsz : w.heap.size < (w.alloc (.cells #[.slice a1 n1 c1, .slice a2 n2 c2] 32)).heap.size := by simp
  have hWe : (w.alloc (.cells #[.slice a1 n1 c1, .slice a2 n2 c2] 32)).heap.size = w.heap.size + 1 := by simp
  have HWE := Lib.hid hWe
  clear h2 hJ hb hb2 hWe
  go_enter Try.func65, Try.ntmps65
  go_wp2_with fail
  generalize w.alloc (.cells #[.slice a1 n1 c1, .slice a2 n2 c2] 32) = W at *
  have he0 := below_alloc W (.cells #[] 53)
  have HG0 : Hid (Elems.G1 W.heap.size W (W.alloc (.cells #[] 53)) (.slice (some ⟨w.heap.size + 1, 0, none⟩) 0 0) (pickAt m (J.take 0))) := by
    rw [← HWE.out]
    exact ⟨Elems.empty_own W, he0⟩
  have HM3 : Hid (∀ wr, Below W.heap.size W wr → (Holds wr a2 n2 m ∧ HoldsI wr p n (intsN J)) ∧ wr.cell? ⟨w.heap.size, 1, none⟩ = some (.slice a2 n2 c2)) := fun wr hwr => ⟨⟨H2.out.below hwr, HP.out.below hwr⟩, (hwr.cell (p := ⟨w.heap.size, 1, none⟩) hsz).trans hf2⟩
  clear hf hf2 he0
  generalize W.alloc (.cells #[] 53) = V at *
  go_loopw [5, 6] (fun s5 s6 wr => ∃ k : Nat, k ≤ n ∧ s6 = .int .i64 k ∧ Hid (Elems.G1 W.heap.size W wr s5 (pickAt m (J.take k)))) (fun _ s6 _ => n - (intOf s6).toNat)
  case atStart => exact ⟨0, Nat.zero_le _, rfl, HG0⟩
  case round =>
    clear HG0
    obtain ⟨k, hk, rfl, HR⟩ := hrel
    obtain ⟨⟨z2, z3⟩, p2⟩ := HM3.out wr HR.out.2
    by_cases hlt : k < n
    · have hkn : (k : Int) < (n : Int) := by omega
      have hk0 : (0 : Int) ≤ (k : Int) := by omega
      obtain ⟨bb, oo, zz, rfl, hzz, t1⟩ := z3.at k hlt
      obtain ⟨j, hj, rfl⟩ := row_at hzz
      have hjn := HBJ.out j (List.mem_of_getElem? hj)
      have hjI : (j : Int) < (n2 : Int) := by omega
      have hj0 : (0 : Int) ≤ (j : Int) := by omega
      obtain ⟨b, off, x, y, rfl, hx, e1, e2⟩ := z2.at j hjn
      have HX := Lib.hid (pickAt_next (m := m) hj hx)
      have hfl := pickAt_len m (J.take k)
      rw [List.length_take] at hfl
      have hBs := HR.out.2.size
      have hown := HR.out.1
      clear hzz hj hx z2 z3
      go_wp2_with fail
      generalize hLs : pickAt m (J.take k) = Ls at *
      have hll : Ls.length ≤ 1000000 := by omega
      go_region_law (first | (refine step_append_lies _ (by rfl) _ _ _ (by rfl) W.heap.size 53 i0 _ 2 16 Try.underlying27 hi hy0 hy1 hy2 rfl (by omega) u5 _ _ (by rfl) (own_drew (hown.alloc _)) ⟨wr.heap.size, 0, none⟩ 1 1 [.int .i64 x, .int .i64 y] (by rfl) (by rfl) (new_pair wr _ _ _) (by simp [Value.oneCell']) (by omega) (by unfold maxLen; omega) (by omega) (by simp; omega) (wr.heap.size + 1) (by simp) ?_; intro g9 cap9 w9 hown' hgrow hat hltg))
      all_goals (have HG : Hid (Elems.G1 W.heap.size W w9 (.slice (some ⟨g9, 0, none⟩) (Ls.length + 1) cap9) (pickAt m (J.take (k + 1)))) := (by unfold Hid Elems.G1; rw [HX.out, List.length_append, Elems.flat_append]; exact ⟨hown', (HR.out.2.alloc hBs _).drew.grown hgrow (by simp; omega) (fun j hj => (hown.lt j hj).1)⟩))
      all_goals clear hown' hgrow hown hat hltg
      all_goals go_wp2_with fail
      all_goals exact ⟨⟨k + 1, by omega, by go_num, HG⟩, by simp [intOf]; omega⟩
    · obtain rfl : k = n := by omega
      have hkn : ¬ (k : Int) < (k : Int) := by omega
      have hown := HR.out.1
      rw [List.take_of_length_le (by rw [HLJ.out]; omega)] at hown
      have hfl := pickAt_len m J
      rw [HLJ.out] at hfl
      have HBD := Lib.hid (HB.out.trans (HR.out.2.mono HB.out.size))
      have HO := Lib.hid hown
      obtain ⟨p, d, rfl⟩ := Elems.own_form hown
      clear hown HR z2 z3
      go_wp2_with fail
      go_ret
      exact ⟨_, _, _, rfl, ownsRow_base HO.out HB.out.size, by omega, HBD.out⟩
set_option maxRecDepth 100000 in
set_option maxHeartbeats 8000000 in
theorem spec_any : GivesRL.Gives 14 conP := by
  intro a1 a2 n1 n2 l m w hz1 hz2 h1 h2
  have hb := below_alloc w (.cells #[.slice a1 n1 n1, .slice a2 n2 n2] 32)
  have hf := box_first w (.slice a1 n1 n1) (.slice a2 n2 n2) 32
  have hf2 := box_second w (.slice a1 n1 n1) (.slice a2 n2 n2) 32
  have H1 := Lib.hid (h1.below hb)
  have H2 := Lib.hid (h2.below hb)
  have HL2 := Lib.hid h2.1
  have hsz : w.heap.size < (w.alloc (.cells #[.slice a1 n1 n1, .slice a2 n2 n2] 32)).heap.size := by simp
  clear h1 h2
  go_enter Try.func14, Try.ntmps14
  go_wp2_with fail
  generalize w.alloc (.cells #[.slice a1 n1 n1, .slice a2 n2 n2] 32) = W at *
  refine (Good2.l2Good_any a1 a2 n1 n1 n2 n2 l m W H1.out H2.out).mono ?_
  rintro e w1 ⟨rfl, b1⟩
  have r1 := (b1.cell (p := ⟨w.heap.size, 0, none⟩) hsz).trans hf
  have r2 := (b1.cell (p := ⟨w.heap.size, 1, none⟩) hsz).trans hf2
  have hsz1 := Nat.lt_of_lt_of_le hsz b1.size
  have HB1 := Lib.hid (hb.trans (b1.mono hb.size))
  have K1 := Lib.hid (H1.out.below b1)
  have K2 := Lib.hid (H2.out.below b1)
  clear hf hf2 b1 hb
  cases hg : good l m with
  | false =>
    have HE := Lib.hid (con_bad hg)
    clear hg
    go_wp2_with fail
    go_ret2
    rw [HE.out]
    exact ⟨_, _, _, rfl, ownsRow_base (Elems.empty_own w1) HB1.out.size, by omega, HB1.out.trans ((below_alloc _ _).mono HB1.out.size)⟩
  | true =>
    have HE : Hid (conP l m = some (pickAt m (plc (con m) m n2))) := by unfold Hid; rw [con_yes hg, pick_all (con m) HL2.out]
    have HG := Lib.hid hg
    have hn2 : n2 ≤ 24 := by rw [← HL2.out]; exact (Table.good_few hg).2
    have hil := plc_len (con m) m n2
    have HIL : Hid (∀ j ∈ plc (con m) m n2, j < n2) := fun j hj => plc_lt hj
    clear hg
    have HSS : Hid (∀ X, Below w1.heap.size w1 X → X.cell? ⟨w.heap.size, 0, none⟩ = some (.slice a1 n1 n1) ∧ X.cell? ⟨w.heap.size, 1, none⟩ = some (.slice a2 n2 n2)) := fun X hX => ⟨(hX.cell (p := ⟨w.heap.size, 0, none⟩) hsz1).trans r1, (hX.cell (p := ⟨w.heap.size, 1, none⟩) hsz1).trans r2⟩
    have hbdr := (Below.refl w1.heap.size w1).drew
    go_wp2_with fail
    go_region_held3 (fun X => X.cell? ⟨w.heap.size, 0, none⟩ = some (.slice a1 n1 n1) ∧ X.cell? ⟨w.heap.size, 1, none⟩ = some (.slice a2 n2 n2))
      (first | exact s4 | exact s3 | (refine HSS.out _ ?_; (repeat (first | exact Below.refl _ _ | refine Lows.belA ?_ _ | refine Below.drew ?_)); done))
      (first
        | (go_at_call 66; refine (l6Bad_any a1 a2 n1 n1 n2 n2 l m _ HG.out (K1.out.below hbdr) (K2.out.below hbdr)).mono ?_; rintro e w3 ⟨p3, k3, d3, rfl, ho3, hk3, b3⟩; have HB3 := Lib.hid (hbdr.trans b3); have s3 := HSS.out w3 HB3.out)
        | (go_at_call 65; refine (l6Relations_any a1 a2 p3 n1 n1 n2 n2 k3 d3 l m (plc (con m) m n2) w3 (by have := ho3.1; rw [ints_len, intsN_len] at this; omega) (K2.out.below HB3.out) (GivesI.holds_own ho3) HIL.out hz2).mono ?_; rintro e w4 ⟨p4, k4, d4, rfl, hown4, hk4, b4⟩; have HB4 := Lib.hid (HB1.out.trans ((HB3.out.trans (b4.mono HB3.out.size)).mono HB1.out.size)); have s4 := HSS.out w4 (HB3.out.trans (b4.mono HB3.out.size)))
        | fail)
    all_goals (have HOW4 := Lib.hid hown4)
    all_goals (have hsb := Nat.le_trans HB1.out.size HB3.out.size)
    all_goals clear hown4 b4 b3 ho3 s3 s4
    all_goals go_wp2_with fail
    all_goals go_ret2
    all_goals rw [HE.out]
    all_goals exact ⟨_, _, _, rfl, ownsRow_base HOW4.out hsb, hk4, HB4.out⟩
end Go.Proofs.Ytkaafocadjhlnaa.ConS
