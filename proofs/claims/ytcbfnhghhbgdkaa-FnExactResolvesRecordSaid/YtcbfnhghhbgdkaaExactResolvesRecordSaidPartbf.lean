/- The program's cycleWithout: the relations of the shortest cycle that a valid record has without a set, in their order around it; none if the set resolves the record. -/
import Derived.Test.YtcbfnhghhbgdkaaExactResolvesRecordSaidPartbd
import Derived.Test.YtcbfnhghhbgdkaaExactResolvesRecordSaidPartbe
import Derived.Deep.RegionHeld3
import Derived.Deep.DeepCutAuto
import Derived.Maps.AppendAt
import Derived.Laws.EntriesVeiled
import Derived.Test.YtcbfnhghhbgdkaaExactResolvesRecordSaidPartbb
import Derived.Test.YtcbfnhghhbgdkaaExactResolvesRecordSaidPartal
namespace Go.Proofs.Ytcbfnhghhbgdkaa.WitI
open Go.RowKit Pairs Rec RecEq Two That Chain Find2 GoodM Keep GivesI Elems Eq2 WitM WitC CycM CycI
theorem own_cap {T : TypeId} {w : World} {B n c s : Nat} {p : Option Addr} {xs : List Value} (h : w.ownsRow B T s (.slice p n c) n xs) : n ≤ c := by
  rcases h.2 with ⟨hv, hn⟩ | ⟨g, cap, cur, hv, hr⟩
  · omega
  · injection hv with h1 h2 h3
    have := hr.2.2.2.1
    omega
/-- The record that is left, in a box. -/
def LB (w wc : World) (a1 : Option Addr) (n1 c1 : Nat) (L : Ps) (s : Value) : Prop :=
  ∃ (gb : Nat) (p : Option Addr) (k d : Nat), s = .pointer (some ⟨gb, 0, none⟩) ∧ wc.cell? ⟨gb, 0, none⟩ = some (.slice a1 n1 c1) ∧ wc.cell? ⟨gb, 1, none⟩ = some (.slice p k d) ∧ Holds wc p k L ∧ k ≤ d ∧ k ≤ 1048576 ∧ Below w.heap.size w wc
def G1 (B : Nat) (w wr : World) (v : Value) (L : Ps) : Prop := wr.ownsRow B 43 2 v L.length (flat L) ∧ Below B w wr
theorem belA {W X : World} (h : Below W.heap.size W X) (o : Obj) : Below W.heap.size W (X.alloc o) := h.alloc h.size o
theorem belS {W X : World} {g o : Nat} (h : Below W.heap.size W X) (hg : W.heap.size ≤ g) (v : Value) : Below W.heap.size W (X.setCell ⟨g, o, none⟩ v) := h.setCell (p := ⟨g, o, none⟩) hg v
theorem box_there {X : World} {k : Nat} {u v : Value} {T : TypeId} (hb : X.heap[k]? = some (.cells #[u, v] T)) (x y : Value) : X.cell? ⟨k, 0, none⟩ = some u ∧ X.cell? ⟨k, 1, none⟩ = some v ∧ X.frozen? ⟨k, 0, none⟩ = false ∧ X.frozen? ⟨k, 1, none⟩ = false ∧ (X.setCell ⟨k, 0, none⟩ x).cell? ⟨k, 0, none⟩ = some x ∧ ((X.setCell ⟨k, 0, none⟩ x).setCell ⟨k, 1, none⟩ y).cell? ⟨k, 1, none⟩ = some y :=
  ⟨by simp [World.cell?, hb], by simp [World.cell?, hb], by simp only [World.frozen?, hb]; rfl, by simp only [World.frozen?, hb]; rfl, by have h1 := (setCell_block (a := x) hb).1; simp [World.cell?, h1], by have h1 := (setCell_block (a := y) (setCell_block (a := x) hb).1).2; simp [World.cell?, h1]⟩
theorem lb_old {W w4 : World} {a1 p : Option Addr} {n1 c1 k d B : Nat} {L : Ps} (hb : w4.heap[W.heap.size]? = some (.cells #[.slice none 0 0, .slice none 0 0] 33)) (b4 : Below W.heap.size W w4) (hown : w4.ownsRow B 43 2 (.slice p k d) k (flat L)) (hk : k ≤ 1048576) (hB : W.heap.size < B) :
    ((w4.setCell ⟨W.heap.size, 0, none⟩ (.slice a1 n1 c1)).setCell ⟨W.heap.size, 1, none⟩ (.slice p k d)).cell? ⟨W.heap.size, 0, none⟩ = some (.slice a1 n1 c1) ∧ ((w4.setCell ⟨W.heap.size, 0, none⟩ (.slice a1 n1 c1)).setCell ⟨W.heap.size, 1, none⟩ (.slice p k d)).cell? ⟨W.heap.size, 1, none⟩ = some (.slice p k d) ∧ Holds ((w4.setCell ⟨W.heap.size, 0, none⟩ (.slice a1 n1 c1)).setCell ⟨W.heap.size, 1, none⟩ (.slice p k d)) p k L ∧ k ≤ d ∧ k ≤ 1048576 ∧ Below W.heap.size W ((w4.setCell ⟨W.heap.size, 0, none⟩ (.slice a1 n1 c1)).setCell ⟨W.heap.size, 1, none⟩ (.slice p k d)) := by
  have h1 := (setCell_block (a := .slice p k d) (setCell_block (a := .slice a1 n1 c1) hb).1).2
  have hne : (Value.slice p k d).ownBlock ≠ some W.heap.size := fun e => by have := (hown.lt _ e).1; omega
  exact ⟨by simp [World.cell?, h1], by simp [World.cell?, h1], holds_own (setCell_far (setCell_far hown hne) hne), own_cap hown, hk, belS (belS b4 (Nat.le_refl _) _) (Nat.le_refl _) _⟩
set_option maxRecDepth 100000 in
set_option maxHeartbeats 8000000 in
theorem wit_any (a1 a2 a3 : Option Addr) (n1 c1 n2 c2 n3 c3 : Nat) (l m S : Ps) (w : World) (hc1 : n1 ≤ c1) (hg : good l m = true) (hz3 : n3 ≤ 1048576) (h1 : Holds w a1 n1 l) (h2 : Holds w a2 n2 m) (h3 : Holds w a3 n3 S) :
    Calls Try.prog 20 #[.agg #[.slice a1 n1 c1, .slice a2 n2 c2], .slice a3 n3 c3] w (ResR (wit l m S) w) := by
  obtain ⟨i0, hi, hy0, hy1, hy2⟩ := info_parts infoRelation
  have hf := Table.good_few hg
  have hn1 : n1 ≤ 10 := by have := h1.1; omega
  have hn2 : n2 ≤ 24 := by have := h2.1; omega
  have hb1 := below_alloc w (.cells #[.slice a1 n1 c1, .slice a2 n2 c2] 33)
  have hs1 : (w.alloc (.cells #[.slice a1 n1 c1, .slice a2 n2 c2] 33)).heap.size = w.heap.size + 1 := by simp
  have hb2 := below_alloc (w.alloc (.cells #[.slice a1 n1 c1, .slice a2 n2 c2] 33)) (.cells #[.slice a3 n3 c3] 31)
  have hbb := hb1.trans (hb2.mono hb1.size)
  have x1 := (hb2.cell (p := ⟨w.heap.size, 0, none⟩) (by show w.heap.size < _; omega)).trans (box_first w (.slice a1 n1 c1) (.slice a2 n2 c2) 33)
  have x2 := (hb2.cell (p := ⟨w.heap.size, 1, none⟩) (by show w.heap.size < _; omega)).trans (box_second w (.slice a1 n1 c1) (.slice a2 n2 c2) 33)
  have x3 : ((w.alloc (.cells #[.slice a1 n1 c1, .slice a2 n2 c2] 33)).alloc (.cells #[.slice a3 n3 c3] 31)).cell? ⟨w.heap.size + 1, 0, none⟩ = some (.slice a3 n3 c3) := by
    have h := heap_alloc_new (w.alloc (.cells #[.slice a1 n1 c1, .slice a2 n2 c2] 33)) (.cells #[.slice a3 n3 c3] 31)
    rw [hs1] at h
    unfold World.cell?
    rw [h]
    rfl
  have hs2 : ((w.alloc (.cells #[.slice a1 n1 c1, .slice a2 n2 c2] 33)).alloc (.cells #[.slice a3 n3 c3] 31)).heap.size = w.heap.size + 2 := by simp
  have H1 := Lib.hid (h1.below hbb)
  have H2 := Lib.hid (h2.below hbb)
  have H3 := Lib.hid (h3.below hbb)
  have HS := Lib.hid hs2
  have HBB := Lib.hid hbb
  have HG := Lib.hid hg
  have HL0 := Lib.hid h1
  clear h1 h2 h3 hs1 hs2 hb1 hb2 hbb hg hf
  go_enter Try.func20, Try.ntmps20
  go_upto_region 2 with fail
  generalize (w.alloc (.cells #[.slice a1 n1 c1, .slice a2 n2 c2] 33)).alloc (.cells #[.slice a3 n3 c3] 31) = W at *
  have lw : w.heap.size < W.heap.size := by have := HS.out; omega
  have lw1 : w.heap.size + 1 < W.heap.size := by have := HS.out; omega
  have HX : Hid (∀ X, Below W.heap.size W X → X.cell? ⟨w.heap.size, 0, none⟩ = some (.slice a1 n1 c1) ∧ X.cell? ⟨w.heap.size, 1, none⟩ = some (.slice a2 n2 c2) ∧ X.cell? ⟨w.heap.size + 1, 0, none⟩ = some (.slice a3 n3 c3)) := fun X hX => ⟨(hX.cell (p := ⟨w.heap.size, 0, none⟩) lw).trans x1, (hX.cell (p := ⟨w.heap.size, 1, none⟩) lw).trans x2, (hX.cell (p := ⟨w.heap.size + 1, 0, none⟩) lw1).trans x3⟩
  go_cut [6] (fun s6 wc => LB W wc a1 n1 c1 (lft S m) s6)
  case first =>
    have BA : Hid (Below W.heap.size W W.drew) := (Below.refl _ _).drew
    have BB : Hid (Below W.heap.size W (W.alloc (.cells #[.slice none 0 0, .slice none 0 0] 33)).drew) := (below_alloc W _).drew
    have HH2 : Hid (∀ X, Below W.heap.size W X → Holds X a2 n2 m) := fun X hX => H2.out.below hX
    have HH3 : Hid (∀ X, Below W.heap.size W X → Holds X a3 n3 S) := fun X hX => H3.out.below hX
    have HZ : Hid ((W.alloc (.cells #[.slice none 0 0, .slice none 0 0] 33)).drew.heap[W.heap.size]? = some (.cells #[.slice none 0 0, .slice none 0 0] 33)) := heap_alloc_new W _
    have HZS : Hid (W.heap.size < (W.alloc (.cells #[.slice none 0 0, .slice none 0 0] 33)).drew.heap.size) := by show W.heap.size < (W.alloc (.cells #[.slice none 0 0, .slice none 0 0] 33)).heap.size; simp
    obtain ⟨a1', a2', _⟩ := HX.out _ BA.out
    obtain ⟨b1', b2', _⟩ := HX.out _ BB.out
    go_region_held3 (fun (X : World) => X.cell? ⟨w.heap.size, 0, none⟩ = some (.slice a1 n1 c1) ∧ X.cell? ⟨w.heap.size, 1, none⟩ = some (.slice a2 n2 c2)) (first
      | with_reducible exact ⟨a1', a2'⟩
      | with_reducible exact ⟨b1', b2'⟩
      | (refine ⟨(HX.out _ ?_).1, (HX.out _ ?_).2.1⟩; all_goals (repeat (first | with_reducible exact B4.out | with_reducible exact Below.refl _ _ | with_reducible refine Below.drew ?_ | with_reducible refine belA ?_ _ | with_reducible refine belS ?_ (Nat.le_refl _) _ | with_reducible refine belS ?_ hBG.out _ | fail)); done)
      | fail) ((go_at_call 33; refine (elems_any 32 #[.pointer (some ⟨w.heap.size + 1, 0, none⟩)] (fun q => !inS S q) a2 n2 c2 m _ hn2 (by first | exact HH2.out _ BA.out | exact HH2.out _ BB.out) (fun args W => call_enter Try.func32 (by kernel_rfl) rfl args W) (fun x y wr _ hwr => left_any (w.heap.size + 1) a3 n3 c3 S x y hz3 wr (HX.out wr (by first | exact BA.out.trans (hwr.mono BA.out.size) | exact BB.out.trans (hwr.mono BB.out.size))).2.2 (HH3.out wr (by first | exact BA.out.trans (hwr.mono BA.out.size) | exact BB.out.trans (hwr.mono BB.out.size))))).mono ?_; rintro e w4 ⟨p, k, d, rfl, hown, hk, b4⟩; have B4 : Hid (Below W.heap.size W w4) := (by first | exact BA.out.trans (b4.mono BA.out.size) | exact BB.out.trans (b4.mono BB.out.size)); have hBG : Hid (W.heap.size ≤ w4.heap.size) := B4.out.size; have HOW := Lib.hid hown; first | (have hzb : w4.heap[W.heap.size]? = some (.cells #[.slice none 0 0, .slice none 0 0] 33) := (b4.block W.heap.size HZS.out).trans HZ.out; obtain ⟨g1', g2', g3', g4', _, _⟩ := box_there hzb (.slice a1 n1 c1) (.slice p k d); have HZB := Lib.hid hzb; clear hzb hown b4) | (clear hown b4)))
    all_goals go_wp2_with fail
    all_goals go_meet
    all_goals first
      | exact ⟨w4.heap.size, p, k, d, rfl, box_first w4 _ _ _, box_second w4 _ _ _, (holds_own HOW.out).below (below_alloc w4 _), own_cap HOW.out, hk, B4.out.trans ((below_alloc w4 _).mono B4.out.size)⟩
      | exact ⟨W.heap.size, p, k, d, rfl, lb_old HZB.out B4.out HOW.out hk HZS.out⟩
  case rest =>
    obtain ⟨gb, p, k, d, rfl, q1, q2, hh, hkd, hk, bw⟩ := hcut
    have HGL := Lib.hid (lft_good (S := S) HG.out)
    have HHL := Lib.hid hh
    have HBW := Lib.hid (HBB.out.trans (bw.mono HBB.out.size))
    clear hh bw x1 x2 x3 lw lw1
    go_wp2_with fail
    refine (CycI.impl_cap a1 p n1 c1 k d l (lft S m) wc hc1 hkd (by omega) hk (HL0.out.below HBW.out) HHL.out).mono ?_
    rintro e w5 ⟨pc, kc, dc, rfl, hown, hkc, b5⟩
    rw [cp_yes HGL.out] at hown ⊢
    have HWI : Hid (wit l m S = prs (cycM (lft S m) (keys l))) := rfl
    generalize cycM (lft S m) (keys l) = C at *
    have HC := Lib.hid (GivesI.holds_own hown)
    have hCl : C.length = kc := HC.out.1
    have HB5 := Lib.hid (HBW.out.trans (b5.mono HBW.out.size))
    have he0 := below_alloc w5 (.cells #[] 43)
    obtain ⟨D, HWD, HDL, HDT⟩ : ∃ D : List (Int × Int), Hid (wit l m S = D) ∧ Hid (D.length = kc) ∧ Hid (∀ (j : Nat) (z z' : Int), j < kc → C[j]? = some z → C[(j + 1) % kc]? = some z' → D.take (j + 1) = D.take j ++ [(z, z')]) := by
      refine ⟨prs C, HWI.out, (prs_len C).trans hCl, fun j z z' hj hz hz' => ?_⟩
      rw [prs_take C j (by rw [hCl]; exact hj), hCl, hz, hz']
      rfl
    clear HWI
    have hG0 : Hid (G1 w5.heap.size w5 (w5.alloc (.cells #[] 43)) (.slice (some ⟨w5.heap.size, 0, none⟩) 0 0) (D.take 0)) := ⟨Elems.empty_own w5, he0⟩
    clear hown b5 he0 q1 q2 hCl
    go_upto_region 5 with fail
    generalize w5.alloc (.cells #[] 43) = W6 at *
    go_wp2_with fail
    go_loopw [10, 30] (fun s10 s30 wr => ∃ j : Nat, j ≤ kc ∧ s30 = .int .i64 j ∧ Hid (G1 w5.heap.size w5 wr s10 (D.take j))) (fun _ s30 _ => kc - (intOf s30).toNat)
    case atStart => exact ⟨0, Nat.zero_le _, rfl, hG0⟩
    case round =>
      obtain ⟨j, hj, rfl, HR⟩ := hrel
      have HCr := Lib.hid (HC.out.below HR.out.2)
      clear hG0
      by_cases hlt : j < kc
      · have hkcn : ¬ kc = 0 := by omega
        have hkcp : 0 < kc := by omega
        have hBs : w5.heap.size ≤ wr.heap.size := HR.out.2.size
        obtain ⟨t, ht⟩ : ∃ t, (j + 1) % kc = t := ⟨_, rfl⟩
        have htk : t < kc := by rw [← ht]; exact Nat.mod_lt _ (by omega)
        obtain ⟨b, off, z, rfl, hz, e1⟩ := HCr.out.at j hlt
        obtain ⟨b', off', z', hpe, hz', e2⟩ := HCr.out.at t htk
        injection hpe with hpe
        injection hpe with hp1 hp2
        subst hp1 hp2
        have hX := HDT.out j z z' hlt hz (by rw [ht]; exact hz')
        obtain ⟨T, hT⟩ : ∃ T : List (Int × Int), D.take j = T := ⟨_, rfl⟩
        rw [hT] at hX
        have hfl : T.length ≤ j := by rw [← hT]; exact List.length_take_le _ _
        have HX := Lib.hid hX
        have HRT : Hid (G1 w5.heap.size w5 wr u10 T) := by unfold Hid; rw [← hT]; exact HR.out
        clear hX hT HR
        have hjn : (j : Int) < (kc : Int) := by omega
        have hj0 : (0 : Int) ≤ (j : Int) := by omega
        have htn : (t : Int) < (kc : Int) := by omega
        have ht0 : (0 : Int) ≤ (t : Int) := by omega
        have hrem : Int.tmod (wrap64 ((j : Int) + 1)) (kc : Int) = (t : Int) := by
          have e : wrap64 ((j : Int) + 1) = (j : Int) + 1 := by unfold wrap64; omega
          rw [e, ← ht]
          rfl
        have hrem2 : ((j : Int) + 1) % (kc : Int) = (t : Int) := by rw [← ht]; rfl
        clear hz hz'
        have hown := HRT.out.1
        go_wp2_with (at_builtin; refine wpList_append_own _ rfl _ _ 31 rfl w5.heap.size 43 i0 _ 2 16 Try.underlying31 hi hy0 hy1 hy2 rfl (by decide) _ _ _ rfl (hown.alloc _) ⟨wr.heap.size, 0, none⟩ 1 1 [.int .i64 z, .int .i64 z'] rfl rfl (cell_two_new _ _ _ _) (by simp [Value.oneCell']) (by unfold maxLen; omega) (by omega) (by simp; omega) ?_; intro v' w9 hown' hgrow hnil)
        have hB9 : Below w5.heap.size w5 w9 := (HRT.out.2.alloc hBs _).grown hgrow (by simp; omega) (fun j hj => (hown.lt j hj).1)
        have HG9 : Hid (G1 w5.heap.size w5 w9 v' (D.take (j + 1))) := by
          unfold Hid G1
          rw [HX.out, List.length_append, flat_append]
          exact ⟨hown', hB9⟩
        clear hown' hgrow hown hnil hB9
        exact ⟨⟨j + 1, by omega, by go_num, HG9⟩, by simp [intOf]; omega⟩
      · obtain rfl : j = kc := by omega
        have hjn : ¬ (j : Int) < (j : Int) := by omega
        have htk : D.take j = D := List.take_of_length_le (by rw [HDL.out]; exact Nat.le_refl _)
        have hown := HR.out.1
        rw [htk] at hown
        have HBD := Lib.hid HR.out.2
        obtain ⟨pv, dv, rfl⟩ := Elems.own_form hown
        have HO := Lib.hid hown
        clear hown htk
        go_wp2_with fail
        go_ret
        rw [HWD.out]
        exact ⟨pv, _, dv, rfl, ownsRow_base HO.out HB5.out.size, by rw [HDL.out]; omega, HB5.out.trans (HBD.out.mono HB5.out.size)⟩
end Go.Proofs.Ytcbfnhghhbgdkaa.WitI
/- The program's isSetOf and ResolvesRecord. -/
namespace Go.Proofs.Ytcbfnhghhbgdkaa.RvI
open Go.RowKit Pairs Rec RecEq Keep Chain Find2 GoodM RelM GoodE CycM CycI CycL WitM Cmp Elems RvM
set_option maxRecDepth 100000 in
set_option maxHeartbeats 8000000 in
theorem isSet_any (a1 a2 a3 : Option Addr) (n1 c1 n2 c2 n3 c3 : Nat) (m S : Ps) (w : World) (hz2 : n2 ≤ 1048576) (hz3 : n3 ≤ 1048576) (h2 : Holds w a2 n2 m) (h3 : Holds w a3 n3 S) :
    Calls Try.prog 19 #[.agg #[.slice a1 n1 c1, .slice a2 n2 c2], .slice a3 n3 c3] w fun e w' => e = .returned (.bool (st m S)) ∧ Below w.heap.size w w' := by
  have hb := below_alloc w (.cells #[.slice a1 n1 c1, .slice a2 n2 c2] 33)
  have hf := box_first w (.slice a1 n1 c1) (.slice a2 n2 c2) 33
  have hf2 := box_second w (.slice a1 n1 c1) (.slice a2 n2 c2) 33
  have H2 := Lib.hid (h2.below hb)
  have H3 := Lib.hid (h3.below hb)
  have hsz : w.heap.size < (w.alloc (.cells #[.slice a1 n1 c1, .slice a2 n2 c2] 33)).heap.size := by simp
  clear h2 h3
  go_enter Try.func19, Try.ntmps19
  go_wp2_with fail
  generalize w.alloc (.cells #[.slice a1 n1 c1, .slice a2 n2 c2] 33) = W at *
  have HB := Lib.hid hb
  clear hb
  go_loopw [9] (fun i wr => ∃ k : Nat, k ≤ n3 ∧ i = .int .i64 k ∧ Hid (Below W.heap.size W wr) ∧ Hid (Sk m S k)) (fun i _ => n3 - (intOf i).toNat)
  case atStart => exact ⟨0, Nat.zero_le _, rfl, Below.refl _ _, fun i x h => by omega⟩
  case round =>
    obtain ⟨j, hj, rfl, HQ, HN⟩ := hrel
    by_cases hjt : j < n3
    · have hbq := HQ.out
      have g1 := (hbq.cell (p := ⟨w.heap.size, 0, none⟩) hsz).trans hf
      have g2 := (hbq.cell (p := ⟨w.heap.size, 1, none⟩) hsz).trans hf2
      obtain ⟨b, off, u, v, rfl, hx, e1, e2⟩ := (H3.out.below hbq).at j hjt
      have HX := Lib.hid hx
      have hji : (j : Int) < (n3 : Int) := by omega
      have hj0 : (0 : Int) ≤ (j : Int) := by omega
      have hb7 := below_alloc wr (.cells #[.int .i64 u, .int .i64 v] 43)
      have u1 := box_first wr (.int .i64 u) (.int .i64 v) 43
      have u2' := box_second wr (.int .i64 u) (.int .i64 v) 43
      have hlw : w.heap.size < wr.heap.size := Nat.lt_of_lt_of_le hsz hbq.size
      have q1 := (hb7.cell (p := ⟨w.heap.size, 0, none⟩) hlw).trans g1
      have q2 := (hb7.cell (p := ⟨w.heap.size, 1, none⟩) hlw).trans g2
      have HM8 := Lib.hid ((H2.out.below hbq).below hb7)
      have HS8 := Lib.hid ((H3.out.below hbq).below hb7)
      have HB8 := Lib.hid (hbq.trans (hb7.mono hbq.size))
      clear hx hbq hb7
      go_upto_region 4 with fail
      generalize wr.alloc (.cells #[.int .i64 u, .int .i64 v] 43) = W8 at *
      clear e1 e2 g1 g2
      have k1 := cell_regrown q1
      have k2 := cell_regrown q2
      have k3 := cell_regrown u1
      have k4 := cell_regrown u2'
      clear q1 q2 u1 u2'
      cases j with
      | zero =>
        refine wp_region_quiet_below (by kernel_rfl) (by kernel_rfl) ?_
        repeat (go_big_quiet_step (fail))
        refine wpQuiet_nil ?_
        intro _ hw'
        obtain ⟨⟨dq, osq⟩, hw''⟩ := hw'
        subst hw''
        have hbr := below_regrown W8 dq osq
        have hc := WitC.contains_any a2 n2 c2 m u v hz2 _ (HM8.out.below hbr)
        have HBR := Lib.hid hbr
        clear hbr
        cases hq : inS m (u, v) with
        | false =>
          have HG := Lib.hid (st_bad (m := m) HX.out (fun h => by rw [inS_iff.2 h.1] at hq; cases hq))
          rw [hq] at hc
          have HC := Lib.hid hc
          clear hc hq
          go_wp2_with fail
          refine HC.out.mono ?_
          rintro e w9 ⟨rfl, b9⟩
          have HB9 := Lib.hid (HB.out.trans ((HB8.out.trans ((HBR.out.trans (b9.mono HBR.out.size)).mono HB8.out.size)).mono HB.out.size))
          clear b9
          go_wp2_with fail
          go_ret
          exact ⟨by rw [HG.out]; rfl, HB9.out⟩
        | true =>
          have HG := Lib.hid (HN.out.next HX.out (inS_iff.1 hq) (fun y h => absurd h (Nat.lt_irrefl 0)))
          rw [hq] at hc
          have HC := Lib.hid hc
          clear hc hq
          go_wp2_with fail
          refine HC.out.mono ?_
          rintro e w9 ⟨rfl, b9⟩
          have HB9 := Lib.hid (HB8.out.trans ((HBR.out.trans (b9.mono HBR.out.size)).mono HB8.out.size))
          clear b9
          go_wp2_with fail
          exact ⟨⟨1, by omega, by go_num, HB9, HG⟩, by simp [intOf]; omega⟩
      | succ j =>
        obtain ⟨b', off', p, q, he, hp, p1, p2⟩ := HS8.out.at j (by omega)
        obtain ⟨rfl, rfl⟩ : b' = b ∧ off' = off := by
          injection he with he
          injection he with h1 h2 h3
          exact ⟨h1.symm, h2.symm⟩
        have HP := Lib.hid hp
        have hw1 : IntKind.i64.wrap (((j + 1 : Nat) : Int) - 1) = (j : Int) := by rw [IntKind.wrap_i64]; omega
        have k5 := cell_regrown p1
        have k6 := cell_regrown p2
        clear hp he p1 p2
        have cB : ∀ d os, Calls Try.prog 30 #[.agg #[.int .i64 p, .int .i64 q], .agg #[.int .i64 u, .int .i64 v]] (Sort.grow (redrawn W8 d) os) fun e w'' => e = .returned (.int .i64 (cmpR (p, q) (u, v))) ∧ ∃ p : Regrown, w'' = Sort.grow (redrawn W8 p.d) p.os := fun d os => Calls.regrown_of (Avr.compareRel_below p q u v _)
        cases hbf : before (p, q) (u, v) with
        | true =>
          have HBF := Lib.hid hbf
          have hlt := (cmpR_lt _ _).2 hbf
          have hr : ¬ 0 ≤ cmpR (p, q) (u, v) := by omega
          clear hbf
          generalize cmpR (p, q) (u, v) = r at *
          refine wp_region_quiet_below (by kernel_rfl) (by kernel_rfl) ?_
          repeat (go_big_quiet_step ((go_at_call 30; exact cB _ _)))
          refine wpQuiet_nil ?_
          intro _ hw'
          obtain ⟨⟨dq, osq⟩, hw''⟩ := hw'
          subst hw''
          have hbr := below_regrown W8 dq osq
          have hc := WitC.contains_any a2 n2 c2 m u v hz2 _ (HM8.out.below hbr)
          have HBR := Lib.hid hbr
          clear hbr
          cases hq : inS m (u, v) with
          | false =>
            have HG := Lib.hid (st_bad (m := m) HX.out (fun h => by rw [inS_iff.2 h.1] at hq; cases hq))
            rw [hq] at hc
            have HC := Lib.hid hc
            clear hc hq
            go_wp2_with fail
            refine HC.out.mono ?_
            rintro e w9 ⟨rfl, b9⟩
            have HB9 := Lib.hid (HB.out.trans ((HB8.out.trans ((HBR.out.trans (b9.mono HBR.out.size)).mono HB8.out.size)).mono HB.out.size))
            clear b9
            go_wp2_with fail
            go_ret
            exact ⟨by rw [HG.out]; rfl, HB9.out⟩
          | true =>
            have HG := Lib.hid (HN.out.next HX.out (inS_iff.1 hq) (fun y _ hy => by rw [Nat.add_sub_cancel, HP.out] at hy; injection hy with hy; rw [← hy]; exact HBF.out))
            rw [hq] at hc
            have HC := Lib.hid hc
            clear hc hq
            go_wp2_with fail
            refine HC.out.mono ?_
            rintro e w9 ⟨rfl, b9⟩
            have HB9 := Lib.hid (HB8.out.trans ((HBR.out.trans (b9.mono HBR.out.size)).mono HB8.out.size))
            clear b9
            go_wp2_with fail
            exact ⟨⟨j + 1 + 1, by omega, by go_num, HB9, HG⟩, by simp [intOf]; omega⟩
        | false =>
          have HG := Lib.hid (st_bad (m := m) HX.out (fun h => by have := h.2 (p, q) (Nat.succ_pos j) (by rw [Nat.add_sub_cancel]; exact HP.out); rw [hbf] at this; cases this))
          have hr : 0 ≤ cmpR (p, q) (u, v) := Int.not_lt.1 fun h => by rw [(cmpR_lt _ _).1 h] at hbf; cases hbf
          clear hbf
          generalize cmpR (p, q) (u, v) = r at *
          refine wp_region_quiet_below (by kernel_rfl) (by kernel_rfl) ?_
          repeat (go_big_quiet_step ((go_at_call 30; exact cB _ _)))
          refine wpQuiet_nil ?_
          intro _ hw'
          obtain ⟨⟨dq, osq⟩, hw''⟩ := hw'
          subst hw''
          have hbr := below_regrown W8 dq osq
          have HB9 := Lib.hid (HB.out.trans ((HB8.out.trans (hbr.mono HB8.out.size)).mono HB.out.size))
          clear hbr
          go_wp2_with fail
          go_ret
          exact ⟨by rw [HG.out]; rfl, HB9.out⟩
    · obtain rfl : j = n3 := by omega
      have hji : ¬ (j : Int) < (j : Int) := by omega
      have HG := Lib.hid (st_yes (m := m) (S := S) (by rw [H3.out.1]; exact HN.out))
      have HB9 := Lib.hid (HB.out.trans (HQ.out.mono HB.out.size))
      go_wp2_with fail
      go_ret
      exact ⟨by rw [HG.out]; rfl, HB9.out⟩
set_option maxRecDepth 100000 in
set_option maxHeartbeats 4000000 in
theorem impl_any (a1 a2 a3 : Option Addr) (n1 c1 n2 c2 n3 c3 : Nat) (l m S : Ps) (w : World) (hc1 : n1 ≤ c1) (hz1 : n1 ≤ 1048576) (hz2 : n2 ≤ 1048576) (hz3 : n3 ≤ 1048576) (h1 : Holds w a1 n1 l) (h2 : Holds w a2 n2 m) (h3 : Holds w a3 n3 S) :
    Calls Try.prog 9 #[.agg #[.slice a1 n1 c1, .slice a2 n2 c2], .slice a3 n3 c3] w fun e w' => e = .returned (.tuple #[.bool ((rvP l m S).1), .bool ((rvP l m S).2)]) ∧ Below w.heap.size w w' := by
  obtain ⟨q, hq⟩ : ∃ q, rvP l m S = q := ⟨_, rfl⟩
  rw [hq]
  have HQ := Lib.hid hq
  clear hq
  have hb := below_alloc w (.cells #[.slice a1 n1 c1, .slice a2 n2 c2] 33)
  have hf := box_first w (.slice a1 n1 c1) (.slice a2 n2 c2) 33
  have hf2 := box_second w (.slice a1 n1 c1) (.slice a2 n2 c2) 33
  have H1 := Lib.hid (h1.below hb)
  have H2 := Lib.hid (h2.below hb)
  have H3 := Lib.hid (h3.below hb)
  have hsz : w.heap.size < (w.alloc (.cells #[.slice a1 n1 c1, .slice a2 n2 c2] 33)).heap.size := by simp
  clear h1 h2 h3
  go_enter Try.func9, Try.ntmps9
  go_wp2_with fail
  generalize w.alloc (.cells #[.slice a1 n1 c1, .slice a2 n2 c2] 33) = W at *
  refine (Avr.impl_any a1 a2 n1 c1 n2 c2 l m W hz1 hz2 H1.out H2.out).mono ?_
  rintro e w1 ⟨rfl, b1⟩
  have r1 := (b1.cell (p := ⟨w.heap.size, 0, none⟩) hsz).trans hf
  have r2 := (b1.cell (p := ⟨w.heap.size, 1, none⟩) hsz).trans hf2
  have K1 := Lib.hid (H1.out.below b1)
  have K2 := Lib.hid (H2.out.below b1)
  have K3 := Lib.hid (H3.out.below b1)
  have HB1 := Lib.hid (hb.trans (b1.mono hb.size))
  have hs1 : w.heap.size < w1.heap.size := Nat.lt_of_lt_of_le hsz b1.size
  clear hb b1 hf hf2 H1 H2 H3
  cases hg : good l m with
  | false =>
    have hq := HQ.out
    rw [rv_bad hg] at hq
    subst hq
    clear hg HQ
    go_wp2_with fail
    go_ret2
    exact ⟨rfl, HB1.out⟩
  | true =>
    have HG := Lib.hid hg
    clear hg
    go_wp2_with fail
    refine (isSet_any a1 a2 a3 n1 c1 n2 c2 n3 c3 m S w1 hz2 hz3 K2.out K3.out).mono ?_
    rintro e w2 ⟨rfl, b2⟩
    have q1 := (b2.cell (p := ⟨w.heap.size, 0, none⟩) hs1).trans r1
    have q2 := (b2.cell (p := ⟨w.heap.size, 1, none⟩) hs1).trans r2
    have L1 := Lib.hid (K1.out.below b2)
    have L2 := Lib.hid (K2.out.below b2)
    have L3 := Lib.hid (K3.out.below b2)
    have HB2 := Lib.hid (HB1.out.trans (b2.mono HB1.out.size))
    clear b2 r1 r2 K1 K2 K3
    cases hs : st m S with
    | false =>
      have hq := HQ.out
      rw [rv_no hs] at hq
      subst hq
      clear hs HQ
      go_wp2_with fail
      go_ret2
      exact ⟨rfl, HB2.out⟩
    | true =>
      have hq := HQ.out
      rw [rv_yes HG.out hs] at hq
      clear HQ
      have HN := Lib.hid (wit_nil (S := S) HG.out)
      clear hs
      go_wp2_with fail
      refine (WitI.wit_any a1 a2 a3 n1 c1 n2 c2 n3 c3 l m S w2 hc1 HG.out hz3 L1.out L2.out L3.out).mono ?_
      rintro e w3 ⟨p, k, d, rfl, hown, hk, b3⟩
      have hlen : (wit l m S).length = k := (Keep.holds_own hown).1
      have HB3 := Lib.hid (HB2.out.trans (b3.mono HB2.out.size))
      clear hown b3
      cases hl : loop l (lft S m) with
      | false =>
        have e0 := HN.out.2 hl
        rw [e0] at hlen
        obtain rfl : k = 0 := hlen.symm
        rw [hl] at hq
        subst hq
        clear hl e0 hlen
        go_wp2_with fail
        go_ret2
        exact ⟨rfl, HB3.out⟩
      | true =>
        have hk0 : ¬ k = 0 := fun h => by
          have := HN.out.1 (List.length_eq_zero_iff.1 (by rw [hlen]; exact h))
          rw [hl] at this
          cases this
        have hk1 : ((k : Int) == 0) = false := by rw [beq_eq_false_iff_ne]; omega
        have hk2 : ¬ (k : Int) = 0 := by omega
        rw [hl] at hq
        subst hq
        clear hl hlen
        go_wp2_with fail
        go_ret2
        exact ⟨rfl, HB3.out⟩
end Go.Proofs.Ytcbfnhghhbgdkaa.RvI
