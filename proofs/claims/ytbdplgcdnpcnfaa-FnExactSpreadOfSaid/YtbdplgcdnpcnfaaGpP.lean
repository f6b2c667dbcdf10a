/- The program's placeOfPhase; PhaseOf on both sides; IsValidGrouping of the model. -/
import Derived.Test.YtbdplgcdnpcnfaaGpS
namespace Go.Proofs.Ytbdplgcdnpcnfaa.GpP
open Go.RowKit Pairs Rec RecEq Keep GivesI Chain Find2 GoodM Ph GpM GpB GpC GpI GpS
theorem plc1_any (z : Int) (bx : Nat) (s : ByteArray) (pq : Option Addr) (jq dq : Nat) (Q : List Int) (hjq : jq ≤ 1048576) (w : World) (e1 : w.cell? ⟨bx, 0, none⟩ = some (.int .i64 z)) (hq : HoldsI w pq jq Q) :
    Calls Try.prog 80 #[.agg #[.string s, .slice pq jq dq], .pointer (some ⟨bx, 0, none⟩)] w fun e w' => e = .returned (.bool (inM Q z)) ∧ Below w.heap.size w w' := by
  have hb := below_alloc w (.cells #[.string s, .slice pq jq dq] 57)
  have u2 := box_second w (.string s) (.slice pq jq dq) 57
  have g1 := (hb.cell (p := ⟨bx, 0, none⟩) (World.block_lt_of_cell? w _ e1)).trans e1
  have HQ := Lib.hid (hq.below hb)
  have HB := Lib.hid hb
  clear hq hb e1
  go_enter Try.func80, Try.ntmps80
  go_wp2_with fail
  generalize w.alloc (.cells #[.string s, .slice pq jq dq] 57) = W at *
  refine (contains_any pq jq dq Q z hjq W HQ.out).mono ?_
  rintro e w' ⟨rfl, rfl⟩
  go_wp2_with fail
  go_ret
  exact ⟨rfl, HB.out⟩
set_option maxHeartbeats 1000000 in
theorem place_any (z : Int) (p : Option Addr) (n c : Nat) (L : List Pt) (hn : n ≤ 1048576) (hS : Sm L 1048576) (w : World) (h : HoldsP w p n L) :
    Calls Try.prog 44 #[.slice p n c, .int .i64 z] w fun e w' => e = .returned (.int .i64 (phs L z)) ∧ Below w.heap.size w w' := by
  have hb := below_alloc w (.cells #[.int .i64 z] 3)
  have u1 : (w.alloc (.cells #[.int .i64 z] 3)).cell? ⟨w.heap.size, 0, none⟩ = some (.int .i64 z) := by
    rw [World.cell?_alloc_mark]
    rfl
  have hlt : w.heap.size < (w.alloc (.cells #[.int .i64 z] 3)).heap.size := by simp
  have HH := Lib.hid (h.below hb)
  have HS := Lib.hid hS
  have HB := Lib.hid hb
  have U1 := Lib.hid u1
  clear h hS hb
  obtain ⟨g, hg⟩ : ∃ g, phs L z = g := ⟨_, rfl⟩
  rw [hg]
  have HG := Lib.hid hg
  clear hg
  go_enter Try.func44, Try.ntmps44
  go_wp2_with fail
  clear u1
  generalize w.alloc (.cells #[.int .i64 z] 3) = W at *
  refine (indexP_any 80 #[.pointer (some ⟨w.heap.size, 0, none⟩)] (fun q => inM q.2 z) p n c L W hn HH.out (fun args W => FuncI.call_enter Try.func80 (by kernel_rfl) rfl args W) (fun sq Q pq jq dq wq hin hwq hQ => ?_)).mono ?_
  · have hjq : jq ≤ 1048576 := by
      have h1 := (HS.out _ hin).2
      have h2 := hQ.1
      simp only at h1
      omega
    exact plc1_any z w.heap.size sq pq jq dq Q hjq wq ((hwq.cell (p := ⟨w.heap.size, 0, none⟩) hlt).trans U1.out) hQ
  rintro e w2 ⟨i, rfl, hi, b2⟩
  have hig : i = g := by
    rw [← HG.out]
    cases hq : L.any (fun q => inM q.2 z) with
    | true =>
      obtain ⟨k, rfl, hk⟩ := hi.1 hq
      exact (phs_some hk).symm
    | false =>
      rw [hi.2 hq]
      refine (phs_none ?_).symm
      unfold at?
      rw [List.findIdx?_eq_none_iff]
      intro x hx
      have := List.any_eq_false.1 hq x hx
      simpa using this
  subst hig
  have HB2 := Lib.hid (HB.out.trans (b2.mono HB.out.size))
  clear hi b2
  go_wp2_with fail
  go_ret
  exact ⟨rfl, HB2.out⟩
noncomputable def poP (z : Int) (l m : Ps) (L : List Pt) : Int × Bool := if grp l m L = true ∧ (isAt l z).isSome = true then (phs L z, true) else (0, false)
theorem po_no1 {z : Int} {l m : Ps} {L : List Pt} (h : grp l m L = false) : poP z l m L = (0, false) := by unfold poP; rw [if_neg (by rw [h]; simp)]
theorem po_no2 {z : Int} {l m : Ps} {L : List Pt} (h : (isAt l z).isSome = false) : poP z l m L = (0, false) := by unfold poP; rw [if_neg (by rw [h]; simp)]
theorem po_yes {z : Int} {l m : Ps} {L : List Pt} (h : grp l m L = true) (h2 : (isAt l z).isSome = true) : poP z l m L = (phs L z, true) := by unfold poP; rw [if_pos ⟨h, h2⟩]
theorem grp_good {l m : Ps} {L : List Pt} (h : grp l m L = true) : good l m = true := by
  unfold grp at h
  rw [Bool.and_eq_true, Bool.and_eq_true] at h
  exact h.1.1
set_option maxRecDepth 100000 in
set_option maxHeartbeats 4000000 in
theorem impl_any (z : Int) (a1 a2 : Option Addr) (n1 c1 n2 c2 : Nat) (l m : Ps) (p : Option Addr) (n : Nat) (L : List Pt) (w : World) (hz1 : n1 ≤ 1048576) (hz2 : n2 ≤ 1048576) (h1 : Holds w a1 n1 l) (h2 : Holds w a2 n2 m) (hn : n ≤ 1048576) (h : HoldsP w p n L) (hS : Sm L 1048576) :
    Calls Try.prog 17 #[.agg #[.slice a1 n1 c1, .slice a2 n2 c2], .slice p n n, .int .i64 z] w fun e w' => e = .returned (.tuple #[.int .i64 (poP z l m L).1, .bool (poP z l m L).2]) ∧ Below w.heap.size w w' := by
  have hb := below_alloc w (.cells #[.slice a1 n1 c1, .slice a2 n2 c2] 33)
  have hf := box_first w (.slice a1 n1 c1) (.slice a2 n2 c2) 33
  have hf2 := box_second w (.slice a1 n1 c1) (.slice a2 n2 c2) 33
  have hsz : w.heap.size < (w.alloc (.cells #[.slice a1 n1 c1, .slice a2 n2 c2] 33)).heap.size := by simp
  have H1 := Lib.hid (h1.below hb)
  have H2 := Lib.hid (h2.below hb)
  have HH := Lib.hid (h.below hb)
  have HS := Lib.hid hS
  have HB := Lib.hid hb
  clear h h1 h2 hS hb
  go_enter Try.func17, Try.ntmps17
  go_wp2_with fail
  generalize w.alloc (.cells #[.slice a1 n1 c1, .slice a2 n2 c2] 33) = W at *
  refine (grp_any a1 a2 n1 c1 n2 c2 l m p n n L W hz1 hz2 (Nat.le_refl _) hn HS.out H1.out H2.out HH.out).mono ?_
  rintro e w1 ⟨rfl, b1⟩
  have g1 := (b1.cell (p := ⟨w.heap.size, 0, none⟩) hsz).trans hf
  have g2 := (b1.cell (p := ⟨w.heap.size, 1, none⟩) hsz).trans hf2
  have hsz1 := Nat.lt_of_lt_of_le hsz b1.size
  have HB1 := Lib.hid (HB.out.trans (b1.mono HB.out.size))
  have B1 := Lib.hid b1
  clear b1 hf hf2
  cases hg : grp l m L with
  | false =>
    have HE := Lib.hid (po_no1 (z := z) hg)
    clear hg
    go_wp2_with fail
    go_ret2
    exact ⟨by rw [HE.out]; rfl, HB1.out⟩
  | true =>
    have HG := Lib.hid hg
    clear hg
    go_wp2_with fail
    refine (Avr.hasContext_any a1 a2 n1 c1 n2 c2 l z w1 hz1 (H1.out.below B1.out) (Idx.good_asc (grp_good HG.out)).1).mono ?_
    rintro e w2 ⟨rfl, b2⟩
    have HB2 := Lib.hid (HB1.out.trans (b2.mono HB1.out.size))
    have HH2 := Lib.hid ((HH.out.below B1.out).below b2)
    clear g1 g2 b2
    cases hi : (isAt l z).isSome with
    | false =>
      have HE := Lib.hid (po_no2 (m := m) (L := L) hi)
      clear hi
      go_wp2_with fail
      go_ret2
      exact ⟨by rw [HE.out]; rfl, HB2.out⟩
    | true =>
      have HE := Lib.hid (po_yes HG.out hi)
      clear hi
      go_wp2_with fail
      refine (place_any z p n n L hn HS.out w2 HH2.out).mono ?_
      rintro e w3 ⟨rfl, b3⟩
      have HB3 := Lib.hid (HB2.out.trans (b3.mono HB2.out.size))
      clear b3
      go_wp2_with fail
      go_ret2
      exact ⟨by rw [HE.out]; rfl, HB3.out⟩
set_option maxRecDepth 100000 in
set_option maxHeartbeats 4000000 in
theorem spec_any (z : Int) (a1 a2 : Option Addr) (n1 c1 n2 c2 : Nat) (l m : Ps) (p : Option Addr) (n : Nat) (L : List Pt) (w : World) (hz1 : n1 ≤ 1048576) (_hz2 : n2 ≤ 1048576) (h1 : Holds w a1 n1 l) (h2 : Holds w a2 n2 m) (hn : n ≤ 1048576) (h : HoldsP w p n L) (hS : Sm L 1048576) :
    Calls Try.prog 16 #[.agg #[.slice a1 n1 c1, .slice a2 n2 c2], .slice p n n, .int .i64 z] w fun e w' => e = .returned (.tuple #[.int .i64 (poP z l m L).1, .bool (poP z l m L).2]) ∧ Below w.heap.size w w' := by
  have hb := below_alloc w (.cells #[.slice a1 n1 c1, .slice a2 n2 c2] 33)
  have hf := box_first w (.slice a1 n1 c1) (.slice a2 n2 c2) 33
  have hf2 := box_second w (.slice a1 n1 c1) (.slice a2 n2 c2) 33
  have hsz : w.heap.size < (w.alloc (.cells #[.slice a1 n1 c1, .slice a2 n2 c2] 33)).heap.size := by simp
  have H1 := Lib.hid (h1.below hb)
  have H2 := Lib.hid (h2.below hb)
  have HH := Lib.hid (h.below hb)
  have HS := Lib.hid hS
  have HB := Lib.hid hb
  clear h h1 h2 hS hb
  go_enter Try.func16, Try.ntmps16
  go_wp2_with fail
  generalize w.alloc (.cells #[.slice a1 n1 c1, .slice a2 n2 c2] 33) = W at *
  refine (l7Good_any a1 a2 n1 c1 n2 c2 l m p n n L W hz1 hn HS.out H1.out H2.out HH.out).mono ?_
  rintro e w1 ⟨rfl, b1⟩
  have g1 := (b1.cell (p := ⟨w.heap.size, 0, none⟩) hsz).trans hf
  have g2 := (b1.cell (p := ⟨w.heap.size, 1, none⟩) hsz).trans hf2
  have HB1 := Lib.hid (HB.out.trans (b1.mono HB.out.size))
  have B1 := Lib.hid b1
  clear b1 hf hf2
  cases hg : grp l m L with
  | false =>
    have HE := Lib.hid (po_no1 (z := z) hg)
    clear hg
    go_wp2_with fail
    go_ret2
    exact ⟨by rw [HE.out]; rfl, HB1.out⟩
  | true =>
    have HG := Lib.hid hg
    clear hg
    go_wp2_with fail
    refine (l2Find_any a1 a2 n1 c1 n2 c2 l z w1 (by omega) (H1.out.below B1.out)).mono ?_
    rintro e w2 ⟨rfl, b2⟩
    have HB2 := Lib.hid (HB1.out.trans (b2.mono HB1.out.size))
    have HH2 := Lib.hid ((HH.out.below B1.out).below b2)
    clear g1 g2 b2
    cases hi : isAt l z with
    | none =>
      have HE := Lib.hid (po_no2 (z := z) (l := l) (m := m) (L := L) (by rw [hi]; rfl))
      rw [find_none hi]
      clear hi
      go_wp2_with fail
      go_ret2
      exact ⟨by rw [HE.out]; rfl, HB2.out⟩
    | some i0 =>
      have HE := Lib.hid (po_yes (z := z) HG.out (by rw [hi]; rfl))
      rw [find_some hi]
      have hi0 : ¬ (i0 : Int) < 0 := by omega
      clear hi
      go_wp2_with fail
      refine (l7Phase_any p n n L z hn HS.out w2 HH2.out).mono ?_
      rintro e w3 ⟨rfl, rfl⟩
      go_wp2_with fail
      go_ret2
      exact ⟨by rw [HE.out]; rfl, HB2.out⟩
theorem good_any (a1 a2 : Option Addr) (n1 c1 n2 c2 : Nat) (l m : Ps) (p : Option Addr) (n : Nat) (L : List Pt) (w : World) (hz1 : n1 ≤ 1048576) (_hz2 : n2 ≤ 1048576) (h1 : Holds w a1 n1 l) (h2 : Holds w a2 n2 m) (hn : n ≤ 1048576) (h : HoldsP w p n L) (hS : Sm L 1048576) :
    Calls Try.prog 10 #[.agg #[.slice a1 n1 c1, .slice a2 n2 c2], .slice p n n] w fun e w' => e = .returned (.bool (grp l m L)) ∧ Below w.heap.size w w' := by
  have hb := below_alloc w (.cells #[.slice a1 n1 c1, .slice a2 n2 c2] 33)
  have hf := box_first w (.slice a1 n1 c1) (.slice a2 n2 c2) 33
  have hf2 := box_second w (.slice a1 n1 c1) (.slice a2 n2 c2) 33
  have H1 := Lib.hid (h1.below hb)
  have H2 := Lib.hid (h2.below hb)
  have HH := Lib.hid (h.below hb)
  have HS := Lib.hid hS
  have HB := Lib.hid hb
  clear h h1 h2 hS hb
  obtain ⟨g, hg⟩ : ∃ g, grp l m L = g := ⟨_, rfl⟩
  rw [hg]
  have HG := Lib.hid hg
  clear hg
  go_enter Try.func10, Try.ntmps10
  go_wp2_with fail
  generalize w.alloc (.cells #[.slice a1 n1 c1, .slice a2 n2 c2] 33) = W at *
  refine (l7Good_any a1 a2 n1 c1 n2 c2 l m p n n L W hz1 hn HS.out H1.out H2.out HH.out).mono ?_
  rintro e w1 ⟨rfl, b1⟩
  rw [HG.out]
  have HB1 := Lib.hid (HB.out.trans (b1.mono HB.out.size))
  clear b1 hf hf2
  go_wp2_with fail
  go_ret
  exact ⟨rfl, HB1.out⟩
end Go.Proofs.Ytbdplgcdnpcnfaa.GpP
