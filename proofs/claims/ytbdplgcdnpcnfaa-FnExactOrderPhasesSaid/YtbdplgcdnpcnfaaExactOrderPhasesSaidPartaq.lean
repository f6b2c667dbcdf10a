/- The program's areMembers, and slices.IndexFunc, ContainsFunc over phases with a closure that answers by a mathematical function; placeOfPhase, shareMembers. -/
import Derived.Test.YtbdplgcdnpcnfaaExactOrderPhasesSaidPartap
import Derived.Laws.EntriesVeiled
import Derived.Test.YtbdplgcdnpcnfaaExactOrderPhasesSaidPartal
import Derived.Test.YtbdplgcdnpcnfaaExactOrderPhasesSaidPartan
import Derived.Test.YtbdplgcdnpcnfaaExactOrderPhasesSaidPartad
namespace Go.Proofs.Ytbdplgcdnpcnfaa.GpC
open Go.RowKit Pairs Rec RecEq Keep GivesI Chain Find2 GoodM Ph GpM GpB
theorem mb_bad1 {l : Ps} {M : List Int} {k : Nat} {x : Int} (hx : M[k]? = some x) (h : x ∉ keys l) : mb l M = false := mb_no fun m => h (m.2.2 x (List.mem_of_getElem? hx))
theorem mb_bad2 {l : Ps} {M : List Int} {k : Nat} {x y : Int} (hx : M[k + 1]? = some x) (hy : M[k]? = some y) (h : ¬ y < x) : mb l M = false := mb_no fun m => h (m.2.1 k y x hy hx)
def Mk (l : Ps) (M : List Int) (k : Nat) : Prop := ∀ i x, i < k → M[i]? = some x → x ∈ keys l ∧ ∀ y, 0 < i → M[i - 1]? = some y → y < x
theorem Mk.next {l : Ps} {M : List Int} {k : Nat} {x : Int} (h : Mk l M k) (hx : M[k]? = some x) (hr : x ∈ keys l) (hu : ∀ y, 0 < k → M[k - 1]? = some y → y < x) : Mk l M (k + 1) := fun i z hi hz => by
  by_cases e : i = k
  · subst e
    rw [hx] at hz
    injection hz with hz
    subst hz
    exact ⟨hr, hu⟩
  · exact h i z (by omega) hz
theorem mb_of {l : Ps} {M : List Int} (h : Mk l M M.length) (h0 : 0 < M.length) : mb l M = true := by
  refine mb_yes ⟨fun e => by rw [e] at h0; simp at h0, fun i x y hx hy => ?_, fun x hx => ?_⟩
  · exact (h (i + 1) y (List.getElem?_eq_some_iff.1 hy).1 hy).2 x (by omega) (by rw [Nat.add_sub_cancel]; exact hx)
  · obtain ⟨i, hi, e⟩ := List.getElem_of_mem hx
    exact (h i x hi (by rw [List.getElem?_eq_getElem hi, e])).1
theorem is_key {l : Ps} {x : Int} {b : Bool} (h : (isAt l x).isSome = b) : b = true ↔ x ∈ keys l := by rw [← h]; exact isAt_keys
set_option maxRecDepth 100000 in
set_option maxHeartbeats 4000000 in
theorem areMembers_any (a1 a2 : Option Addr) (n1 c1 n2 c2 : Nat) (l : Ps) (p : Option Addr) (j c : Nat) (M : List Int) (w : World) (hz : n1 ≤ 1048576) (hA : Asc l) (hj : j ≤ 1048576) (h1 : Holds w a1 n1 l) (h : HoldsI w p j M) :
    Calls Try.prog 74 #[.agg #[.slice a1 n1 c1, .slice a2 n2 c2], .slice p j c] w fun e w' => e = .returned (.bool (mb l M)) ∧ Below w.heap.size w w' := by
  have hb := below_alloc w (.cells #[.slice a1 n1 c1, .slice a2 n2 c2] 33)
  have hf := box_first w (.slice a1 n1 c1) (.slice a2 n2 c2) 33
  have hf2 := box_second w (.slice a1 n1 c1) (.slice a2 n2 c2) 33
  have hsz : w.heap.size < (w.alloc (.cells #[.slice a1 n1 c1, .slice a2 n2 c2] 33)).heap.size := by simp
  have H1 := Lib.hid (h1.below hb)
  have HH := Lib.hid (h.below hb)
  have HL := Lib.hid h.1
  have HA := Lib.hid hA
  have F1 := Lib.hid hf
  have F2 := Lib.hid hf2
  have HB := Lib.hid hb
  clear h h1 hA hb
  go_enter Try.func74, Try.ntmps74
  go_wp2_with fail
  clear hf hf2
  generalize w.alloc (.cells #[.slice a1 n1 c1, .slice a2 n2 c2] 33) = W at *
  go_loopw [9] (fun s9 wr => ∃ k : Nat, k ≤ j ∧ s9 = .int .i64 k ∧ Hid (Mk l M k) ∧ Hid (Below W.heap.size W wr)) (fun s9 _ => j - (intOf s9).toNat)
  case atStart => exact ⟨0, Nat.zero_le _, rfl, fun i x h => by omega, Below.refl _ _⟩
  case round =>
    obtain ⟨k, hk, rfl, HP, HR⟩ := hrel
    by_cases hlt : k < j
    · obtain ⟨b, off, x, rfl, hx, e1⟩ := (HH.out.below HR.out).at k hlt
      have HX := Lib.hid hx
      have hki : (k : Int) < (j : Int) := by omega
      have hk0 : (0 : Int) ≤ (k : Int) := by omega
      have g1 := (HR.out.cell (p := ⟨w.heap.size, 0, none⟩) hsz).trans F1.out
      have g2 := (HR.out.cell (p := ⟨w.heap.size, 1, none⟩) hsz).trans F2.out
      have hcall := Avr.hasContext_any a1 a2 n1 c1 n2 c2 l x wr hz (H1.out.below HR.out) HA.out
      clear hx
      cases hf : (isAt l x).isSome with
      | false =>
        have HN := Lib.hid (mb_bad1 (l := l) HX.out (fun h => by have := isAt_keys.2 h; rw [hf] at this; cases this))
        rw [hf] at hcall
        clear hf
        have HC := Lib.hid hcall
        clear hcall
        go_wp2_with fail
        refine HC.out.mono ?_
        rintro e w2 ⟨rfl, b2⟩
        have HB2 := Lib.hid (HB.out.trans ((HR.out.trans (b2.mono HR.out.size)).mono HB.out.size))
        clear b2 g1 g2 e1
        go_wp2_with fail
        go_ret
        exact ⟨by rw [HN.out]; rfl, HB2.out⟩
      | true =>
        have HK : Hid (x ∈ keys l) := isAt_keys.1 hf
        rw [hf] at hcall
        clear hf
        have HC := Lib.hid hcall
        clear hcall
        by_cases hz0 : k = 0
        · have HP2 := Lib.hid (HP.out.next HX.out HK.out (fun y h => by omega))
          subst hz0
          rw [Nat.add_zero] at e1
          have hn0 : (0 : Int) < (j : Int) := by omega
          clear hki hk0
          go_wp2_with fail
          refine HC.out.mono ?_
          rintro e w2 ⟨rfl, b2⟩
          have HB2 := Lib.hid (HR.out.trans (b2.mono HR.out.size))
          clear b2 g1 g2 e1
          go_wp2_with fail
          exact ⟨⟨0 + 1, by omega, by go_num, HP2, HB2⟩, by simp [intOf]; omega⟩
        · obtain ⟨k, rfl⟩ : ∃ i, k = i + 1 := ⟨k - 1, by omega⟩
          obtain ⟨b3, off3, y, hb, hy, e2⟩ := (HH.out.below HR.out).at k (by omega)
          injection hb with hb
          injection hb with hb1 hb2
          subst hb1 hb2
          have HY := Lib.hid hy
          have E2 := Lib.hid e2
          have hw1 : wrap64 (((k + 1 : Nat) : Int) - 1) = (k : Int) := by unfold wrap64; omega
          have hkp : (0 : Int) < ((k + 1 : Nat) : Int) := by omega
          clear hy e2
          by_cases hyx : y < x
          · have HP2 := Lib.hid (HP.out.next HX.out HK.out (fun z _ hz => by rw [Nat.add_sub_cancel, HY.out] at hz; injection hz with hz; rw [← hz]; exact hyx))
            go_wp2_with fail
            refine HC.out.mono ?_
            rintro e w2 ⟨rfl, b2⟩
            have e3 := (b2.cell (World.block_lt_of_cell? _ _ E2.out)).trans E2.out
            have HB2 := Lib.hid (HR.out.trans (b2.mono HR.out.size))
            have hyx' : ¬ x ≤ y := by omega
            clear b2 g1 g2 e1
            go_wp2_with fail
            exact ⟨⟨k + 1 + 1, by omega, by go_num, HP2, HB2⟩, by simp [intOf]; omega⟩
          · have HN := Lib.hid (mb_bad2 (l := l) HX.out HY.out hyx)
            go_wp2_with fail
            refine HC.out.mono ?_
            rintro e w2 ⟨rfl, b2⟩
            have e3 := (b2.cell (World.block_lt_of_cell? _ _ E2.out)).trans E2.out
            have HB2 := Lib.hid (HB.out.trans ((HR.out.trans (b2.mono HR.out.size)).mono HB.out.size))
            have hyx' : x ≤ y := by omega
            clear b2 g1 g2 e1
            go_wp2_with fail
            go_ret
            exact ⟨by rw [HN.out]; rfl, HB2.out⟩
    · obtain rfl : k = j := by omega
      have hki : ¬ (k : Int) < (k : Int) := by omega
      have HB2 := Lib.hid (HB.out.trans (HR.out.mono HB.out.size))
      by_cases h0 : 0 < k
      · have h0' : (0 : Int) < (k : Int) := by omega
        have HN := Lib.hid (mb_of (l := l) (M := M) (by rw [HL.out]; exact HP.out) (by rw [HL.out]; exact h0))
        go_wp2_with fail
        go_ret
        exact ⟨by rw [HN.out]; rfl, HB2.out⟩
      · have h0' : ¬ (0 : Int) < (k : Int) := by omega
        have HN : Hid (mb l M = false) := mb_no fun m => m.1 (List.length_eq_zero_iff.1 (by rw [HL.out]; omega))
        go_wp2_with fail
        go_ret
        exact ⟨by rw [HN.out]; rfl, HB2.out⟩
def IxP (q : Pt → Bool) (L : List Pt) (i : Int) : Prop := (L.any q = true → ∃ k : Nat, i = (k : Int) ∧ L.findIdx? q = some k) ∧ (L.any q = false → i = -1)
set_option maxRecDepth 100000 in
set_option maxHeartbeats 4000000 in
theorem indexP_any (f : FuncId) (bs : Array Value) (q : Pt → Bool) (a : Option Addr) (n c : Nat) (L : List Pt) (w : World) (hn : n ≤ 1048576) (h1 : HoldsP w a n L)
    (hcall : ∀ (args : Array Value) (W : World), (callFunc f args).run Try.prog W = .ok (.enter f args) W)
    (hf : ∀ s M p j d wr, (s, M) ∈ L → Below w.heap.size w wr → HoldsI wr p j M → Calls Try.prog f (#[.agg #[.string s, .slice p j d]] ++ bs) wr fun e w' => e = .returned (.bool (q (s, M))) ∧ Below wr.heap.size wr w') :
    Calls Try.prog 79 #[.slice a n c, .func (.func f) #[] bs] w fun e w' => ∃ i : Int, e = .returned (.int .i64 i) ∧ IxP q L i ∧ Below w.heap.size w w' := by
  have H1 := Lib.hid h1
  have HL1 := Lib.hid h1.1
  have HF := Lib.hid hf
  have HC := Lib.hid hcall
  clear h1 hf hcall
  go_enter Try.func79, Try.ntmps79
  go_wp2_with fail
  go_loopw [8] (fun s8 wr => ∃ k : Nat, k ≤ n ∧ s8 = .int .i64 k ∧ Hid (∀ j y, j < k → L[j]? = some y → q y = false) ∧ Hid (Below w.heap.size w wr)) (fun s8 _ => n - (intOf s8).toNat)
  case atStart => exact ⟨0, Nat.zero_le _, rfl, fun j y hj _ => by omega, Below.refl _ _⟩
  case round =>
    obtain ⟨k, hk, rfl, HP, HR⟩ := hrel
    by_cases hlt : k < n
    · obtain ⟨b, off, s, M, p, j, d, rfl, hx, e1, e2, hM⟩ := (H1.out.below HR.out).at k hlt
      have HX := Lib.hid hx
      have HM := Lib.hid hM
      have hkn : (k : Int) < (n : Int) := by omega
      have hk0 : (0 : Int) ≤ (k : Int) := by omega
      clear hx hM
      go_wp2_with fail
      rw [HC.out, Oper.upon_enter]
      refine (HF.out s M p j d _ (List.mem_of_getElem? HX.out) HR.out HM.out).mono ?_
      rintro e w8 ⟨rfl, b8⟩
      have HR8 := Lib.hid (HR.out.trans (b8.mono HR.out.size))
      clear b8 e1 e2
      cases hq : q (s, M) with
      | true =>
        have HA : Hid (L.findIdx? q = some k) := by
          unfold Hid
          rw [List.findIdx?_eq_some_iff_getElem]
          obtain ⟨hkl, hxe⟩ := List.getElem?_eq_some_iff.1 HX.out
          refine ⟨hkl, by rw [hxe]; exact hq, fun j hj => ?_⟩
          rw [HP.out j _ hj (List.getElem?_eq_getElem (by omega))]
          simp
        have HB : Hid (L.any q = true) := List.any_eq_true.2 ⟨_, List.mem_of_getElem? HX.out, hq⟩
        clear hq
        go_wp2_with fail
        go_ret
        exact ⟨_, rfl, ⟨fun _ => ⟨k, rfl, HA.out⟩, fun h => absurd (h.symm.trans HB.out) Bool.false_ne_true⟩, HR8.out⟩
      | false =>
        have HP2 : Hid (∀ j y, j < k + 1 → L[j]? = some y → q y = false) := fun j y hj hy => by
          by_cases e : j = k
          · subst e
            have h := HX.out
            rw [hy] at h
            injection h with h
            rw [h]
            exact hq
          · exact HP.out j y (by omega) hy
        clear hq
        go_wp2_with fail
        exact ⟨⟨k + 1, by omega, by go_num, HP2, HR8⟩, by simp [intOf]; omega⟩
    · obtain rfl : k = n := by omega
      have hkn : ¬ (k : Int) < (k : Int) := by omega
      have HQ : Hid (L.any q = false) := by
        unfold Hid
        rw [List.any_eq_false]
        intro x hx
        obtain ⟨j, hj, e⟩ := List.getElem_of_mem hx
        rw [HP.out j x (by rw [← HL1.out]; exact hj) (by rw [List.getElem?_eq_getElem hj, e])]
        simp
      go_wp2_with fail
      go_ret
      exact ⟨_, rfl, ⟨fun h => absurd (HQ.out.symm.trans h) Bool.false_ne_true, fun _ => rfl⟩, HR.out⟩
set_option maxRecDepth 100000 in
set_option maxHeartbeats 4000000 in
theorem containsP_any (f : FuncId) (bs : Array Value) (q : Pt → Bool) (a : Option Addr) (n c : Nat) (L : List Pt) (w : World) (hn : n ≤ 1048576) (h1 : HoldsP w a n L)
    (hcall : ∀ (args : Array Value) (W : World), (callFunc f args).run Try.prog W = .ok (.enter f args) W)
    (hf : ∀ s M p j d wr, (s, M) ∈ L → Below w.heap.size w wr → HoldsI wr p j M → Calls Try.prog f (#[.agg #[.string s, .slice p j d]] ++ bs) wr fun e w' => e = .returned (.bool (q (s, M))) ∧ Below wr.heap.size wr w') :
    Calls Try.prog 75 #[.slice a n c, .func (.func f) #[] bs] w fun e w' => e = .returned (.bool (L.any q)) ∧ Below w.heap.size w w' := by
  have HI := Lib.hid (indexP_any f bs q a n c L w hn h1 hcall hf)
  clear hcall hf h1
  obtain ⟨qq, hqq⟩ : ∃ qq, L.any q = qq := ⟨_, rfl⟩
  rw [hqq]
  have HQQ := Lib.hid hqq
  clear hqq
  go_enter Try.func75, Try.ntmps75
  go_wp2_with fail
  refine HI.out.mono ?_
  rintro e w1 ⟨i, rfl, hi, b1⟩
  have HB := Lib.hid b1
  clear b1
  cases qq with
  | true =>
    obtain ⟨k, rfl, _⟩ := hi.1 HQQ.out
    have h0 : (0 : Int) ≤ (k : Int) := by omega
    go_wp2_with fail
    go_ret
    exact ⟨rfl, HB.out⟩
  | false =>
    obtain rfl := hi.2 HQQ.out
    go_wp2_with fail
    go_ret
    exact ⟨rfl, HB.out⟩
theorem two_le (w : World) (o1 o2 : Obj) : w.heap.size + 2 = ((w.alloc o1).alloc o2).heap.size := by simp
/-- Is z a member of the phase in the box bx? -/
theorem share1_any (z : Int) (bx : Nat) (p : Option Addr) (j c : Nat) (M : List Int) (hj : j ≤ 1048576) (w : World) (e2 : w.cell? ⟨bx, 1, none⟩ = some (.slice p j c)) (h : HoldsI w p j M) :
    Calls Try.prog 96 #[.int .i64 z, .pointer (some ⟨bx, 0, none⟩)] w fun e w' => e = .returned (.bool (inM M z)) ∧ Below w.heap.size w w' := by
  have HH := Lib.hid h
  clear h
  go_enter Try.func96, Try.ntmps96
  go_wp2_with fail
  refine (contains_any p j c M z hj _ HH.out).mono ?_
  rintro e w' ⟨rfl, rfl⟩
  go_wp2_with fail
  go_ret
  exact ⟨rfl, Below.refl _ _⟩
set_option maxHeartbeats 1000000 in
theorem share_any (s1 s2 : ByteArray) (p1 p2 : Option Addr) (j1 j2 d1 d2 : Nat) (M1 M2 : List Int) (hj1 : j1 ≤ 1048576) (hj2 : j2 ≤ 1048576) (w : World) (h1 : HoldsI w p1 j1 M1) (h2 : HoldsI w p2 j2 M2) :
    Calls Try.prog 72 #[.agg #[.string s1, .slice p1 j1 d1], .agg #[.string s2, .slice p2 j2 d2]] w fun e w' => e = .returned (.bool (M1.any (fun z => inM M2 z))) ∧ Below w.heap.size w w' := by
  obtain ⟨hs, x1, x2, y1, y2, hb0⟩ := boxes2 w (.string s1) (.slice p1 j1 d1) (.string s2) (.slice p2 j2 d2) 57 57
  have H1 := Lib.hid (h1.below hb0)
  have H2 := Lib.hid (h2.below hb0)
  have HB := Lib.hid hb0
  have HS := Lib.hid hs
  have Y2 := Lib.hid y2
  clear h1 h2 hb0 hs
  generalize hq : M1.any (fun z => inM M2 z) = q
  have HQ := Lib.hid hq
  clear hq
  go_enter Try.func72, Try.ntmps72
  go_wp2_with fail
  generalize (w.alloc (.cells #[.string s1, .slice p1 j1 d1] 57)).alloc (.cells #[.string s2, .slice p2 j2 d2] 57) = W at *
  refine (FuncI.contains_any 96 #[.pointer (some ⟨w.heap.size + 1, 0, none⟩)] (fun z => inM M2 z) p1 j1 d1 M1 W hj1 H1.out (fun args W => FuncI.call_enter Try.func96 (by kernel_rfl) rfl args W) (fun z wr _ hwr => ?_)).mono ?_
  · exact share1_any z (w.heap.size + 1) p2 j2 d2 M2 hj2 wr ((hwr.cell (p := ⟨w.heap.size + 1, 1, none⟩) (by show w.heap.size + 1 < _; rw [HS.out]; omega)).trans Y2.out) (H2.out.below hwr)
  rintro e w2 ⟨rfl, b2⟩
  rw [HQ.out]
  have HB2 := Lib.hid (HB.out.trans (b2.mono HB.out.size))
  clear x1 x2 y1 y2 b2
  go_wp2_with fail
  go_ret
  exact ⟨rfl, HB2.out⟩
/-- Does the phase q collide with that in the box bx? -/
theorem col1_any (bx : Nat) (sq sp : ByteArray) (pq pp : Option Addr) (jq jp dq dp : Nat) (Q M : List Int) (hjq : jq ≤ 1048576) (hjp : jp ≤ 1048576) (w : World) (e1 : w.cell? ⟨bx, 0, none⟩ = some (.string sp)) (e2 : w.cell? ⟨bx, 1, none⟩ = some (.slice pp jp dp)) (hq : HoldsI w pq jq Q) (hp : HoldsI w pp jp M) :
    Calls Try.prog 71 #[.agg #[.string sq, .slice pq jq dq], .pointer (some ⟨bx, 0, none⟩)] w fun e w' => e = .returned (.bool (col (sp, M) (sq, Q))) ∧ Below w.heap.size w w' := by
  have hb := below_alloc w (.cells #[.string sq, .slice pq jq dq] 57)
  have u1 := box_first w (.string sq) (.slice pq jq dq) 57
  have u2 := box_second w (.string sq) (.slice pq jq dq) 57
  have hlt := World.block_lt_of_cell? w _ e1
  have g1 := (hb.cell (p := ⟨bx, 0, none⟩) hlt).trans e1
  have g2 := (hb.cell (p := ⟨bx, 1, none⟩) hlt).trans e2
  have HQ := Lib.hid (hq.below hb)
  have HP := Lib.hid (hp.below hb)
  have HB := Lib.hid hb
  clear hq hp hb e1 e2 hlt
  go_enter Try.func71, Try.ntmps71
  by_cases hs : sq = sp
  · subst hs
    have HR : Hid (col (sq, M) (sq, Q) = true) := by unfold Hid col; simp
    go_wp2_with fail
    go_ret
    exact ⟨by rw [HR.out]; rfl, HB.out⟩
  · have hne := GpA.str_ne hs
    have HR : Hid (col (sp, M) (sq, Q) = M.any (fun z => inM Q z)) := by unfold Hid col; simp [hs]
    clear hs
    go_wp2_with fail
    generalize w.alloc (.cells #[.string sq, .slice pq jq dq] 57) = W at *
    refine (share_any sp sq pp pq jp jq dp dq M Q hjp hjq W HP.out HQ.out).mono ?_
    rintro e w2 ⟨rfl, b2⟩
    have HB2 := Lib.hid (HB.out.trans (b2.mono HB.out.size))
    generalize hqq : M.any (fun z => inM Q z) = qq at *
    have HQQ := Lib.hid hqq
    clear hqq u1 u2 g1 g2 b2
    go_wp2_with fail
    go_ret
    exact ⟨by rw [HR.out]; rfl, HB2.out⟩
end Go.Proofs.Ytbdplgcdnpcnfaa.GpC
/- The program's contextsThat: the contexts that meet a condition. -/
namespace Go.Proofs.Ytbdplgcdnpcnfaa.That
open Go.RowKit Pairs Rec Chain Find2 Keep GivesI
theorem call_enter {f : FuncId} {fn : Func} {c : Code} (hf : Try.prog.funcs[f]? = some fn) (hname : (fn.name == "runtime.NumGoroutine") = false) (hb : fn.body = some c) (args : Array Value) (w : World) :
    (callFunc f args).run Try.prog w = .ok (.enter f args) w := by
  have h1 : fn.name ≠ "runtime.NumGoroutine" := by simpa using hname
  simp [callFunc, hf, h1, hb]
theorem belA {W X : World} (h : Below W.heap.size W X) (o : Obj) : Below W.heap.size W (X.alloc o) := h.alloc h.size o
def sel (q : Int → Bool) (l : List (Int × Int)) : List Int := (l.filter (fun p => q p.1)).map (·.1)
theorem sel_next (q : Int → Bool) {l : List (Int × Int)} {k : Nat} {x y : Int} (hx : l[k]? = some (x, y)) : sel q (l.take (k + 1)) = sel q (l.take k) ++ (if q x = true then [x] else []) := by
  unfold sel
  rw [List.take_add_one, hx]
  simp only [Option.toList_some, List.filter_append, List.map_append]
  cases h : q x <;> simp [h]
theorem sel_len (q : Int → Bool) (l : List (Int × Int)) : (sel q l).length ≤ l.length := by unfold sel; rw [List.length_map]; exact List.length_filter_le _ _
theorem ints_append (l1 l2 : List Int) : ints (l1 ++ l2) = ints l1 ++ ints l2 := by unfold ints; rw [List.map_append]
theorem empty_own {T : TypeId} (w : World) : (w.alloc (.cells #[] T)).ownsRow w.heap.size T 1 (.slice (some ⟨w.heap.size, 0, none⟩) 0 0) 0 [] :=
  World.ownsRow_made w #[] 0 (Nat.le_refl _) (by unfold maxLen; omega) (by simp)
theorem infoInt : (Try.prog.info? 3).map (fun i => (i.zero, i.size, i.bytes)) = some (some (.int .i64 0), 1, 8) := by kernel_rfl
/-- A list of its own. -/
def ResL (L : List Int) (w : World) (e : Ending) (w' : World) : Prop :=
  ∃ (p : Option Addr) (k d : Nat), e = .returned (.slice p k d) ∧ w'.ownsRow w.heap.size 3 1 (.slice p k d) k (ints L) ∧ k ≤ 1048576 ∧ Below w.heap.size w w'
def G1 (B : Nat) (w wr : World) (v : Value) (L : List Int) : Prop := wr.ownsRow B 3 1 v L.length (ints L) ∧ Below B w wr
set_option maxRecDepth 100000 in
set_option maxHeartbeats 4000000 in
theorem that_any (f : FuncId) (bs : Array Value) (q : Int → Bool) (a1 a2 : Option Addr) (n1 c1 n2 c2 : Nat) (l : List (Int × Int)) (w : World) (hn : n1 ≤ 10) (h1 : Holds w a1 n1 l)
    (hcall : ∀ (args : Array Value) (W : World), (callFunc f args).run Try.prog W = .ok (.enter f args) W)
    (hf : ∀ x wr, x ∈ keys l → Below w.heap.size w wr → Calls Try.prog f (#[.int .i64 x] ++ bs) wr fun e w' => e = .returned (.bool (q x)) ∧ Below wr.heap.size wr w') :
    Calls Try.prog 45 #[.agg #[.slice a1 n1 c1, .slice a2 n2 c2], .func (.func f) #[] bs] w (ResL (sel q l) w) := by
  obtain ⟨i0, hi, hy0, hy1, hy2⟩ := info_parts infoInt
  have hb := below_alloc w (.cells #[.slice a1 n1 c1, .slice a2 n2 c2] 33)
  have hf1 := box_first w (.slice a1 n1 c1) (.slice a2 n2 c2) 33
  have H1 := Lib.hid (h1.below hb)
  have HL1 := Lib.hid h1.1
  have HF := Lib.hid hf
  have HC := Lib.hid hcall
  have hsz : w.heap.size < (w.alloc (.cells #[.slice a1 n1 c1, .slice a2 n2 c2] 33)).heap.size := by simp
  have hWe : (w.alloc (.cells #[.slice a1 n1 c1, .slice a2 n2 c2] 33)).heap.size = w.heap.size + 1 := by simp
  have HWE := Lib.hid hWe
  clear h1 hf hWe hcall
  go_enter Try.func45, Try.ntmps45
  go_wp2_with fail
  generalize w.alloc (.cells #[.slice a1 n1 c1, .slice a2 n2 c2] 33) = W0 at *
  have he0 := below_alloc W0 (.cells #[] 3)
  have ho0 := empty_own (T := 3) W0
  have hS1 : (W0.alloc (.cells #[] 3)).heap.size = W0.heap.size + 1 := by simp
  have HB := Lib.hid hb
  have HG0 : Hid (G1 W0.heap.size W0 (W0.alloc (.cells #[] 3)) (.slice (some ⟨w.heap.size + 1, 0, none⟩) 0 0) (sel q (l.take 0))) := by
    rw [← HWE.out]
    exact ⟨ho0, he0⟩
  clear hb ho0 he0
  generalize W0.alloc (.cells #[] 3) = W1 at *
  go_loopw [5, 12] (fun s5 s12 wr => ∃ k : Nat, k ≤ n1 ∧ s12 = .int .i64 k ∧ Hid (G1 W0.heap.size W0 wr s5 (sel q (l.take k)))) (fun _ s12 _ => n1 - (intOf s12).toNat)
  case atStart => exact ⟨0, Nat.zero_le _, rfl, HG0⟩
  case round =>
    obtain ⟨k, hk, rfl, HR⟩ := hrel
    clear HG0
    by_cases hlt : k < n1
    · obtain ⟨b, off, x, y, rfl, hx, e1, e2⟩ := (H1.out.below HR.out.2).at k hlt
      have HX := Lib.hid (sel_next q hx)
      have hkn : (k : Int) < (n1 : Int) := by omega
      have hb7 := below_alloc wr (.cells #[.int .i64 x, .int .i64 y] 66)
      have u1 := box_first wr (.int .i64 x) (.int .i64 y) 66
      have u2' := box_second wr (.int .i64 x) (.int .i64 y) 66
      have hz7 : wr.heap.size < (wr.alloc (.cells #[.int .i64 x, .int .i64 y] 66)).heap.size := by simp
      have hBs : W0.heap.size ≤ wr.heap.size := HR.out.2.size
      have hfl := sel_len q (l.take k)
      rw [List.length_take] at hfl
      have HXK : Hid (x ∈ keys l) := List.mem_map.2 ⟨(x, y), List.mem_of_getElem? hx, rfl⟩
      have HB7 := Lib.hid (HB.out.trans ((HR.out.2.trans (hb7.mono hBs)).mono HB.out.size))
      have HW7 := Lib.hid (HR.out.2.trans (hb7.mono hBs))
      have HO7 := Lib.hid (ownsRow_below HR.out.1 hb7)
      clear hx hb7
      go_wp2_with fail
      generalize wr.alloc (.cells #[.int .i64 x, .int .i64 y] 66) = W7 at *
      clear e1 e2
      rw [HC.out, Oper.upon_enter]
      refine (HF.out x W7 HXK.out HB7.out).mono ?_
      rintro e w8 ⟨rfl, b8⟩
      have hown := ownsRow_below HO7.out b8
      have v1 := (b8.cell (p := ⟨wr.heap.size, 0, none⟩) hz7).trans u1
      have HB8 := Lib.hid (HW7.out.trans (b8.mono (Nat.le_trans hBs (Nat.le_of_lt hz7))))
      have hw8 := HB8.out.size
      clear u1 u2' b8
      cases hq : q x with
      | true =>
        have HX2 : Hid (sel q (l.take (k + 1)) = sel q (l.take k) ++ [x]) := by unfold Hid; rw [HX.out, if_pos hq]
        clear HX hq
        go_wp2_with (at_builtin; refine wpList_append_own _ rfl _ _ 43 rfl W0.heap.size 3 i0 (.int .i64 0) 1 8 Try.underlying43 hi hy0 hy1 hy2 rfl (by decide) _ _ _ rfl (hown.alloc _) ⟨w8.heap.size, 0, none⟩ 1 1 [.int .i64 x] rfl rfl (cell_one_new _ _ _) (by simp [Value.oneCell']) (by unfold maxLen; omega) (by omega) (by simp; omega) ?_; intro v' w9 hown' hgrow hnil)
        have hG : G1 W0.heap.size W0 w9 v' (sel q (l.take (k + 1))) := by
          unfold G1
          rw [HX2.out, List.length_append, ints_append]
          exact ⟨hown', (HB8.out.alloc hw8 _).grown hgrow (by simp; omega) (fun j hj => (hown.lt j hj).1)⟩
        have HG := Lib.hid hG
        clear hG hown' hgrow hown hnil
        exact ⟨⟨k + 1, by omega, by go_num, HG⟩, by simp [intOf]; omega⟩
      | false =>
        have HX2 : Hid (sel q (l.take (k + 1)) = sel q (l.take k)) := by unfold Hid; rw [HX.out, if_neg (by rw [hq]; simp), List.append_nil]
        have hG : G1 W0.heap.size W0 w8 u5 (sel q (l.take (k + 1))) := by
          unfold G1
          rw [HX2.out]
          exact ⟨hown, HB8.out⟩
        have HG := Lib.hid hG
        clear hG hown hq HX
        go_wp2_with fail
        exact ⟨⟨k + 1, by omega, by go_num, HG⟩, by simp [intOf]; omega⟩
    · obtain rfl : k = n1 := by omega
      have hkn : ¬ (k : Int) < (k : Int) := by omega
      have hown := HR.out.1
      rw [List.take_of_length_le (by rw [HL1.out]; exact Nat.le_refl _)] at hown
      have hfl := sel_len q l
      rw [HL1.out] at hfl
      have HBD := Lib.hid (HB.out.trans (HR.out.2.mono HB.out.size))
      have HO := Lib.hid hown
      obtain ⟨p, d, rfl⟩ := From.own_form hown
      clear hown
      go_wp2_with fail
      go_ret
      exact ⟨_, _, _, rfl, ownsRow_base HO.out HB.out.size, by omega, HBD.out⟩
end Go.Proofs.Ytbdplgcdnpcnfaa.That
