/- The program's IsConsistent and the model's l4Consistent. -/
import Derived.Test.YtbdplgcdnpcnfaaExactOrderPhasesSaidPartaq
import Derived.Test.YtbdplgcdnpcnfaaExactOrderPhasesSaidPartan
import Derived.Laws.EntriesVeiled
namespace Go.Proofs.Ytbdplgcdnpcnfaa.Consist
open Go.RowKit Pairs Rec Chain Find2 GoodM Keep GivesI Lows Order Bit Table Idx That IsLater
theorem num_at {l m : List (Int × Int)} (hg : good l m = true) {x y : Int} {i : Nat} (hx : l[i]? = some (x, y)) : isAt l x = some i := by
  have hA := (good_asc hg).1
  have hil := (List.getElem?_eq_some_iff.1 hx).1
  have e : (isAt l x).isSome = true := isAt_keys.2 (List.mem_map.2 ⟨(x, y), List.mem_of_getElem? hx, rfl⟩)
  obtain ⟨j, hj⟩ := Option.isSome_iff_exists.1 e
  obtain ⟨y2, hy2⟩ := isAt_num hj
  rcases Nat.lt_trichotomy j i with h | h | h
  · have := hA.lt (i - j - 1) j (x, y2) (x, y) hy2 (by rw [show j + (i - j - 1) + 1 = i by omega]; exact hx)
    simp at this
  · rw [hj, h]
  · have := hA.lt (j - i - 1) i (x, y) (x, y2) hx (by rw [show i + (j - i - 1) + 1 = j by omega]; exact hy2)
    simp at this
theorem tk_any (q : Int × Int → Bool) {l : List (Int × Int)} {k : Nat} {p : Int × Int} (hx : l[k]? = some p) (h : (l.take k).any q = false) : (l.take (k + 1)).any q = q p := by
  rw [List.take_add_one, hx, List.any_append, h]
  simp
theorem any_hit (q : Int × Int → Bool) {l : List (Int × Int)} {k : Nat} {p : Int × Int} (hx : l[k]? = some p) (h : q p = true) : l.any q = true :=
  List.any_eq_true.2 ⟨p, List.mem_of_getElem? hx, h⟩
def IxAns (b : Bool) (w : World) (e : Ending) (w' : World) : Prop := ∃ i : Int, e = .returned (.int .i64 i) ∧ (b = false → i = -1) ∧ (b = true → 0 ≤ i) ∧ Below w.heap.size w w'
set_option maxRecDepth 100000 in
set_option maxHeartbeats 4000000 in
theorem index_any (f : FuncId) (bs : Array Value) (q : Int × Int → Bool) (a1 : Option Addr) (n1 c1 : Nat) (l : List (Int × Int)) (w : World) (hn : n1 ≤ 10) (h1 : Holds w a1 n1 l)
    (hcall : ∀ (args : Array Value) (W : World), (callFunc f args).run Try.prog W = .ok (.enter f args) W)
    (hf : ∀ x y wr, (x, y) ∈ l → Below w.heap.size w wr → Calls Try.prog f (#[.agg #[.int .i64 x, .int .i64 y]] ++ bs) wr fun e w' => e = .returned (.bool (q (x, y))) ∧ Below wr.heap.size wr w') :
    Calls Try.prog 95 #[.slice a1 n1 c1, .func (.func f) #[] bs] w (IxAns (l.any q) w) := by
  have H1 := Lib.hid h1
  have HL1 := Lib.hid h1.1
  have HF := Lib.hid hf
  have HC := Lib.hid hcall
  clear h1 hf hcall
  go_enter Try.func95, Try.ntmps95
  go_wp2_with fail
  go_loopw [8] (fun s8 wr => ∃ k : Nat, k ≤ n1 ∧ s8 = .int .i64 k ∧ Hid ((l.take k).any q = false) ∧ Hid (Below w.heap.size w wr)) (fun s8 _ => n1 - (intOf s8).toNat)
  case atStart => exact ⟨0, Nat.zero_le _, rfl, rfl, Below.refl _ _⟩
  case round =>
    obtain ⟨k, hk, rfl, HP, HR⟩ := hrel
    by_cases hlt : k < n1
    · obtain ⟨b, off, x, y, rfl, hx, e1, e2⟩ := (H1.out.below HR.out).at k hlt
      have HX := Lib.hid hx
      have hkn : (k : Int) < (n1 : Int) := by omega
      have hk0 : (0 : Int) ≤ (k : Int) := by omega
      clear hx
      go_wp2_with fail
      rw [HC.out, Oper.upon_enter]
      refine (HF.out x y _ (List.mem_of_getElem? HX.out) HR.out).mono ?_
      rintro e w8 ⟨rfl, b8⟩
      have HR8 := Lib.hid (HR.out.trans (b8.mono HR.out.size))
      clear b8 e1 e2
      cases hq : q (x, y) with
      | true =>
        have HA := Lib.hid (any_hit q HX.out hq)
        clear hq
        go_wp2_with fail
        go_ret
        exact ⟨_, rfl, fun h => (by rw [HA.out] at h; cases h), fun _ => hk0, HR8.out⟩
      | false =>
        have HP2 : Hid ((l.take (k + 1)).any q = false) := by unfold Hid; rw [tk_any q HX.out HP.out, hq]
        clear hq
        go_wp2_with fail
        exact ⟨⟨k + 1, by omega, by go_num, HP2, HR8⟩, by simp [intOf]; omega⟩
    · obtain rfl : k = n1 := by omega
      have hkn : ¬ (k : Int) < (k : Int) := by omega
      have hp := HP.out
      rw [List.take_of_length_le (by rw [HL1.out]; exact Nat.le_refl _)] at hp
      have HQ := Lib.hid hp
      clear hp
      go_wp2_with fail
      go_ret
      exact ⟨_, rfl, fun _ => rfl, fun h => (by rw [HQ.out] at h; cases h), HR.out⟩
set_option maxRecDepth 100000 in
set_option maxHeartbeats 4000000 in
theorem contains_any (f : FuncId) (bs : Array Value) (q : Int × Int → Bool) (a1 : Option Addr) (n1 c1 : Nat) (l : List (Int × Int)) (w : World) (hn : n1 ≤ 10) (h1 : Holds w a1 n1 l)
    (hcall : ∀ (args : Array Value) (W : World), (callFunc f args).run Try.prog W = .ok (.enter f args) W)
    (hf : ∀ x y wr, (x, y) ∈ l → Below w.heap.size w wr → Calls Try.prog f (#[.agg #[.int .i64 x, .int .i64 y]] ++ bs) wr fun e w' => e = .returned (.bool (q (x, y))) ∧ Below wr.heap.size wr w') :
    Calls Try.prog 69 #[.slice a1 n1 c1, .func (.func f) #[] bs] w fun e w' => e = .returned (.bool (l.any q)) ∧ Below w.heap.size w w' := by
  have HI := Lib.hid (index_any f bs q a1 n1 c1 l w hn h1 hcall hf)
  clear hcall hf h1
  go_enter Try.func69, Try.ntmps69
  go_wp2_with fail
  refine HI.out.mono ?_
  rintro e w1 ⟨i, rfl, hi, hi0, b1⟩
  have HB := Lib.hid b1
  clear b1
  cases ha : l.any q with
  | true =>
    have h0 : (0 : Int) ≤ i := hi0 ha
    have HA := Lib.hid ha
    clear hi hi0 ha
    go_wp2_with fail
    go_ret
    exact ⟨by rw [HA.out]; rfl, HB.out⟩
  | false =>
    obtain rfl : i = -1 := hi ha
    have HA := Lib.hid ha
    clear hi hi0 ha
    go_wp2_with fail
    go_ret
    exact ⟨by rw [HA.out]; rfl, HB.out⟩
noncomputable def consP (l m : List (Int × Int)) : Bool × Bool := if good l m = true then (!(l.any fun p => later m p.1 p.1), true) else (false, false)
theorem cons_no {l m : List (Int × Int)} (h : good l m = false) : consP l m = (false, false) := by unfold consP; rw [if_neg (by rw [h]; simp)]
theorem cons_yes {l m : List (Int × Int)} (h : good l m = true) : consP l m = (!(l.any fun p => later m p.1 p.1), true) := by unfold consP; rw [if_pos h]
theorem clos_any (x y : Int) (bo bx : Nat) (l m : Ps) (W : World) (c1 : W.cell? ⟨bo, 0, none⟩ = some (.func (.func 90) #[] #[.pointer (some ⟨bx, 0, none⟩)])) (hbo : bo < W.heap.size) (h : IsOrd W l m bx) (hx : x ∈ keys l) (hrx : -1000000 ≤ x ∧ x ≤ 1000000) :
    Calls Try.prog 70 #[.agg #[.int .i64 x, .int .i64 y], .pointer (some ⟨bo, 0, none⟩)] W fun e w' => e = .returned (.bool (later m x x)) ∧ Below W.heap.size W w' := by
  have hb := below_alloc W (.cells #[.int .i64 x, .int .i64 y] 66)
  have u1 := box_first W (.int .i64 x) (.int .i64 y) 66
  have d1 := (hb.cell (p := ⟨bo, 0, none⟩) hbo).trans c1
  have HI := Lib.hid (h.below hb)
  have HX := Lib.hid hx
  have HB := Lib.hid hb
  clear h hx hb c1
  go_enter Try.func70, Try.ntmps70
  go_wp2_with fail
  generalize W.alloc (.cells #[.int .i64 x, .int .i64 y] 66) = Z at *
  refine (isLater_any bx l m x x Z HI.out HX.out (by omega) (by omega)).mono ?_
  rintro e w' ⟨rfl, rfl⟩
  go_wp2_with fail
  go_ret
  exact ⟨rfl, HB.out⟩
set_option maxRecDepth 100000 in
set_option maxHeartbeats 4000000 in
theorem impl_any (a1 a2 : Option Addr) (n1 c1 n2 c2 : Nat) (l m : List (Int × Int)) (w : World) (hz1 : n1 ≤ 1048576) (hz2 : n2 ≤ 1048576) (h1 : Holds w a1 n1 l) (h2 : Holds w a2 n2 m) :
    Calls Try.prog 36 #[.agg #[.slice a1 n1 c1, .slice a2 n2 c2]] w fun e w' => e = .returned (.tuple #[.bool (consP l m).1, .bool (consP l m).2]) ∧ Below w.heap.size w w' := by
  have hb := below_alloc w (.cells #[.slice a1 n1 c1, .slice a2 n2 c2] 33)
  have hf := box_first w (.slice a1 n1 c1) (.slice a2 n2 c2) 33
  have hf2 := box_second w (.slice a1 n1 c1) (.slice a2 n2 c2) 33
  have H1 := Lib.hid (h1.below hb)
  have H2 := Lib.hid (h2.below hb)
  have HL1 := Lib.hid h1.1
  have hsz : w.heap.size < (w.alloc (.cells #[.slice a1 n1 c1, .slice a2 n2 c2] 33)).heap.size := by simp
  clear h1 h2
  go_enter Try.func36, Try.ntmps36
  go_wp2_with fail
  generalize w.alloc (.cells #[.slice a1 n1 c1, .slice a2 n2 c2] 33) = W at *
  refine (Avr.impl_any a1 a2 n1 c1 n2 c2 l m W hz1 hz2 H1.out H2.out).mono ?_
  rintro e w1 ⟨rfl, b1⟩
  have r1 := (b1.cell (p := ⟨w.heap.size, 0, none⟩) hsz).trans hf
  have r2 := (b1.cell (p := ⟨w.heap.size, 1, none⟩) hsz).trans hf2
  have hsz1 := Nat.lt_of_lt_of_le hsz b1.size
  have HB1 := Lib.hid (hb.trans (b1.mono hb.size))
  have K1 := Lib.hid (H1.out.below b1)
  have K2 := Lib.hid (H2.out.below b1)
  clear hf hf2 b1 hb
  cases hg : good l m with
  | false =>
    have HE := Lib.hid (cons_no hg)
    clear hg
    go_wp2_with fail
    go_ret2
    exact ⟨by rw [HE.out]; rfl, HB1.out⟩
  | true =>
    have HE := Lib.hid (cons_yes hg)
    have HG := Lib.hid hg
    have hn1 : n1 ≤ 10 := by rw [← HL1.out]; exact (Table.good_few hg).1
    clear hg
    go_wp2_with fail
    refine (orderOf_any a1 a2 n1 c1 n2 c2 l m w1 HG.out K1.out K2.out).mono ?_
    rintro e w2 ⟨bx, rfl, ho, b2⟩
    have ha := below_alloc w2 (.cells #[.func (.func 90) #[] #[.pointer (some ⟨bx, 0, none⟩)]] 78)
    have b23 := b2.trans (ha.mono b2.size)
    have q1 := (b23.cell (p := ⟨w.heap.size, 0, none⟩) hsz1).trans r1
    have q4 : (w2.alloc (.cells #[.func (.func 90) #[] #[.pointer (some ⟨bx, 0, none⟩)]] 78)).cell? ⟨w2.heap.size, 0, none⟩ = some (.func (.func 90) #[] #[.pointer (some ⟨bx, 0, none⟩)]) := by
      rw [World.cell?_alloc_mark]
      rfl
    have s4 : w2.heap.size < (w2.alloc (.cells #[.func (.func 90) #[] #[.pointer (some ⟨bx, 0, none⟩)]] 78)).heap.size := by simp
    have HO := Lib.hid (ho.below ha)
    have HB3 := Lib.hid (HB1.out.trans (b23.mono HB1.out.size))
    have K13 := Lib.hid (K1.out.below b23)
    have Q4 := Lib.hid q4
    clear ho ha b2 b23 r1 r2 q4
    go_wp2_with fail
    generalize w2.alloc (.cells #[.func (.func 90) #[] #[.pointer (some ⟨bx, 0, none⟩)]] 78) = W3 at *
    refine (contains_any 70 #[.pointer (some ⟨w2.heap.size, 0, none⟩)] (fun p => later m p.1 p.1) a1 n1 c1 l W3 hn1 K13.out (fun args W => call_enter Try.func70 (by kernel_rfl) rfl args W) (fun x y wr hx hwr => ?_)).mono ?_
    · have hxk : x ∈ keys l := List.mem_map.2 ⟨(x, y), hx, rfl⟩
      have hxr : 1 ≤ x ∧ x ≤ 999 := by
        obtain ⟨i, hi⟩ := Option.isSome_iff_exists.1 (isAt_keys.2 hxk)
        exact rng_at HG.out hi
      exact clos_any x y w2.heap.size bx l m wr ((hwr.cell (p := ⟨w2.heap.size, 0, none⟩) s4).trans Q4.out) (Nat.lt_of_lt_of_le s4 hwr.size) (HO.out.below hwr) hxk (by omega)
    rintro e w4 ⟨rfl, b4⟩
    have HB4 := Lib.hid (HB3.out.trans (b4.mono HB3.out.size))
    clear b4
    generalize hA : (l.any fun p => later m p.1 p.1) = bb
    have HA := Lib.hid hA
    clear hA
    go_wp2_with fail
    go_ret2
    exact ⟨by rw [HE.out, HA.out]; rfl, HB4.out⟩
end Go.Proofs.Ytbdplgcdnpcnfaa.Consist
/- The program's isGrouping, IsValidGrouping and placeOfPhase. -/
namespace Go.Proofs.Ytbdplgcdnpcnfaa.GpI
open Go.RowKit Pairs Rec RecEq Keep GivesI Chain Find2 GoodM Ph GpM GpB GpC
set_option maxRecDepth 100000 in
set_option maxHeartbeats 8000000 in
theorem isGrouping_any (a1 a2 : Option Addr) (n1 c1 n2 c2 : Nat) (l : Ps) (p : Option Addr) (n c : Nat) (L : List Pt) (w : World) (hz : n1 ≤ 1048576) (hA : Asc l) (hc : n ≤ c) (hcz : c ≤ 1048576) (hS : Sm L 1048576) (h1 : Holds w a1 n1 l) (h : HoldsP w p n L) :
    Calls Try.prog 37 #[.agg #[.slice a1 n1 c1, .slice a2 n2 c2], .slice p n c] w fun e w' => e = .returned (.bool (gp l L)) ∧ Below w.heap.size w w' := by
  have hb := below_alloc w (.cells #[.slice a1 n1 c1, .slice a2 n2 c2] 33)
  have hf := box_first w (.slice a1 n1 c1) (.slice a2 n2 c2) 33
  have hf2 := box_second w (.slice a1 n1 c1) (.slice a2 n2 c2) 33
  have hsz : w.heap.size < (w.alloc (.cells #[.slice a1 n1 c1, .slice a2 n2 c2] 33)).heap.size := by simp
  have H1 := Lib.hid (h1.below hb)
  have HH := Lib.hid (h.below hb)
  have HL := Lib.hid h.1
  have HA := Lib.hid hA
  have HS := Lib.hid hS
  have F1 := Lib.hid hf
  have F2 := Lib.hid hf2
  have HB := Lib.hid hb
  clear h h1 hA hS hb
  go_enter Try.func37, Try.ntmps37
  by_cases h6 : n ≤ 6
  · have h6' : ¬ (6 : Int) < (n : Int) := by omega
    go_wp2_with fail
    clear hf hf2
    generalize w.alloc (.cells #[.slice a1 n1 c1, .slice a2 n2 c2] 33) = W at *
    go_loopw [13] (fun s9 wr => ∃ k : Nat, k ≤ n ∧ s9 = .int .i64 k ∧ Hid (∀ i x, i < k → L[i]? = some x → OkP l L i x) ∧ Hid (Below W.heap.size W wr)) (fun s9 _ => n - (intOf s9).toNat)
    case atStart => exact ⟨0, Nat.zero_le _, rfl, fun i x h => by omega, Below.refl _ _⟩
    case round =>
      obtain ⟨k, hk, rfl, HP, HR⟩ := hrel
      by_cases hlt : k < n
      · obtain ⟨b, off, s, M, pp, j, d, rfl, hx, e1, e2, hM⟩ := (HH.out.below HR.out).at k hlt
        have hsm := HS.out _ (List.mem_of_getElem? hx)
        have hj : j ≤ 1048576 := by
          have h1 := hsm.2
          have h2 := hM.1
          simp only at h1
          omega
        have hss : s.size ≤ 1048576 := hsm.1
        have HX := Lib.hid hx
        have hki : (k : Int) < (n : Int) := by omega
        have hk0 : (0 : Int) ≤ (k : Int) := by omega
        have hkc : (k : Int) ≤ (c : Int) := by omega
        have hb7 := below_alloc wr (.cells #[.string s, .slice pp j d] 57)
        have u1 := box_first wr (.string s) (.slice pp j d) 57
        have u2 := box_second wr (.string s) (.slice pp j d) 57
        have hlw : w.heap.size < wr.heap.size := Nat.lt_of_lt_of_le hsz HR.out.size
        have hltb : wr.heap.size < (wr.alloc (.cells #[.string s, .slice pp j d] 57)).heap.size := by simp
        have hbW := HR.out.trans (hb7.mono HR.out.size)
        have g1 := (hbW.cell (p := ⟨w.heap.size, 0, none⟩) hsz).trans F1.out
        have g2 := (hbW.cell (p := ⟨w.heap.size, 1, none⟩) hsz).trans F2.out
        have HM := Lib.hid (hM.below hb7)
        have HB7 := Lib.hid hbW
        clear hx hsm hM hb7 hbW
        cases hn : nm s with
        | false =>
          have HG := Lib.hid (gp_bad (l := l) HX.out (fun h => by have := nm_yes h.1; rw [hn] at this; cases this))
          have HN := Lib.hid hn
          have HBE := Lib.hid (HB.out.trans (HB7.out.mono HB.out.size))
          clear hn
          go_wp2_with (go_at_call 73; refine (GpA.isName_any s hss _).mono ?_; rw [HN.out]; rintro e w' ⟨rfl, rfl⟩)
          go_ret
          exact ⟨by rw [HG.out]; rfl, HBE.out⟩
        | true =>
          have HN := Lib.hid hn
          clear hn
          go_wp2_with (go_at_call 73; refine (GpA.isName_any s hss _).mono ?_; rw [HN.out]; rintro e w' ⟨rfl, rfl⟩)
          have U1 := Lib.hid u1
          have U2 := Lib.hid u2
          clear e1 e2 u1 u2
          generalize wr.alloc (.cells #[.string s, .slice pp j d] 57) = Z at *
          refine (areMembers_any a1 a2 n1 c1 n2 c2 l pp j d M Z hz HA.out hj (H1.out.below HB7.out) HM.out).mono ?_
          rintro e w2 ⟨rfl, b2⟩
          have HB2 := Lib.hid (HB7.out.trans (b2.mono HB7.out.size))
          have V1 := Lib.hid ((b2.cell (p := ⟨wr.heap.size, 0, none⟩) hltb).trans U1.out)
          have V2 := Lib.hid ((b2.cell (p := ⟨wr.heap.size, 1, none⟩) hltb).trans U2.out)
          have HM2 := Lib.hid (HM.out.below b2)
          have HH2 := Lib.hid (HH.out.below HB2.out)
          have hltb2 := Nat.lt_of_lt_of_le hltb b2.size
          clear b2 g1 g2
          cases hm : mb l M with
          | false =>
            have HG := Lib.hid (gp_bad (l := l) HX.out (fun h => by have := mb_yes h.2.1; rw [hm] at this; cases this))
            have HBE := Lib.hid (HB.out.trans (HB2.out.mono HB.out.size))
            clear hm
            go_wp2_with fail
            go_ret
            exact ⟨by rw [HG.out]; rfl, HBE.out⟩
          | true =>
            have HMB := Lib.hid hm
            clear hm
            go_wp2_with fail
            refine (containsP_any 71 #[.pointer (some ⟨wr.heap.size, 0, none⟩)] (col (s, M)) (some ⟨b, off, none⟩) k c (L.take k) w2 (by omega) (HH2.out.take k hk) (fun args W => FuncI.call_enter Try.func71 (by kernel_rfl) rfl args W) (fun sq Q pq jq dq wq hin hwq hQ => ?_)).mono ?_
            · have hjq : jq ≤ 1048576 := by
                have h1 := (HS.out _ (List.mem_of_mem_take hin)).2
                have h2 := hQ.1
                simp only at h1
                omega
              exact col1_any wr.heap.size sq s pq pp jq j dq d Q M hjq hj wq ((hwq.cell (p := ⟨wr.heap.size, 0, none⟩) hltb2).trans V1.out) ((hwq.cell (p := ⟨wr.heap.size, 1, none⟩) hltb2).trans V2.out) hQ (HM2.out.below hwq)
            rintro e w3 ⟨rfl, b3⟩
            have HB3 := Lib.hid (HB2.out.trans (b3.mono HB2.out.size))
            obtain ⟨qq, hqq⟩ : ∃ qq, (L.take k).any (col (s, M)) = qq := ⟨_, rfl⟩
            rw [hqq]
            clear b3
            cases qq with
            | true =>
              have HG := Lib.hid (gp_bad (l := l) HX.out (fun h => by have := h.2.2; rw [hqq] at this; cases this))
              have HBE := Lib.hid (HB.out.trans (HB3.out.mono HB.out.size))
              clear hqq
              go_wp2_with fail
              go_ret
              exact ⟨by rw [HG.out]; rfl, HBE.out⟩
            | false =>
              have HP2 : Hid (∀ i x, i < k + 1 → L[i]? = some x → OkP l L i x) := fun i x hi hx => by
                by_cases e : i = k
                · subst e
                  have h2 := HX.out
                  rw [hx] at h2
                  injection h2 with h2
                  subst h2
                  exact ⟨nm_iff.1 HN.out, mb_iff.1 HMB.out, hqq⟩
                · exact HP.out i x (by omega) hx
              clear hqq
              go_wp2_with fail
              exact ⟨⟨k + 1, by omega, by go_num, HP2, HB3⟩, by simp [intOf]; omega⟩
      · obtain rfl : k = n := by omega
        have hki : ¬ (k : Int) < (k : Int) := by omega
        have HG := Lib.hid (gp_yes (l := l) (L := L) ⟨by rw [HL.out]; exact h6, fun i x hx => HP.out i x (by rw [← HL.out]; exact (List.getElem?_eq_some_iff.1 hx).1) hx⟩)
        have HBE := Lib.hid (HB.out.trans (HR.out.mono HB.out.size))
        go_wp2_with fail
        go_ret
        exact ⟨by rw [HG.out]; rfl, HBE.out⟩
  · have h6' : (6 : Int) < (n : Int) := by omega
    have HG := Lib.hid (gp_big (l := l) (L := L) (by rw [HL.out]; exact h6))
    go_wp2_with fail
    go_ret
    exact ⟨by rw [HG.out]; rfl, HB.out⟩
/-- A grouping of a consistent record. -/
noncomputable def grp (l m : Ps) (L : List Pt) : Bool := good l m && !(l.any fun p => later m p.1 p.1) && gp l L
set_option maxRecDepth 100000 in
set_option maxHeartbeats 4000000 in
theorem grp_any (a1 a2 : Option Addr) (n1 c1 n2 c2 : Nat) (l m : Ps) (p : Option Addr) (n c : Nat) (L : List Pt) (w : World) (hz1 : n1 ≤ 1048576) (hz2 : n2 ≤ 1048576) (hc : n ≤ c) (hcz : c ≤ 1048576) (hS : Sm L 1048576) (h1 : Holds w a1 n1 l) (h2 : Holds w a2 n2 m) (h : HoldsP w p n L) :
    Calls Try.prog 13 #[.agg #[.slice a1 n1 c1, .slice a2 n2 c2], .slice p n c] w fun e w' => e = .returned (.bool (grp l m L)) ∧ Below w.heap.size w w' := by
  have hb := below_alloc w (.cells #[.slice a1 n1 c1, .slice a2 n2 c2] 33)
  have hf := box_first w (.slice a1 n1 c1) (.slice a2 n2 c2) 33
  have hf2 := box_second w (.slice a1 n1 c1) (.slice a2 n2 c2) 33
  have hsz : w.heap.size < (w.alloc (.cells #[.slice a1 n1 c1, .slice a2 n2 c2] 33)).heap.size := by simp
  have H1 := Lib.hid (h1.below hb)
  have H2 := Lib.hid (h2.below hb)
  have HH := Lib.hid (h.below hb)
  have HS := Lib.hid hS
  have HB := Lib.hid hb
  clear h h1 h2 hS hb
  go_enter Try.func13, Try.ntmps13
  go_wp2_with fail
  generalize w.alloc (.cells #[.slice a1 n1 c1, .slice a2 n2 c2] 33) = W at *
  refine (Consist.impl_any a1 a2 n1 c1 n2 c2 l m W hz1 hz2 H1.out H2.out).mono ?_
  rintro e w1 ⟨rfl, b1⟩
  have g1 := (b1.cell (p := ⟨w.heap.size, 0, none⟩) hsz).trans hf
  have g2 := (b1.cell (p := ⟨w.heap.size, 1, none⟩) hsz).trans hf2
  have HB1 := Lib.hid (HB.out.trans (b1.mono HB.out.size))
  have B1 := Lib.hid b1
  clear b1 hf hf2
  cases hg : good l m with
  | false =>
    have HG : Hid (grp l m L = false) := by unfold Hid grp; rw [hg]; rfl
    rw [Consist.cons_no hg]
    clear hg
    go_wp2_with fail
    go_ret
    exact ⟨by rw [HG.out]; rfl, HB1.out⟩
  | true =>
    rw [Consist.cons_yes hg]
    obtain ⟨cc, hcc⟩ : ∃ cc, (l.any fun p => later m p.1 p.1) = cc := ⟨_, rfl⟩
    rw [hcc]
    cases cc with
    | true =>
      have HG : Hid (grp l m L = false) := by unfold Hid grp; rw [hg, hcc]; rfl
      clear hg hcc
      go_wp2_with fail
      go_ret
      exact ⟨by rw [HG.out]; rfl, HB1.out⟩
    | false =>
      have HG : Hid (grp l m L = gp l L) := by unfold Hid grp; rw [hg, hcc]; rfl
      have HA : Hid (Asc l) := (Idx.good_asc hg).1
      clear hg hcc
      go_wp2_with fail
      refine (isGrouping_any a1 a2 n1 c1 n2 c2 l p n c L w1 hz1 HA.out hc hcz HS.out (H1.out.below B1.out) (HH.out.below B1.out)).mono ?_
      rintro e w2 ⟨rfl, b2⟩
      have HB2 := Lib.hid (HB1.out.trans (b2.mono HB1.out.size))
      clear g1 g2 b2
      generalize gp l L = q at *
      go_wp2_with fail
      go_ret
      exact ⟨by rw [HG.out]; rfl, HB2.out⟩
end Go.Proofs.Ytbdplgcdnpcnfaa.GpI
