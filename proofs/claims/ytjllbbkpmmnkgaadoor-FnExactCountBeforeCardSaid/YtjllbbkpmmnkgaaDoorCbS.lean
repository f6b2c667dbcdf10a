/- The model's CountBefore. -/
import Derived.Test.YtjllbbkpmmnkgaaDoorCbP
import Derived.BigQuiet
import Derived.Deep.RegionWith
namespace Go.Proofs.YtjllbbkpmmnkgaaDoor.CbS
open Go.RowKit Pairs Rec Chain Find2 GoodM Keep GivesI Lows Order Bit Table RedS BlM Nxt Tz SqM Org IsqM IsLater IsqS EnM EnI CntS CbM CbP
set_option linter.unusedVariables false
theorem int_own (w : World) : (w.alloc (.cells #[] 3)).ownsRow w.heap.size 3 1 (.slice (some ⟨w.heap.size, 0, none⟩) 0 0) 0 [] :=
  ⟨rfl, .inr ⟨w.heap.size, 0, #[], rfl, Nat.le_refl _, heap_alloc_new w _, Nat.le_refl _, Nat.zero_le _, rfl, rfl⟩⟩
def RowC (B : Nat) (w wr : World) (g n : Nat) (L : List Nat) : Prop :=
  (∃ C : Array Value, wr.heap[g]? = some (.cells C 3 (0, 0)) ∧ ∀ (j x : Nat), L[j]? = some x → C[j]? = some (Value.int .i64 (x : Int))) ∧ L.length = n ∧ B ≤ g ∧ Below B w wr
theorem RowC.cell {B : Nat} {w wr : World} {g n : Nat} {L : List Nat} (h : RowC B w wr g n L) {i x : Nat} (hx : L[i]? = some x) : wr.cell? ⟨g, i, none⟩ = some (.int .i64 (x : Int)) := by
  obtain ⟨⟨C, hC, hc⟩, _⟩ := h
  simp only [World.cell?, hC]
  exact hc i x hx
theorem RowC.frozen {B : Nat} {w wr : World} {g n : Nat} {L : List Nat} (h : RowC B w wr g n L) (i : Nat) : wr.frozen? ⟨g, i, none⟩ = false := by
  obtain ⟨⟨C, hC, hc⟩, _⟩ := h
  simp only [World.frozen?, hC]
  rfl
theorem RowC.set {B : Nat} {w wr : World} {g n : Nat} {L : List Nat} (h : RowC B w wr g n L) (i y : Nat) : RowC B w (wr.setCell ⟨g, i, none⟩ (.int .i64 (y : Int))) g n (L.set i y) := by
  obtain ⟨⟨C, hC, hc⟩, h1, h2, h3⟩ := h
  refine ⟨⟨_, heap_setCell_same wr g i C _ _ hC, fun j x hx => ?_⟩, by rw [List.length_set]; exact h1, h2, h3.setCell (p := ⟨g, i, none⟩) h2 _⟩
  rw [List.getElem?_set] at hx
  rw [Array.getElem?_setIfInBounds]
  by_cases e : i = j
  · subst e
    rw [if_pos rfl] at hx ⊢
    split at hx
    · rename_i hl
      obtain rfl := Option.some.inj hx
      have := hc i _ (List.getElem?_eq_getElem hl)
      rw [if_pos (Array.getElem?_eq_some_iff.1 this).1]
    · cases hx
  · rw [if_neg e] at hx ⊢
    exact hc j x hx
theorem RowC.quiet {B : Nat} {w wr wq : World} {g n : Nat} {L : List Nat} (h : RowC B w wr g n L) (hB : B ≤ wr.heap.size) (hb : Below wr.heap.size wr wq) : RowC B w wq g n L := by
  obtain ⟨⟨C, hC, hc⟩, h1, h2, h3⟩ := h
  exact ⟨⟨C, (hb.block g (Array.getElem?_eq_some_iff.1 hC).1).trans hC, hc⟩, h1, h2, h3.trans (hb.mono hB)⟩
theorem RowC.drew {B : Nat} {w wr : World} {g n : Nat} {L : List Nat} (h : RowC B w wr g n L) : RowC B w wr.drew g n L := by
  obtain ⟨⟨C, hC, hc⟩, h1, h2, h3⟩ := h
  exact ⟨⟨C, hC, hc⟩, h1, h2, h3.drew⟩
theorem RowC.holds {B : Nat} {w wr : World} {g n : Nat} {L : List Nat} (h : RowC B w wr g n L) : HoldsI wr (some ⟨g, 0, none⟩) n (intsN L) := by
  refine ⟨by unfold intsN; rw [List.length_map]; exact h.2.1, .inr ⟨g, 0, rfl, ?_, fun i x hi => ?_⟩⟩
  · obtain ⟨⟨C, hC, hc⟩, _⟩ := h
    exact (Array.getElem?_eq_some_iff.1 hC).1
  · unfold intsN at hi
    rw [List.getElem?_map] at hi
    cases e : L[i]? with
    | none => rw [e] at hi; cases hi
    | some y =>
      rw [e] at hi
      obtain rfl := Option.some.inj hi
      have := h.cell e
      simpa using this
theorem RowC.of_own {w wr : World} {B g n cap : Nat} {L : List Nat} (h : wr.ownsRow B 3 1 (.slice (some ⟨g, 0, none⟩) n cap) n (ints (intsN L))) (hb : Below B w wr) : RowC B w wr g n L := by
  obtain ⟨hl, ⟨hv, _⟩ | ⟨g', cap', cur, hv, hB, hc, _, _, hs, ht⟩⟩ := h
  · cases hv
  · injection hv with e1 e2 e3
    injection e1 with e1
    injection e1 with e1
    subst e1
    have hlen : L.length = n := by
      have := hl
      unfold ints intsN at this
      simpa using this
    refine ⟨⟨cur, hc, fun j x hx => ?_⟩, hlen, hB, hb⟩
    have hj : j < n := by rw [← hlen]; exact (List.getElem?_eq_some_iff.1 hx).1
    have e4 : (ints (intsN L))[j]? = some (.int .i64 (x : Int)) := by
      unfold ints intsN
      rw [List.getElem?_map, List.getElem?_map, hx]
      all_goals rfl
    rw [← ht, List.getElem?_take_of_lt (by omega)] at e4
    rw [← Array.getElem?_toList]
    exact e4
theorem upd_len (T : List Nat) (i k tk j : Nat) : (upd T i k tk j).length = T.length := by unfold upd; rw [List.length_mapIdx]
theorem upd_zero (T : List Nat) (i k tk : Nat) : upd T i k tk 0 = T := by
  apply List.ext_getElem?
  intro j
  rw [upd_at]
  simp
theorem upd_here {T : List Nat} {i k tk j t : Nat} (h : T[j]? = some t) : (upd T i k tk j)[j]? = some t := by
  rw [upd_at, h]
  simp
theorem upd_yes {T : List Nat} {i k tk j t : Nat} (h : T[j]? = some t) (hc : j = i ∨ t.testBit i = true) : (upd T i k tk j).set j (t ||| tk ||| 2 ^ k) = upd T i k tk (j + 1) := by
  apply List.ext_getElem?
  intro q
  rw [List.getElem?_set, upd_len]
  have hj := (List.getElem?_eq_some_iff.1 h).1
  by_cases e : j = q
  · subst e
    rw [if_pos rfl, if_pos hj, upd_at, h]
    simp [hc]
  · rw [if_neg e, upd_at, upd_at]
    cases hq : T[q]? with
    | none => rfl
    | some u =>
      simp only [Option.map_some]
      congr 1
      have e2 : (q < j) ↔ (q < j + 1) := by omega
      simp only [e2]
theorem upd_no {T : List Nat} {i k tk j t : Nat} (h : T[j]? = some t) (hc : ¬ (j = i ∨ t.testBit i = true)) : upd T i k tk j = upd T i k tk (j + 1) := by
  apply List.ext_getElem?
  intro q
  rw [upd_at, upd_at]
  cases hq : T[q]? with
  | none => rfl
  | some u =>
    simp only [Option.map_some]
    congr 1
    by_cases e : q = j
    · subst e
      rw [h] at hq
      obtain rfl := Option.some.inj hq
      rw [if_neg (by simp), if_neg (fun h => hc h.2)]
    · have e2 : (q < j) ↔ (q < j + 1) := by omega
      simp only [e2]
theorem holdsN_cell {w : World} {g n : Nat} {T : List Nat} (h : HoldsI w (some ⟨g, 0, none⟩) n (intsN T)) {j t : Nat} (hj : T[j]? = some t) : w.cell? ⟨g, j, none⟩ = some (.int .i64 (t : Int)) := by
  obtain ⟨h1, h2⟩ := h
  have hl : T.length = n := by unfold intsN at h1; simpa using h1
  have hj2 := (List.getElem?_eq_some_iff.1 hj).1
  rcases h2 with h2 | ⟨b, off, hp, _, hc⟩
  · omega
  · injection hp with e
    injection e with e1 e2
    subst e1
    subst e2
    have := hc j t (by unfold intsN; rw [List.getElem?_map, hj]; rfl)
    simpa using this
theorem upd_lt {T : List Nat} {i k tk j : Nat} (hT : ∀ (q t : Nat), T[q]? = some t → t < 1024) (htk : tk < 1024) (hk : k < 10) : ∀ (q t : Nat), (upd T i k tk j)[q]? = some t → t < 1024 := by
  intro q t h
  rw [upd_at] at h
  cases hq : T[q]? with
  | none => rw [hq] at h; cases h
  | some u =>
    rw [hq] at h
    obtain rfl := Option.some.inj h
    have hu := hT q u hq
    show (if q < j ∧ (q = i ∨ u.testBit i = true) then u ||| tk ||| 2 ^ k else u) < 1024
    split
    · exact Nat.or_lt_two_pow (n := 10) (Nat.or_lt_two_pow (n := 10) hu htk) (Nat.pow_lt_pow_right (by decide) hk)
    · exact hu
set_option maxRecDepth 100000 in
set_option maxHeartbeats 8000000 in
theorem spec_any (x y : Int) (a1 a2 : Option Addr) (n1 c1 n2 c2 : Nat) (l m : List (Int × Int)) (w : World) (hz1 : n1 ≤ 1048576) (h1 : Holds w a1 n1 l) (h2 : Holds w a2 n2 m) :
    Calls Tryd.prog 31 #[.agg #[.slice a1 n1 c1, .slice a2 n2 c2], .int .i64 x, .int .i64 y] w (CbP.Ans x y l m w) := by
  have hb := below_alloc w (.cells #[.slice a1 n1 c1, .slice a2 n2 c2] 33)
  have hf := box_first w (.slice a1 n1 c1) (.slice a2 n2 c2) 33
  have hf2 := box_second w (.slice a1 n1 c1) (.slice a2 n2 c2) 33
  have hsz : w.heap.size < (w.alloc (.cells #[.slice a1 n1 c1, .slice a2 n2 c2] 33)).heap.size := by simp
  have H1 := Lib.hid (h1.below hb)
  have H2 := Lib.hid (h2.below hb)
  have HL1 := Lib.hid h1.1
  have HB := Lib.hid hb
  obtain ⟨i0, hi, hy0, hy1, hy2⟩ := Rec.info_parts That.infoInt
  clear h1 h2 hb
  go_enter Tryd.func31, Tryd.ntmps31
  go_wp2_with fail
  generalize w.alloc (.cells #[.slice a1 n1 c1, .slice a2 n2 c2] 33) = W at *
  have cK : ∀ d os, Calls Tryd.prog 50 #[.agg #[.slice a1 n1 c1, .slice a2 n2 c2], .int .i64 x] (Sort.grow (redrawn W d) os) fun e w'' => e = .returned (.int .i64 (find l x)) ∧ ∃ p : Regrown, w'' = Sort.grow (redrawn W p.d) p.os := fun d os => Calls.regrown_of (l2Find_any a1 a2 n1 c1 n2 c2 l x _ (by omega) (H1.out.below (below_regrown W d os)))
  have cD : ∀ d os, Calls Tryd.prog 50 #[.agg #[.slice a1 n1 c1, .slice a2 n2 c2], .int .i64 y] (Sort.grow (redrawn W d) os) fun e w'' => e = .returned (.int .i64 (find l y)) ∧ ∃ p : Regrown, w'' = Sort.grow (redrawn W p.d) p.os := fun d os => Calls.regrown_of (l2Find_any a1 a2 n1 c1 n2 c2 l y _ (by omega) (H1.out.below (below_regrown W d os)))
  have k1 := cell_regrown hf
  have k2 := cell_regrown hf2
  refine wp_region_quiet_below (by kernel_rfl) (by kernel_rfl) ?_
  repeat (go_big_quiet_step (first | (go_at_call 50; first | with_reducible exact cK _ _ | with_reducible exact cD _ _)))
  refine wpQuiet_nil ?_
  intro _ hw'
  obtain ⟨⟨dq, osq⟩, hw''⟩ := hw'
  subst hw''
  clear cK cD k1 k2
  have bq := below_regrown W dq osq
  generalize Sort.grow (redrawn W dq) osq = wq at *
  have r1 := (bq.cell (p := ⟨w.heap.size, 0, none⟩) hsz).trans hf
  have r2 := (bq.cell (p := ⟨w.heap.size, 1, none⟩) hsz).trans hf2
  have HBQ := Lib.hid (HB.out.trans (bq.mono HB.out.size))
  have K1 := Lib.hid (H1.out.below bq)
  have K2 := Lib.hid (H2.out.below bq)
  have hszq := Nat.lt_of_lt_of_le hsz bq.size
  clear bq hf hf2 hsz H1 H2 HB
  have hgd := l5Good_any a1 a2 n1 c1 n2 c2 l m wq K1.out K2.out
  by_cases hg : good l m = true ∧ cyc l m = false
  · have hgc : (good l m && !cyc l m) = true := by rw [hg.1, hg.2]; rfl
    rw [hgc] at hgd
    have HGD := Lib.hid hgd
    have HG := Lib.hid hg
    have hn10 : n1 ≤ 10 := by rw [← HL1.out]; exact (Table.good_few hg.1).1
    clear hg hgc hgd
    cases hx : isAt l x with
    | none =>
      have HE := Lib.hid (cb_no2 (l := l) (m := m) (x := x) (y := y) (has2_no (fun h => by obtain ⟨_, ⟨i, hi⟩, _⟩ := h; rw [hx] at hi; cases hi)))
      rw [find_none hx]
      clear hx
      generalize find l y = fy
      go_wp2_with (go_at_call 37; refine HGD.out.mono ?_; rintro e w3 ⟨rfl, b3⟩; have HB3 := Lib.hid (HBQ.out.trans (b3.mono HBQ.out.size)))
      go_ret2
      unfold CbP.Ans
      rw [HE.out]
      exact ⟨rfl, HB3.out⟩
    | some i =>
      rw [find_some hx]
      have hi00 : (0 : Int) ≤ (i : Int) := by omega
      cases hy : isAt l y with
      | none =>
        have HE := Lib.hid (cb_no2 (l := l) (m := m) (x := x) (y := y) (has2_no (fun h => by obtain ⟨_, _, ⟨k, hk⟩⟩ := h; rw [hy] at hk; cases hk)))
        rw [find_none hy]
        clear hx hy
        go_wp2_with (go_at_call 37; refine HGD.out.mono ?_; rintro e w3 ⟨rfl, b3⟩; have HB3 := Lib.hid (HBQ.out.trans (b3.mono HBQ.out.size)))
        go_ret2
        unfold CbP.Ans
        rw [HE.out]
        exact ⟨rfl, HB3.out⟩
      | some k =>
        rw [find_some hy]
        have hk00 : (0 : Int) ≤ (k : Int) := by omega
        by_cases hik : i = k
        · subst hik
          have HE := Lib.hid (cb_no3 (l := l) (m := m) (isAt_inj hx hy))
          clear hx hy
          go_wp2_with (go_at_call 37; refine HGD.out.mono ?_; rintro e w3 ⟨rfl, b3⟩; have HB3 := Lib.hid (HBQ.out.trans (b3.mono HBQ.out.size)))
          go_ret2
          unfold CbP.Ans
          rw [HE.out]
          exact ⟨rfl, HB3.out⟩
        · have hne : x ≠ y := fun h => hik (by subst h; rw [hx] at hy; exact Option.some.inj hy)
          have HE := Lib.hid (cb_yes HG.out hx hy hne)
          have hil : i < n1 := by rw [← HL1.out]; exact isAt_lt hx
          have hkl : k < n1 := by rw [← HL1.out]; exact isAt_lt hy
          have hni : ¬ (i : Int) < 0 := by omega
          have hnk : ¬ (k : Int) < 0 := by omega
          have hbe : ((i : Int) == (k : Int)) = false := by rw [beq_eq_false_iff_ne]; omega
          clear hx hy hik
          go_wp2_with (go_at_call 37; refine HGD.out.mono ?_; rintro e w3 ⟨rfl, b3⟩; have HB3 := Lib.hid (HBQ.out.trans (b3.mono HBQ.out.size)); have q1 := (b3.cell (p := ⟨w.heap.size, 0, none⟩) hszq).trans r1; have q2 := (b3.cell (p := ⟨w.heap.size, 1, none⟩) hszq).trans r2; have M1 := Lib.hid (K1.out.below b3); have M2 := Lib.hid (K2.out.below b3); clear b3 r1 r2)
          clear hni hnk hbe
          refine (later_any a1 a2 n1 c1 n2 c2 l m w3 HG.out.1 M1.out M2.out).mono ?_
          rintro e w4 ⟨gt, T, rfl, hge, hT, TT, b4⟩
          have HB4 := Lib.hid (HB3.out.trans (b4.mono HB3.out.size))
          have HTT := Lib.hid TT
          have HT := Lib.hid hT
          have hTl : T.length = n1 := TT.len
          obtain ⟨tk, htk⟩ : ∃ tk, T[k]? = some tk := ⟨T[k]'(by omega), List.getElem?_eq_getElem (by omega)⟩
          have HTL := Lib.hid (And.intro hTl htk)
          have tc := holdsN_cell hT htk
          have htb : tk < 1024 := bd hn10 (TT.bd k tk htk)
          have hkin : (k : Int) < (n1 : Int) := by omega
          have HBIT := Lib.hid (l4Bit_any tk i htb (by omega) w4)
          clear hT TT b4 hge hTl htk M1 M2 q1 q2
          cases hb : tk.testBit i with
          | true =>
            have hz : v (rd (addU (ups l m) i k) (2 ^ l.length - 1)) l.length 0 = 0 := by
              have h := zeroB HG.out.1 HL1.out HTT.out hil HTL.out.2 hb (2 ^ n1) 0 (Nat.sub_le _ _) (Nat.two_pow_pos n1) (fun y x _ h => by simp at h) (by simp)
              rw [HL1.out]
              exact h
            have hE := HE.out
            rw [hz] at hE
            have HE2 := Lib.hid hE
            rw [hb] at HBIT
            clear hz hE hb
            go_wp2_with (go_at_call 59; refine HBIT.out.mono ?_; rintro e w' ⟨rfl, hw'⟩; have hw2 := hw'.symm; subst hw2; clear hw')
            go_ret2
            unfold CbP.Ans
            rw [HE2.out]
            exact ⟨rfl, HB4.out⟩
          | false =>
            rw [hb] at HBIT
            clear hb
            have hem := int_own w4
            have hn0 : 0 < n1 := by omega
            have HOWN := Lib.hid hem
            have hnews : ∀ (j : Nat) (u : Value), (ints (intsN T))[j]? = some u → (w4.alloc (.cells #[] 3)).cell? ((⟨gt, 0, none⟩ : Addr).add j) = some u := by
              intro j u hu
              unfold ints intsN at hu
              rw [List.getElem?_map, List.getElem?_map] at hu
              cases e : T[j]? with
              | none => rw [e] at hu; cases hu
              | some t =>
                rw [e] at hu
                obtain rfl := Option.some.inj hu
                rw [Addr.add_lit]
                have := holdsN_cell (HT.out.below (below_alloc w4 (.cells #[] 3))) e
                simpa using this
            have hone : ∀ u ∈ ints (intsN T), u.oneCell' = true := by
              intro u hu
              unfold ints at hu
              obtain ⟨z, _, rfl⟩ := List.mem_map.1 hu
              rfl
            have hln : (ints (intsN T)).length = n1 * 1 := by
              unfold ints intsN
              rw [List.length_map, List.length_map, HTL.out.1]
              omega
            have HNW := Lib.hid (And.intro hnews (And.intro hone hln))
            clear hnews hone hln hem
            go_wp2_with (first | (go_at_call 59; refine HBIT.out.mono ?_; rintro e w' ⟨rfl, hw'⟩; have hw2 := hw'.symm; subst hw2; clear hw') | (at_builtin; refine wpList_append_lies _ rfl _ _ 26 rfl w4.heap.size 3 i0 (.int .i64 0) 1 8 Tryd.underlying26 hi hy0 hy1 hy2 rfl (by decide) _ 0 [] rfl HOWN.out ⟨gt, 0, none⟩ n1 n1 (ints (intsN T)) rfl HNW.out.2.2 HNW.out.1 HNW.out.2.1 hn0 (by unfold maxLen; omega) (by omega) (by simp) (w4.heap.size + 1) (by simp) ?_; intro g cap w5 hown' hgrow hat hltg))
            have b5 : Below w4.heap.size w4 w5 := (below_alloc w4 _).grown hgrow (by simp) (fun q hq => by have e : some w4.heap.size = some q := hq; exact Nat.le_of_eq (Option.some.inj e))
            have HROW := Lib.hid (RowC.of_own (L := T) (by simpa using hown') b5)
            clear hown' hgrow hat hltg b5 tc HOWN HNW HBIT
            go_loopw [12] (fun s12 wr => ∃ j : Nat, j ≤ n1 ∧ s12 = .int .i64 j ∧ Hid (RowC w4.heap.size w4 wr g n1 (upd T i k tk j))) (fun s12 _ => n1 - (intOf s12).toNat)
            case atStart => exact ⟨0, Nat.zero_le _, rfl, by unfold Hid; rw [upd_zero]; exact HROW.out⟩
            case round =>
              obtain ⟨j, hj, rfl, HR⟩ := hrel
              by_cases hlt : j < n1
              · have hin : (j : Int) < (n1 : Int) := by omega
                have hj00 : (0 : Int) ≤ (j : Int) := by omega
                obtain ⟨t, ht⟩ : ∃ t, T[j]? = some t := ⟨T[j]'(by rw [HTL.out.1]; exact hlt), List.getElem?_eq_getElem (by rw [HTL.out.1]; exact hlt)⟩
                have tj := holdsN_cell (HT.out.below HR.out.2.2.2) ht
                have tkc := holdsN_cell (HT.out.below HR.out.2.2.2) HTL.out.2
                have rj := HR.out.cell (upd_here (i := i) (k := k) (tk := tk) ht)
                have fj := HR.out.frozen j
                have htl : t < 1024 := bd hn10 (HTT.out.bd j t ht)
                have HBJ := Lib.hid (l4Bit_any t i htl (by omega) wr)
                have HTJ := Lib.hid ht
                have hq0 : t ||| tk < 1024 := Nat.or_lt_two_pow (n := 10) htl htb
                have e1 : bits .or .i64 (t : Int) (tk : Int) = ((t ||| tk : Nat) : Int) := i64_or t tk htl htb
                have hsh2 := shl_or (t ||| tk) k hq0 (Table.pow_lt hkl hn10)
                have hsh3 : bits .or .i64 ((t ||| tk : Nat) : Int) (IntKind.i64.wrap (2 ^ k)) = ((t ||| tk ||| 2 ^ k : Nat) : Int) := by
                  rw [CntS.wrap_is]
                  exact hsh2
                have hsh4 : bits .or .i64 ((t ||| tk : Nat) : Int) (IntKind.i64.wrap (2 ^ min (IntKind.u64.wrap (k : Int)).toNat 64)) = ((t ||| tk ||| 2 ^ k : Nat) : Int) := by
                  have e : min (IntKind.u64.wrap (k : Int)).toNat 64 = k := by rw [IntKind.wrap_u64]; omega
                  rw [e]
                  exact hsh3
                have hyes := fun hc => upd_yes (k := k) (tk := tk) ht (i := i) hc
                obtain ⟨u0, hu0⟩ : ∃ u0, t ||| tk = u0 := ⟨_, rfl⟩
                rw [hu0] at e1 hsh2 hsh3 hsh4 hyes
                obtain ⟨u1, hu1⟩ : ∃ u1, u0 ||| 2 ^ k = u1 := ⟨_, rfl⟩
                rw [hu1] at hsh2 hsh3 hsh4 hyes
                have HY : Hid (∀ (hc : j = i ∨ t.testBit i = true), (upd T i k tk j).set j u1 = upd T i k tk (j + 1)) := hyes
                have hmx : Tryd.prog.follows .mixedOrders = true := by kernel_rfl
                clear hu0 hu1 hyes hq0 ht
                by_cases hji : i = j
                · subst hji
                  clear HBJ tj
                  go_wp2_with fail
                  go_region_with (fail)
                  all_goals go_wp2_with fail
                  all_goals (
                    refine ⟨⟨i + 1, by omega, by go_num, ?_⟩, by simp [intOf]; omega⟩
                    unfold Hid
                    rw [← HY.out (by first | exact .inl rfl | exact .inl trivial | simp)]
                    exact (HR.out.set i u1).drew)
                · have hbe : ((j : Int) == (i : Int)) = false := by rw [beq_eq_false_iff_ne]; omega
                  cases hbt : t.testBit i with
                  | true =>
                    rw [hbt] at HBJ
                    have HBT := Lib.hid hbt
                    clear hbt hji
                    go_wp2_with (go_at_call 59; refine HBJ.out.mono ?_; rintro e w' ⟨rfl, hw'⟩; have hw2 := hw'.symm; subst hw2; clear hw')
                    go_region_with (fail)
                    all_goals go_wp2_with fail
                    all_goals (
                      refine ⟨⟨j + 1, by omega, by go_num, ?_⟩, by simp [intOf]; omega⟩
                      unfold Hid
                      rw [← HY.out (.inr HBT.out)]
                      exact (HR.out.set j u1).drew)
                  | false =>
                    rw [hbt] at HBJ
                    have hno := upd_no (k := k) (tk := tk) HTJ.out (fun hc : j = i ∨ t.testBit i = true => Or.elim hc (fun e => hji e.symm) (fun e => by rw [hbt] at e; cases e))
                    have HNO := Lib.hid hno
                    clear hbt hji hno
                    go_wp2_with (go_at_call 59; refine HBJ.out.mono ?_; rintro e w' ⟨rfl, hw'⟩; have hw2 := hw'.symm; subst hw2; clear hw')
                    refine ⟨⟨j + 1, by omega, by go_num, ?_⟩, by simp [intOf]; omega⟩
                    unfold Hid
                    rw [← HNO.out]
                    exact HR.out
              · obtain rfl : j = n1 := by omega
                have hin : ¬ (j : Int) < (j : Int) := by omega
                have HC := Lib.hid (counts_any (some ⟨g, 0, none⟩) j cap (upd T i k tk j) wr hn10 HR.out.holds (upd_lt (fun q t ht => bd hn10 (HTT.out.bd q t ht)) htb (by omega)))
                have hpos : (0 : Int) < ((2 ^ j : Nat) : Int) := by have := Nat.two_pow_pos j; omega
                have HAG := Lib.hid (agreeB HG.out.1 HL1.out HTT.out hil HTL.out.2)
                have HBR := Lib.hid (HB4.out.trans (HR.out.2.2.2.mono HB4.out.size))
                go_wp2_with (go_at_call 47; refine HC.out.mono ?_; rintro e w6 ⟨g6, C, rfl, hge, hC, hCI, b6⟩; have hr0 := hCI.2 0 (Nat.two_pow_pos j); have hval : cf (rm (upd T i k tk j) j) j 0 0 = v (rd (addU (ups l m) i k) (2 ^ l.length - 1)) l.length 0 := (by unfold cf; rw [if_pos ⟨Nat.le_refl _, Nat.zero_le _⟩, HAG.out, HL1.out]); rw [hval] at hr0; have c0 : w6.cell? ⟨g6, 0, none⟩ = some (.int .i64 (v (rd (addU (ups l m) i k) (2 ^ l.length - 1)) l.length 0)) := (by simp only [World.cell?, hC]; exact hr0); have HB6 := Lib.hid (HBR.out.trans (b6.mono HBR.out.size)); clear hr0 hval hC hCI b6)
                go_ret2
                unfold CbP.Ans
                rw [HE.out]
                exact ⟨rfl, HB6.out⟩
  · have hgc : (good l m && !cyc l m) = false := by
      cases h1 : good l m with
      | false => rfl
      | true =>
        cases h2 : cyc l m with
        | true => rfl
        | false => exact absurd ⟨h1, h2⟩ hg
    rw [hgc] at hgd
    have HGD := Lib.hid hgd
    have HE := Lib.hid (cb_no (x := x) (y := y) hg)
    clear hg hgc hgd
    generalize find l x = fx
    generalize find l y = fy
    go_wp2_with (go_at_call 37; refine HGD.out.mono ?_; rintro e w3 ⟨rfl, b3⟩; have HB3 := Lib.hid (HBQ.out.trans (b3.mono HBQ.out.size)))
    go_ret2
    unfold CbP.Ans
    rw [HE.out]
    exact ⟨rfl, HB3.out⟩
end Go.Proofs.YtjllbbkpmmnkgaaDoor.CbS
