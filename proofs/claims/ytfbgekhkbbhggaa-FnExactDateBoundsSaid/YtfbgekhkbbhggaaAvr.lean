/- The program's IsValidRecord answers whether a record is valid. -/
import Derived.Test.YtfbgekhkbbhggaaAvc
import Derived.Test.YtfbgekhkbbhggaaLawKit
import Derived.BigQuiet
import Derived.Deep.RegionWith
namespace Go.Proofs.Ytfbgekhkbbhggaa.Avr
open Go.RowKit Pairs Find2 GoodM RelM Cmp Search Avc

theorem placeOfContext_any (a1 a2 : Option Addr) (n1 c1 n2 c2 : Nat) (l : List (Int × Int)) (t : Int) (w : World) (hz : n1 ≤ 1048576) (h : Holds w a1 n1 l) (hA : Asc l) :
    Calls Try.prog 109 #[.agg #[.slice a1 n1 c1, .slice a2 n2 c2], .int .i64 t] w fun e w' => e = .returned (.tuple #[.int .i64 (pl l t : Nat), .bool (isAt l t).isSome]) ∧ Below w.heap.size w w' := by
  have hb := below_alloc w (.cells #[.slice a1 n1 c1, .slice a2 n2 c2] 34)
  have hf := box_first w (.slice a1 n1 c1) (.slice a2 n2 c2) 34
  have HH := Lib.hid (h.below hb)
  clear h
  go_enter Try.func109, Try.ntmps109
  go_wp2_with fail
  generalize w.alloc (.cells #[.slice a1 n1 c1, .slice a2 n2 c2] 34) = W at *
  refine (search_any a1 n1 c1 l t W hz HH.out hA).mono ?_
  rintro e w' ⟨rfl, hq⟩
  go_wp2_with fail
  go_ret2
  exact ⟨rfl, hb.trans (hq.mono hb.size)⟩
theorem hasContext_any (a1 a2 : Option Addr) (n1 c1 n2 c2 : Nat) (l : List (Int × Int)) (t : Int) (w : World) (hz : n1 ≤ 1048576) (h : Holds w a1 n1 l) (hA : Asc l) :
    Calls Try.prog 125 #[.agg #[.slice a1 n1 c1, .slice a2 n2 c2], .int .i64 t] w fun e w' => e = .returned (.bool (isAt l t).isSome) ∧ Below w.heap.size w w' := by
  have hb := below_alloc w (.cells #[.slice a1 n1 c1, .slice a2 n2 c2] 34)
  have hf := box_first w (.slice a1 n1 c1) (.slice a2 n2 c2) 34
  have hf2 := box_second w (.slice a1 n1 c1) (.slice a2 n2 c2) 34
  have HH := Lib.hid (h.below hb)
  clear h
  go_enter Try.func125, Try.ntmps125
  go_wp2_with fail
  generalize w.alloc (.cells #[.slice a1 n1 c1, .slice a2 n2 c2] 34) = W at *
  refine (placeOfContext_any a1 a2 n1 c1 n2 c2 l t W hz HH.out hA).mono ?_
  rintro e w' ⟨rfl, hq⟩
  go_wp2_with fail
  go_ret
  exact ⟨rfl, hb.trans (hq.mono hb.size)⟩
def vr (l m : List (Int × Int)) : Bool := decide (m.length ≤ 24) && (List.range m.length).all (okR l m)
theorem vr_big {l m : List (Int × Int)} (h : ¬ m.length ≤ 24) : vr l m = false := by unfold vr; rw [decide_eq_false h]; rfl
theorem vr_bad {l m : List (Int × Int)} {k : Nat} (hk : k < m.length) (h : okR l m k = false) : vr l m = false := by
  unfold vr
  have e : (List.range m.length).all (okR l m) = false := by
    rw [List.all_eq_false]
    exact ⟨k, List.mem_range.2 hk, by rw [h]; simp⟩
  rw [e, Bool.and_false]
theorem vr_true {l m : List (Int × Int)} (h : m.length ≤ 24) (hp : PastR l m m.length) : vr l m = true := by
  unfold vr
  rw [decide_eq_true h, List.all_eq_true.2 (fun j hj => hp j (List.mem_range.1 hj))]
  rfl
theorem good_split (l m : List (Int × Int)) : good l m = (vc l && vr l m) := by
  unfold good vc vr
  cases decide (l.length ≤ 10) <;> cases decide (m.length ≤ 24) <;> cases (List.range l.length).all (okC l) <;> cases (List.range m.length).all (okR l m) <;> rfl
theorem compareRel_below (a b c d : Int) (w : World) : Calls Try.prog 126 #[.agg #[.int .i64 a, .int .i64 b], .agg #[.int .i64 c, .int .i64 d]] w fun e w' => e = .returned (.int .i64 (cmpR (a, b) (c, d))) ∧ Below w.heap.size w w' :=
  (compareRel_any a b c d w).mono fun _ _ ⟨h1, h2, _⟩ => ⟨h1, h2⟩
set_option maxRecDepth 100000 in
set_option maxHeartbeats 8000000 in
theorem areValidRelations_any (a1 a2 : Option Addr) (n1 c1 n2 c2 : Nat) (l m : List (Int × Int)) (w : World) (hz : n1 ≤ 1048576) (h1 : Holds w a1 n1 l) (h2 : Holds w a2 n2 m) (hA : Asc l) :
    Calls Try.prog 100 #[.agg #[.slice a1 n1 c1, .slice a2 n2 c2]] w fun e w' => e = .returned (.bool (vr l m)) ∧ Below w.heap.size w w' := by
  have hb := below_alloc w (.cells #[.slice a1 n1 c1, .slice a2 n2 c2] 34)
  have hf := box_first w (.slice a1 n1 c1) (.slice a2 n2 c2) 34
  have hf2 := box_second w (.slice a1 n1 c1) (.slice a2 n2 c2) 34
  have H1 := Lib.hid (h1.below hb)
  have H2 := Lib.hid (h2.below hb)
  have HA := Lib.hid hA
  have hsz : w.heap.size < (w.alloc (.cells #[.slice a1 n1 c1, .slice a2 n2 c2] 34)).heap.size := by simp
  clear h1 h2 hA
  go_enter Try.func100, Try.ntmps100
  by_cases hl : (24 : Int) < (n2 : Int)
  · have HG := Lib.hid (vr_big (l := l) (m := m) (by rw [H2.out.1]; omega))
    go_wp2_with fail
    go_ret
    exact ⟨by rw [HG.out]; rfl, hb⟩
  · go_wp2_with fail
    generalize w.alloc (.cells #[.slice a1 n1 c1, .slice a2 n2 c2] 34) = W at *
    go_loopw [12] (fun i wr => ∃ k : Nat, k ≤ n2 ∧ i = .int .i64 k ∧ Below W.heap.size W wr ∧ Hid (PastR l m k)) (fun i _ => n2 - (intOf i).toNat)
    case atStart => exact ⟨0, Nat.zero_le _, rfl, Below.refl _ _, fun j hj => absurd hj (by omega)⟩
    case round =>
      obtain ⟨j, hj, rfl, hbq, HN⟩ := hrel
      by_cases hjt : j < n2
      · have g1 := (hbq.cell (p := ⟨w.heap.size, 0, none⟩) hsz).trans hf
        have g2 := (hbq.cell (p := ⟨w.heap.size, 1, none⟩) hsz).trans hf2
        obtain ⟨b, off, u, v, rfl, hx, e1, e2⟩ := (H2.out.below hbq).at j hjt
        have HX := Lib.hid hx
        have hjl : j < m.length := by rw [H2.out.1]; exact hjt
        have hji : (j : Int) < (n2 : Int) := by omega
        have hb7 := below_alloc wr (.cells #[.int .i64 u, .int .i64 v] 125)
        have u1 := box_first wr (.int .i64 u) (.int .i64 v) 125
        have u2' := box_second wr (.int .i64 u) (.int .i64 v) 125
        have hlw : w.heap.size < wr.heap.size := Nat.lt_of_lt_of_le hsz hbq.size
        have q1 := (hb7.cell (p := ⟨w.heap.size, 0, none⟩) hlw).trans g1
        have q2 := (hb7.cell (p := ⟨w.heap.size, 1, none⟩) hlw).trans g2
        have HL8 := Lib.hid ((H1.out.below hbq).below hb7)
        have HM8 := Lib.hid ((H2.out.below hbq).below hb7)
        have hb8 := hbq.trans (hb7.mono hbq.size)
        have HB8 := Lib.hid (hb.trans (hb8.mono hb.size))
        have hsz7 : wr.heap.size < (wr.alloc (.cells #[.int .i64 u, .int .i64 v] 125)).heap.size := by simp
        clear hx
        clear hb hb7
        by_cases huv : u = v
        · subst huv
          have HG := Lib.hid (vr_bad (l := l) hjl (okR_bad1 HX.out))
          go_wp2_with fail
          go_ret
          exact ⟨by rw [HG.out]; rfl, HB8.out⟩
        · have hq1 : (u == v) = false := by simpa using huv
          go_wp2_with fail
          generalize wr.alloc (.cells #[.int .i64 u, .int .i64 v] 125) = W8 at *
          clear e1 e2 g1 g2 hf hf2
          have hl8 : w.heap.size < W8.heap.size := by omega
          refine (hasContext_any a1 _ n1 c1 n2 c2 l u W8 hz HL8.out HA.out).mono ?_
          rintro e w9 ⟨rfl, b9⟩
          have r1 := (b9.cell (p := ⟨w.heap.size, 0, none⟩) hl8).trans q1
          have r2 := (b9.cell (p := ⟨w.heap.size, 1, none⟩) hl8).trans q2
          have r3 := (b9.cell (p := ⟨wr.heap.size, 0, none⟩) hsz7).trans u1
          have r4 := (b9.cell (p := ⟨wr.heap.size, 1, none⟩) hsz7).trans u2'
          have HL9 := Lib.hid (HL8.out.below b9)
          have HM9 := Lib.hid (HM8.out.below b9)
          have hb9 := hb8.trans (b9.mono hb8.size)
          have HB9 := Lib.hid (HB8.out.trans (b9.mono HB8.out.size))
          have hs9 := b9.size
          clear q1 q2 u1 u2' b9 hb8
          cases hau : isAt l u with
          | none =>
            have HG := Lib.hid (vr_bad hjl (okR_bad2 HX.out hau))
            clear hau
            simp only [Option.isSome_none]
            go_wp2_with fail
            go_ret
            exact ⟨by rw [HG.out]; rfl, HB9.out⟩
          | some iu =>
            have HU := Lib.hid hau
            clear hau
            simp only [Option.isSome_some]
            go_wp2_with fail
            refine (hasContext_any a1 _ n1 c1 n2 c2 l v w9 hz HL9.out HA.out).mono ?_
            rintro e w10 ⟨rfl, b10⟩
            have s1 := (b10.cell (p := ⟨w.heap.size, 0, none⟩) (by show w.heap.size < _; omega)).trans r1
            have s2 := (b10.cell (p := ⟨w.heap.size, 1, none⟩) (by show w.heap.size < _; omega)).trans r2
            have s3 := (b10.cell (p := ⟨wr.heap.size, 0, none⟩) (by show wr.heap.size < _; omega)).trans r3
            have s4 := (b10.cell (p := ⟨wr.heap.size, 1, none⟩) (by show wr.heap.size < _; omega)).trans r4
            have HM10 := Lib.hid (HM9.out.below b10)
            have hb10 := hb9.trans (b10.mono hb9.size)
            have HB10 := Lib.hid (HB9.out.trans (b10.mono HB9.out.size))
            clear r1 r2 r3 r4 b10 hb9
            cases hav : isAt l v with
            | none =>
              have HG := Lib.hid (vr_bad hjl (okR_bad3 HX.out hav))
              clear hav
              simp only [Option.isSome_none]
              go_wp2_with fail
              go_ret
              exact ⟨by rw [HG.out]; rfl, HB10.out⟩
            | some iv =>
              have HV := Lib.hid hav
              clear hav
              simp only [Option.isSome_some]
              cases j with
              | zero =>
                have HG := Lib.hid (HN.out.next (okR_first HX.out huv HU.out HV.out))
                go_wp2_with fail
                have k1 := cell_regrown s1
                have k2 := cell_regrown s2
                have k3 := cell_regrown s3
                have k4 := cell_regrown s4
                refine wp_region_quiet_below (by kernel_rfl) (by kernel_rfl) ?_
                repeat (go_big_quiet_step (fail))
                refine wpQuiet_nil ?_
                intro _ hw'
                obtain ⟨⟨dq, osq⟩, hw''⟩ := hw'
                subst hw''
                go_wp2_with fail
                exact ⟨⟨1, by omega, by go_num, hb10.trans ((below_regrown w10 dq osq).mono hb10.size), HG⟩, by simp [intOf]; omega⟩
              | succ j =>
                obtain ⟨b', off', p, q, he, hp, p1, p2⟩ := HM10.out.at j (by omega)
                obtain ⟨rfl, rfl⟩ : b' = b ∧ off' = off := by
                  injection he with he
                  injection he with h1 h2 h3
                  exact ⟨h1.symm, h2.symm⟩
                have HOK := Lib.hid (okR_prev HX.out hp huv HU.out HV.out)
                have hw1 : IntKind.i64.wrap (((j + 1 : Nat) : Int) - 1) = (j : Int) := by rw [IntKind.wrap_i64]; omega
                clear hp he
                go_wp2_with fail
                have k1 := cell_regrown s1
                have k2 := cell_regrown s2
                have k3 := cell_regrown s3
                have k4 := cell_regrown s4
                have k5 := cell_regrown p1
                have k6 := cell_regrown p2
                clear s1 s2 s3 s4 p1 p2
                have cB : ∀ d os, Calls Try.prog 126 #[.agg #[.int .i64 p, .int .i64 q], .agg #[.int .i64 u, .int .i64 v]] (Sort.grow (redrawn w10 d) os) fun e w'' => e = .returned (.int .i64 (cmpR (p, q) (u, v))) ∧ ∃ p : Regrown, w'' = Sort.grow (redrawn w10 p.d) p.os := fun d os => Calls.regrown_of (compareRel_below p q u v _)
                cases hbf : before (p, q) (u, v) with
                | true =>
                  have HG := Lib.hid (HN.out.next (HOK.out.trans hbf))
                  have hlt := (cmpR_lt _ _).2 hbf
                  have hr : ¬ 0 ≤ cmpR (p, q) (u, v) := by omega
                  clear hbf
                  generalize cmpR (p, q) (u, v) = r at *
                  refine wp_region_quiet_below (by kernel_rfl) (by kernel_rfl) ?_
                  repeat (go_big_quiet_step ((go_at_call 126; exact cB _ _)))
                  refine wpQuiet_nil ?_
                  intro _ hw'
                  obtain ⟨⟨dq, osq⟩, hw''⟩ := hw'
                  subst hw''
                  go_wp2_with fail
                  exact ⟨⟨j + 1 + 1, by omega, by go_num, hb10.trans ((below_regrown w10 dq osq).mono hb10.size), HG⟩, by simp [intOf]; omega⟩
                | false =>
                  have HG := Lib.hid (vr_bad hjl (HOK.out.trans hbf))
                  have hr : 0 ≤ cmpR (p, q) (u, v) := Int.not_lt.1 fun h => by rw [(cmpR_lt _ _).1 h] at hbf; cases hbf
                  clear hbf
                  generalize cmpR (p, q) (u, v) = r at *
                  refine wp_region_quiet_below (by kernel_rfl) (by kernel_rfl) ?_
                  repeat (go_big_quiet_step ((go_at_call 126; exact cB _ _)))
                  refine wpQuiet_nil ?_
                  intro _ hw'
                  obtain ⟨⟨dq, osq⟩, hw''⟩ := hw'
                  subst hw''
                  go_wp2_with fail
                  go_ret
                  exact ⟨by rw [HG.out]; rfl, HB10.out.trans ((below_regrown w10 dq osq).mono HB10.out.size)⟩
      · obtain rfl : j = n2 := by omega
        have HG := Lib.hid (vr_true (l := l) (m := m) (by rw [H2.out.1]; omega) (by rw [H2.out.1]; exact HN.out))
        have hji : ¬ (j : Int) < (j : Int) := by omega
        have HB9 := Lib.hid (hb.trans (hbq.mono hb.size))
        go_wp2_with fail
        go_ret
        exact ⟨by rw [HG.out]; rfl, HB9.out⟩
theorem impl_any : LawKit.Answers 55 good := by
  intro a1 a2 n1 c1 n2 c2 l m w hz1 hz2 h1 h2
  have hb := below_alloc w (.cells #[.slice a1 n1 c1, .slice a2 n2 c2] 34)
  have hf := box_first w (.slice a1 n1 c1) (.slice a2 n2 c2) 34
  have hf2 := box_second w (.slice a1 n1 c1) (.slice a2 n2 c2) 34
  have H1 := Lib.hid (h1.below hb)
  have H2 := Lib.hid (h2.below hb)
  have hsz : w.heap.size < (w.alloc (.cells #[.slice a1 n1 c1, .slice a2 n2 c2] 34)).heap.size := by simp
  have HG := Lib.hid (good_split l m)
  clear h1 h2
  go_enter Try.func55, Try.ntmps55
  go_wp2_with fail
  generalize w.alloc (.cells #[.slice a1 n1 c1, .slice a2 n2 c2] 34) = W at *
  refine (areValidContexts_any a1 n1 c1 l W H1.out).mono ?_
  rintro e w1 ⟨rfl, b1⟩
  have r1 := (b1.cell (p := ⟨w.heap.size, 0, none⟩) hsz).trans hf
  have r2 := (b1.cell (p := ⟨w.heap.size, 1, none⟩) hsz).trans hf2
  cases hv : vc l with
  | false =>
    have HV := Lib.hid hv
    clear hv
    go_wp2_with fail
    go_ret
    exact ⟨by rw [HG.out, HV.out]; rfl, hb.trans (b1.mono hb.size)⟩
  | true =>
    have HV := Lib.hid hv
    clear hv
    go_wp2_with fail
    refine (areValidRelations_any a1 a2 n1 c1 n2 c2 l m w1 hz1 (H1.out.below b1) (H2.out.below b1) (vc_asc HV.out).1).mono ?_
    rintro e w2 ⟨rfl, b2⟩
    have b12 := b1.trans (b2.mono b1.size)
    go_wp2_with fail
    go_ret
    exact ⟨by rw [HG.out, HV.out]; rfl, hb.trans (b12.mono hb.size)⟩
end Go.Proofs.Ytfbgekhkbbhggaa.Avr
