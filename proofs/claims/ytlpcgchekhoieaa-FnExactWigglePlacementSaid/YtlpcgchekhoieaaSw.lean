/- The weight of a year of a sample: the mathematics, the program's sampleWeight and the model's l11Weight. -/
import Derived.Test.YtlpcgchekhoieaaPtS
import Derived.Test.YtlpcgchekhoieaaAg
namespace Go.Proofs.Ytlpcgchekhoieaa.Sw
open Go Go.RowKit Pairs Rec Keep GivesI Cu CvM PtM PtI
set_option linter.unusedVariables false
def wq (m : Int × Int) (q : Dt) : Int := max 0 (1 + 2 * (m.2 + q.2.2) - max (m.1 - q.2.1) (q.2.1 - m.1))
def swt (L : List Dt) (m : Int × Int) (y : Int) : Int := if (ptR L y).2 = true then wq m (ptR L y).1 else 0
theorem ptP_some {y : Int} : ∀ (L : List Dt) (q : Dt), ptP L y = some q → ∃ i, i + 1 < L.length ∧ hit L y i ∧ q = ptB (pt L i) (pt L (i + 1)) y
  | [], q, h => by cases h
  | [_], q, h => by cases h
  | p :: r :: L, q, h => by
    have e : ptP (p :: r :: L) y = if p.1 ≤ y ∧ y ≤ r.1 then some (ptB p r y) else ptP (r :: L) y := rfl
    rw [e] at h
    by_cases h0 : p.1 ≤ y ∧ y ≤ r.1
    · rw [if_pos h0] at h
      injection h with h
      exact ⟨0, by simp, h0, h.symm⟩
    · rw [if_neg h0] at h
      obtain ⟨i, hi, hh, hq⟩ := ptP_some (r :: L) q h
      exact ⟨i + 1, by simp at hi ⊢; omega, hh, hq⟩
theorem ptR_bd {L : List Dt} (o : OkC L) (y : Int) : (-3060001 ≤ (ptR L y).1.2.1 ∧ (ptR L y).1.2.1 ≤ 3060001) ∧ -3001001 ≤ (ptR L y).1.2.2 ∧ (ptR L y).1.2.2 ≤ 3001001 := by
  cases h : ptP L y with
  | none => rw [ptR_none h]; simp
  | some q =>
    rw [ptR_some h]
    obtain ⟨i, hi, hh, rfl⟩ := ptP_some L q h
    have o0 := o.p (i := i) (by omega)
    have o1 := o.p (i := i + 1) hi
    have og := o.st i hi
    obtain ⟨hp1, hp2, hp3⟩ := o0
    obtain ⟨hq1, hq2, hq3⟩ := o1
    obtain ⟨h1, h2⟩ := hh
    unfold ptB
    simp only
    have ma := mul_bd (a := (pt L (i + 1)).2.1 - (pt L i).2.1) (b := y - (pt L i).1) (by omega) (by omega) (by omega) (by omega)
    have me := mul_bd (a := (pt L (i + 1)).2.2 - (pt L i).2.2) (b := y - (pt L i).1) (by omega) (by omega) (by omega) (by omega)
    have ba := rq_bd ma.1 ma.2 og.1
    have be := rq_bd me.1 me.2 og.1
    omega
theorem swt_bd {L : List Dt} {m : Int × Int} (o : OkC L) (hm : MsM.okM m = true) (y : Int) : 0 ≤ swt L m y ∧ swt L m y ≤ 7000000 := by
  obtain ⟨⟨a1, a2⟩, b1, b2⟩ := MsM.okM_iff.1 hm
  obtain ⟨_, hb1, hb2⟩ := ptR_bd o y
  unfold swt
  split
  · unfold wq
    omega
  · omega
set_option maxRecDepth 100000 in
set_option maxHeartbeats 8000000 in
theorem impl_any (a : Option Addr) (n : Nat) (L : List Dt) (A E y : Int) (w : World) (hn : n ≤ 1048576) (o : OkC L) (hm : MsM.okM (A, E) = true) (h : HoldsD w a n L) :
    Calls Try.prog 74 #[.slice a n n, .agg #[.int .i64 A, .int .i64 E], .int .i64 y] w fun e w' => e = .returned (.int .i64 (swt L (A, E) y)) ∧ Below w.heap.size w w' := by
  have hb0 := below_alloc w (.cells #[.int .i64 A, .int .i64 E] 45)
  have f1 := box_first w (.int .i64 A) (.int .i64 E) 45
  have f2 := box_second w (.int .i64 A) (.int .i64 E) 45
  have H := Lib.hid (h.below hb0)
  have HB := Lib.hid hb0
  obtain ⟨⟨a1, a2⟩, b1, b2⟩ := MsM.okM_iff.1 hm
  obtain ⟨⟨p1, p2⟩, q1, q2⟩ := ptR_bd o y
  obtain ⟨r, hr⟩ : ∃ r, r = swt L (A, E) y := ⟨_, rfl⟩
  rw [← hr]
  have HC := Lib.hid (fun W h => PtI.at_any a n L y W hn o h)
  unfold AtR at HC
  unfold swt at hr
  generalize ptR L y = p at *
  obtain ⟨⟨x, P, e⟩, ok⟩ := p
  simp only at p1 p2 q1 q2 HC hr
  have HR := Lib.hid hr
  clear h hb0 hm o hr
  go_enter Try.func74, Try.ntmps74
  go_wp2_with fail
  generalize w.alloc (.cells #[.int .i64 A, .int .i64 E] 45) = W at *
  refine (HC.out W H.out).mono ?_
  rintro e2 w2 ⟨rfl, b⟩
  have hbz := below_alloc w2 (.cells #[.int .i64 x, .int .i64 P, .int .i64 e] 75)
  obtain ⟨g1, g2, g3⟩ := box3 w2 (.int .i64 x) (.int .i64 P) (.int .i64 e) 75
  have bb := b.trans (hbz.mono b.size)
  replace f1 := (bb.cell (World.block_lt_of_cell? W _ f1)).trans f1
  replace f2 := (bb.cell (World.block_lt_of_cell? W _ f2)).trans f2
  replace HB := Lib.hid (HB.out.trans (bb.mono HB.out.size))
  clear b hbz bb HC H
  cases ok with
  | false =>
    have HF : Hid (r = 0) := HR.out.trans (by simp)
    clear f1 f2 g1 g2 g3
    go_wp2_with fail
    go_ret
    exact ⟨by rw [HF.out]; rfl, HB.out⟩
  | true =>
    have HF : Hid (r = max 0 (1 + 2 * (E + e) - max (A - P) (P - A))) := HR.out.trans (by simp [wq])
    have v1 : wrap64 (A - P) = A - P := by unfold wrap64; omega
    have v2 : wrap64 (P - A) = P - A := by unfold wrap64; omega
    have v3 : wrap64 (E + e) = E + e := by unfold wrap64; omega
    have v4 : wrap64 (2 * (E + e)) = 2 * (E + e) := by unfold wrap64; omega
    have v5 : wrap64 (1 + 2 * (E + e)) = 1 + 2 * (E + e) := by unfold wrap64; omega
    have v6 : wrap64 (1 + 2 * (E + e) - (P - A)) = 1 + 2 * (E + e) - (P - A) := by unfold wrap64; omega
    have v7 : wrap64 (1 + 2 * (E + e) - (A - P)) = 1 + 2 * (E + e) - (A - P) := by unfold wrap64; omega
    clear HR
    by_cases hd : A - P < P - A
    · have hd2 : ¬ P - A < A - P := by omega
      by_cases ht : 0 < 1 + 2 * (E + e) - (P - A)
      · have HG : Hid (r = 1 + 2 * (E + e) - (P - A)) := HF.out.trans (by omega)
        clear HF
        go_wp2_with fail
        go_ret
        exact ⟨by rw [HG.out]; rfl, HB.out⟩
      · have HG : Hid (r = 0) := HF.out.trans (by omega)
        clear HF
        go_wp2_with fail
        go_ret
        exact ⟨by rw [HG.out]; rfl, HB.out⟩
    · by_cases ht : 0 < 1 + 2 * (E + e) - (A - P)
      · have HG : Hid (r = 1 + 2 * (E + e) - (A - P)) := HF.out.trans (by omega)
        clear HF
        go_wp2_with fail
        go_ret
        exact ⟨by rw [HG.out]; rfl, HB.out⟩
      · have HG : Hid (r = 0) := HF.out.trans (by omega)
        clear HF
        go_wp2_with fail
        go_ret
        exact ⟨by rw [HG.out]; rfl, HB.out⟩
set_option maxRecDepth 100000 in
set_option maxHeartbeats 8000000 in
theorem spec_any (a : Option Addr) (n : Nat) (L : List Dt) (A E y : Int) (w : World) (hn : n ≤ 1048576) (o : OkC L) (hm : MsM.okM (A, E) = true) (h : HoldsD w a n L) :
    Calls Try.prog 69 #[.slice a n n, .agg #[.int .i64 A, .int .i64 E], .int .i64 y] w fun e w' => e = .returned (.int .i64 (swt L (A, E) y)) ∧ Below w.heap.size w w' := by
  have hb0 := below_alloc w (.cells #[.int .i64 A, .int .i64 E] 45)
  have f1 := box_first w (.int .i64 A) (.int .i64 E) 45
  have f2 := box_second w (.int .i64 A) (.int .i64 E) 45
  have H := Lib.hid (h.below hb0)
  have HB := Lib.hid hb0
  have hn1 : 1 ≤ n := by have := o.lo; rw [h.1] at this; omega
  obtain ⟨⟨a1, a2⟩, b1, b2⟩ := MsM.okM_iff.1 hm
  obtain ⟨⟨p1, p2⟩, q1, q2⟩ := ptR_bd o y
  obtain ⟨r, hr⟩ : ∃ r, r = swt L (A, E) y := ⟨_, rfl⟩
  rw [← hr]
  have HO := Lib.hid (fun hi => PtS.ptR_out (L := L) (y := y) o hi)
  have HC := Lib.hid (fun W hi h => PtS.at_any a n n L y W hn o hi h)
  unfold swt at hr
  generalize ptR L y = p at *
  obtain ⟨⟨x, P, e⟩, ok⟩ := p
  simp only at p1 p2 q1 q2 HC hr
  have HR := Lib.hid hr
  clear h hb0 hm o hr
  go_enter Try.func69, Try.ntmps69
  go_wp2_with fail
  generalize w.alloc (.cells #[.int .i64 A, .int .i64 E] 45) = W at *
  refine (PtS.years_any a n n L y W hn hn1 H.out).mono ?_
  rintro e2 w2 ⟨rfl, b⟩
  replace f1 := (b.cell (World.block_lt_of_cell? W _ f1)).trans f1
  replace f2 := (b.cell (World.block_lt_of_cell? W _ f2)).trans f2
  replace H := Lib.hid (H.out.below b)
  replace HB := Lib.hid (HB.out.trans (b.mono HB.out.size))
  clear b
  cases hi : inC L y with
  | false =>
    have hok : ok = false := by have := HO.out hi; injection this
    have HF : Hid (r = 0) := HR.out.trans (by rw [hok]; simp)
    clear f1 f2 hok hi
    go_wp2_with fail
    go_ret
    exact ⟨by rw [HF.out]; rfl, HB.out⟩
  | true =>
    have HC2 := Lib.hid (HC.out w2 hi H.out)
    clear hi HC HO
    go_wp2_with fail
    refine HC2.out.mono ?_
    rintro e2 w3 ⟨rfl, rfl, b⟩
    replace f1 := (b.cell (World.block_lt_of_cell? w2 _ f1)).trans f1
    replace f2 := (b.cell (World.block_lt_of_cell? w2 _ f2)).trans f2
    replace HB := Lib.hid (HB.out.trans (b.mono HB.out.size))
    have HF : Hid (r = max 0 (1 + 2 * (E + e) - max (A - P) (P - A))) := HR.out.trans (by simp [wq])
    have v1 : wrap64 (A - P) = A - P := by unfold wrap64; omega
    have v2 : wrap64 (P - A) = P - A := by unfold wrap64; omega
    have v3 : wrap64 (E + e) = E + e := by unfold wrap64; omega
    have v4 : wrap64 (2 * (E + e)) = 2 * (E + e) := by unfold wrap64; omega
    have v5 : wrap64 (1 + 2 * (E + e)) = 1 + 2 * (E + e) := by unfold wrap64; omega
    clear HR b HC2 H
    go_wp2_with fail
    refine (Ag.most_any (P - A) (A - P) _).mono ?_
    rintro e2 w4 ⟨rfl, b⟩
    replace f1 := (b.cell (World.block_lt_of_cell? w3 _ f1)).trans f1
    replace f2 := (b.cell (World.block_lt_of_cell? w3 _ f2)).trans f2
    replace HB := Lib.hid (HB.out.trans (b.mono HB.out.size))
    obtain ⟨d, hd⟩ : ∃ d, max (P - A) (A - P) = d := ⟨_, rfl⟩
    have HG : Hid (r = max (1 + 2 * (E + e) - d) 0) := HF.out.trans (by omega)
    have v6 : wrap64 (1 + 2 * (E + e) - d) = 1 + 2 * (E + e) - d := by unfold wrap64; omega
    rw [hd]
    clear HF b hd v1 v2
    go_wp2_with fail
    refine (Ag.most_any (1 + 2 * (E + e) - d) 0 _).mono ?_
    rintro e2 w5 ⟨rfl, b⟩
    replace HB := Lib.hid (HB.out.trans (b.mono HB.out.size))
    clear b f1 f2
    generalize max (1 + 2 * (E + e) - d) 0 = t at *
    go_wp2_with fail
    go_ret
    exact ⟨by rw [HG.out]; rfl, HB.out⟩
end Go.Proofs.Ytlpcgchekhoieaa.Sw
