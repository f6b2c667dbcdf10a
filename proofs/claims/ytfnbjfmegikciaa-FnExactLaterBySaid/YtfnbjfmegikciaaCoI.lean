/- The program's CombineDistributions. -/
import Derived.Test.YtfnbjfmegikciaaCoM
import Derived.Test.YtfnbjfmegikciaaCoC
import Derived.Test.YtfnbjfmegikciaaOvI
namespace Go.Proofs.Ytfnbjfmegikciaa.CoI
open Go Go.RowKit Go.Shelf Pairs Rec Keep GivesI DvM DvG DvI Di ShI RdM Yr AtM WwI CoM CoC
set_option linter.unusedVariables false
theorem three3 (w : World) (o1 o2 : Obj) (u v : Value) (t : TypeId) : Bx (((w.alloc o1).alloc o2).alloc (.cells #[u, v] t)) (w.heap.size + 2) u v := by
  have h := bx_new ((w.alloc o1).alloc o2) u v t
  have e : ((w.alloc o1).alloc o2).heap.size = w.heap.size + 2 := by simp
  rw [e] at h
  exact h
set_option maxRecDepth 100000 in
set_option maxHeartbeats 16000000 in
theorem impl_any (fa : Int) (pa : Option Addr) (na ca : Nat) (Ma : List Int) (fb : Int) (pb : Option Addr) (nb cb : Nat) (Mb : List Int) (w : World) (hna : na ≤ 1048576) (hnb : nb ≤ 1048576) (ha : HoldsI w pa na Ma) (hb : HoldsI w pb nb Mb) :
    Calls Try.prog 30 #[.agg #[.int .i64 fa, .slice pa na ca], .agg #[.int .i64 fb, .slice pb nb cb]] w (ResZ (coP fa Ma fb Mb).isSome ((coP fa Ma fb Mb).getD (0, [])).1 ((coP fa Ma fb Mb).getD (0, [])).2 w) := by
  have HLA := Lib.hid ha.1
  have HLB := Lib.hid hb.1
  obtain ⟨hs, x1, x2, y1, y2, -, -, hb0⟩ := two w (.int .i64 fa) (.slice pa na ca) (.int .i64 fb) (.slice pb nb cb) 27 27
  have b3 := below_alloc ((w.alloc (.cells #[.int .i64 fa, .slice pa na ca] 27)).alloc (.cells #[.int .i64 fb, .slice pb nb cb] 27)) (.cells #[.int .i64 0, .slice none 0 0] 27)
  replace x1 := (b3.cell (p := ⟨w.heap.size, 0, none⟩) (by show w.heap.size < _; omega)).trans x1
  replace x2 := (b3.cell (p := ⟨w.heap.size, 1, none⟩) (by show w.heap.size < _; omega)).trans x2
  replace y1 := (b3.cell (p := ⟨w.heap.size + 1, 0, none⟩) (by show w.heap.size + 1 < _; omega)).trans y1
  replace y2 := (b3.cell (p := ⟨w.heap.size + 1, 1, none⟩) (by show w.heap.size + 1 < _; omega)).trans y2
  have BX := Lib.hid (three3 w (.cells #[.int .i64 fa, .slice pa na ca] 27) (.cells #[.int .i64 fb, .slice pb nb cb] 27) (.int .i64 0) (.slice none 0 0) 27)
  have hbb := hb0.trans (b3.mono hb0.size)
  have HA := Lib.hid (ha.below hbb)
  have HB' := Lib.hid (hb.below hbb)
  have HB := Lib.hid hbb
  clear ha hb hb0 hs b3 hbb
  go_enter Try.func30, Try.ntmps30
  go_wp2_with fail
  generalize ((w.alloc (.cells #[.int .i64 fa, .slice pa na ca] 27)).alloc (.cells #[.int .i64 fb, .slice pb nb cb] 27)).alloc (.cells #[.int .i64 0, .slice none 0 0] 27) = W at *
  refine (valid_any fa pa na ca Ma W hna HA.out).mono ?_
  rintro e w1 ⟨rfl, b⟩
  have hlt2 := BX.out.lt
  replace x1 := (b.cell (p := ⟨w.heap.size, 0, none⟩) (by show w.heap.size < _; omega)).trans x1
  replace x2 := (b.cell (p := ⟨w.heap.size, 1, none⟩) (by show w.heap.size < _; omega)).trans x2
  replace y1 := (b.cell (p := ⟨w.heap.size + 1, 0, none⟩) (by show w.heap.size + 1 < _; omega)).trans y1
  replace y2 := (b.cell (p := ⟨w.heap.size + 1, 1, none⟩) (by show w.heap.size + 1 < _; omega)).trans y2
  replace HA := Lib.hid (HA.out.below b)
  replace HB' := Lib.hid (HB'.out.below b)
  replace BX := Lib.hid (BX.out.below b)
  replace HB := Lib.hid (HB.out.trans (b.mono HB.out.size))
  clear b hlt2
  cases hva : okD fa Ma with
  | false =>
    have HN := Lib.hid (coP_no (fa := fa) (Ma := Ma) (fb := fb) (Mb := Mb) fun e _ => by rw [hva] at e; cases e)
    obtain ⟨c0, c1, f0, f1, lt1⟩ := BX.out
    go_wp2_with fail
    try simp only [Exit.inBlock, Exit.then]
    refine bodyPost_ret (v := .tuple #[.agg #[.int .i64 0, .slice none 0 0], .bool false]) (by simp [results, Try.results30, go_sem, c0, c1]) rfl ?_
    rw [HN.out]
    exact ⟨none, 0, 0, rfl, World.ownsRow_nil _ _ _ _, by omega, (HB.out.setCell (p := ⟨w.heap.size + 2, 0, none⟩) (by show w.heap.size ≤ w.heap.size + 2; omega) _).setCell (p := ⟨w.heap.size + 2, 1, none⟩) (by show w.heap.size ≤ w.heap.size + 2; omega) _⟩
  | true =>
  go_wp2_with fail
  refine (valid_any fb pb nb cb Mb w1 hnb HB'.out).mono ?_
  rintro e w2 ⟨rfl, b⟩
  have hlt2 := BX.out.lt
  replace x1 := (b.cell (p := ⟨w.heap.size, 0, none⟩) (by show w.heap.size < _; omega)).trans x1
  replace x2 := (b.cell (p := ⟨w.heap.size, 1, none⟩) (by show w.heap.size < _; omega)).trans x2
  replace y1 := (b.cell (p := ⟨w.heap.size + 1, 0, none⟩) (by show w.heap.size + 1 < _; omega)).trans y1
  replace y2 := (b.cell (p := ⟨w.heap.size + 1, 1, none⟩) (by show w.heap.size + 1 < _; omega)).trans y2
  replace HA := Lib.hid (HA.out.below b)
  replace HB' := Lib.hid (HB'.out.below b)
  replace BX := Lib.hid (BX.out.below b)
  replace HB := Lib.hid (HB.out.trans (b.mono HB.out.size))
  clear b hlt2
  cases hvb : okD fb Mb with
  | false =>
    have HN := Lib.hid (coP_no (fa := fa) (Ma := Ma) (fb := fb) (Mb := Mb) fun _ e => by rw [hvb] at e; cases e)
    obtain ⟨c0, c1, f0, f1, lt1⟩ := BX.out
    clear hva
    go_wp2_with fail
    try simp only [Exit.inBlock, Exit.then]
    refine bodyPost_ret (v := .tuple #[.agg #[.int .i64 0, .slice none 0 0], .bool false]) (by simp [results, Try.results30, go_sem, c0, c1]) rfl ?_
    rw [HN.out]
    exact ⟨none, 0, 0, rfl, World.ownsRow_nil _ _ _ _, by omega, (HB.out.setCell (p := ⟨w.heap.size + 2, 0, none⟩) (by show w.heap.size ≤ w.heap.size + 2; omega) _).setCell (p := ⟨w.heap.size + 2, 1, none⟩) (by show w.heap.size ≤ w.heap.size + 2; omega) _⟩
  | true =>
  have HVA := Lib.hid hva
  have HVB := Lib.hid hvb
  have OA := Lib.hid (okD_iff.1 hva)
  have OB := Lib.hid (okD_iff.1 hvb)
  have HMA := Lib.hid (show ∀ x ∈ Ma, 0 ≤ x ∧ x ≤ 1000000 from fun x hx => upTo_mem OA.out.all hx)
  have HMB := Lib.hid (show ∀ x ∈ Mb, 0 ≤ x ∧ x ≤ 1000000 from fun x hx => upTo_mem OB.out.all hx)
  have l1 : -20000 ≤ fa := OA.out.lo
  have l2 : fa ≤ 2100 := by have h1 := OA.out.hi; have h2 := OA.out.pos; omega
  have l3 : -20000 ≤ fb := OB.out.lo
  have l4 : fb ≤ 2100 := by have h1 := OB.out.hi; have h2 := OB.out.pos; omega
  have HQ := Lib.hid (show fa + na - 1 ≤ 2100 ∧ fb + nb - 1 ≤ 2100 by have h1 := OA.out.hi; have h2 := OB.out.hi; rw [HLA.out] at h1; rw [HLB.out] at h2; omega)
  have HO : Hid (∀ v, Below w2.heap.size w2 v → Calls Try.prog 57 #[.agg #[.int .i64 (max fa fb), .int .i64 (min (fa + na - 1) (fb + nb - 1))], .func (.func 59) #[] #[.pointer (some ⟨w.heap.size, 0, none⟩), .pointer (some ⟨w.heap.size + 1, 0, none⟩)]] v (ResZ (coP fa Ma fb Mb).isSome ((coP fa Ma fb Mb).getD (0, [])).1 ((coP fa Ma fb Mb).getD (0, [])).2 v)) := by
    intro v hv
    have hq := HQ.out
    rw [coP_cut HVA.out HVB.out, HLA.out, HLB.out]
    refine OvI.over_any 59 _ (pr fa Ma fb Mb) _ _ v (by omega) ?_ (fun y => by have := pr_bd (fa := fa) (fb := fb) HMA.out HMB.out y; omega) (fun args W => FuncI.call_enter Try.func59 (by kernel_rfl) rfl args W) ?_
    · have h1 := OA.out.pos
      have h2 := OB.out.pos
      rw [HLA.out] at h1
      rw [HLB.out] at h2
      omega
    · intro y wr hy1 hy2 hbr
      have bb := hv.trans (hbr.mono hv.size)
      have hl2 := BX.out.lt
      exact CoC.clo_any fa pa na ca Ma fb pb nb cb Mb y w.heap.size (w.heap.size + 1) wr hna hnb (by omega) (by omega) (by omega) HMA.out HMB.out (HA.out.below bb) (HB'.out.below bb) ((bb.cell (p := ⟨w.heap.size, 0, none⟩) (by show w.heap.size < _; omega)).trans x1) ((bb.cell (p := ⟨w.heap.size, 1, none⟩) (by show w.heap.size < _; omega)).trans x2) ((bb.cell (p := ⟨w.heap.size + 1, 0, none⟩) (by show w.heap.size + 1 < _; omega)).trans y1) ((bb.cell (p := ⟨w.heap.size + 1, 1, none⟩) (by show w.heap.size + 1 < _; omega)).trans y2)
  obtain ⟨r, hr⟩ : ∃ r, r = coP fa Ma fb Mb := ⟨_, rfl⟩
  rw [← hr] at HO
  have HRR := Lib.hid hr
  have HLT := Lib.hid BX.out.lt
  have ltA : w.heap.size < w2.heap.size := by have := BX.out.lt; omega
  have ltB : w.heap.size + 1 < w2.heap.size := by have := BX.out.lt; omega
  clear hr hva hvb
  go_wp2_with fail
  have bw : Below w2.heap.size w2 w2.drew := (Below.refl w2.heap.size w2).drew
  go_region_held3 (fun w' => w'.cell? ⟨w.heap.size, 0, none⟩ = some (.int .i64 fa) ∧ w'.cell? ⟨w.heap.size, 1, none⟩ = some (.slice pa na ca) ∧ w'.cell? ⟨w.heap.size + 1, 0, none⟩ = some (.int .i64 fb) ∧ w'.cell? ⟨w.heap.size + 1, 1, none⟩ = some (.slice pb nb cb))
    (first | go_keep | (exact ⟨by assumption, by assumption, by assumption, by assumption⟩))
    (first
      | (go_at_call 45; refine (years_any _ _ _ _ _ (by assumption) (by assumption) (by assumption)).mono ?_; rintro e v ⟨rfl, b⟩; replace bw := bw.trans (b.mono bw.size); have q1 := (bw.cell (p := ⟨w.heap.size, 0, none⟩) ltA).trans x1; have q2 := (bw.cell (p := ⟨w.heap.size, 1, none⟩) ltA).trans x2; have q3 := (bw.cell (p := ⟨w.heap.size + 1, 0, none⟩) ltB).trans y1; have q4 := (bw.cell (p := ⟨w.heap.size + 1, 1, none⟩) ltB).trans y2)
      | (go_at_call 58; refine (CoC.common_any _ _ _ _ _).mono ?_; rintro e v ⟨rfl, b⟩; replace bw := bw.trans (b.mono bw.size); have q1 := (bw.cell (p := ⟨w.heap.size, 0, none⟩) ltA).trans x1; have q2 := (bw.cell (p := ⟨w.heap.size, 1, none⟩) ltA).trans x2; have q3 := (bw.cell (p := ⟨w.heap.size + 1, 0, none⟩) ltB).trans y1; have q4 := (bw.cell (p := ⟨w.heap.size + 1, 1, none⟩) ltB).trans y2)
      | (go_at_call 57; refine (HO.out _ bw).mono ?_; rintro e v ⟨p3, k3, d3, rfl, o3, hk3, b⟩; have hzv := bw.size; replace BX := Lib.hid (BX.out.below (bw.trans (b.mono bw.size))); replace bw := bw.trans (b.mono bw.size); have q1 := (bw.cell (p := ⟨w.heap.size, 0, none⟩) ltA).trans x1; have q2 := (bw.cell (p := ⟨w.heap.size, 1, none⟩) ltA).trans x2; have q3 := (bw.cell (p := ⟨w.heap.size + 1, 0, none⟩) ltB).trans y1; have q4 := (bw.cell (p := ⟨w.heap.size + 1, 1, none⟩) ltB).trans y2; obtain ⟨c0, c1, f0, f1, lt1⟩ := BX.out; have s1 := cell_off (k := w.heap.size + 2) (.int .i64 (r.getD (0, [])).1) (.slice p3 k3 d3) q1 (by omega); have s2 := cell_off (k := w.heap.size + 2) (.int .i64 (r.getD (0, [])).1) (.slice p3 k3 d3) q2 (by omega); have s3 := cell_off (k := w.heap.size + 2) (.int .i64 (r.getD (0, [])).1) (.slice p3 k3 d3) q3 (by omega); have s4 := cell_off (k := w.heap.size + 2) (.int .i64 (r.getD (0, [])).1) (.slice p3 k3 d3) q4 (by omega)))
  all_goals (clear q1 q2 q3 q4 s1 s2 s3 s4)
  all_goals go_wp2_with fail
  all_goals (try simp only [Exit.inBlock, Exit.then])
  all_goals (refine bodyPost_ret (v := .tuple #[.agg #[.int .i64 (r.getD (0, [])).1, .slice p3 k3 d3], .bool r.isSome]) (by simp [results, Try.results30, go_sem, c0, c1]) rfl ?_)
  all_goals
    have O2 := ownsRow_setCell_below (ownsRow_setCell_below o3 (a := ⟨w.heap.size + 2, 0, none⟩) (by show w.heap.size + 2 < _; have := HLT.out; omega) (.int .i64 (r.getD (0, [])).1)) (a := ⟨w.heap.size + 2, 1, none⟩) (by show w.heap.size + 2 < _; have := HLT.out; omega) (.slice p3 k3 d3)
    have hbz := HB.out.trans (bw.mono HB.out.size)
    rw [← HRR.out]
    exact ⟨p3, k3, d3, rfl, ownsRow_base O2 (by omega), hk3, (hbz.setCell (p := ⟨w.heap.size + 2, 0, none⟩) (by show w.heap.size ≤ w.heap.size + 2; omega) _).setCell (p := ⟨w.heap.size + 2, 1, none⟩) (by show w.heap.size ≤ w.heap.size + 2; omega) _⟩
end Go.Proofs.Ytfnbjfmegikciaa.CoI
