/- The program's LaterBy. -/
import Derived.Test.YtfnbjfmegikciaaLbC
import Derived.Test.YtfnbjfmegikciaaCoI
import Derived.Deep.DeepCutAuto
namespace Go.Proofs.Ytfnbjfmegikciaa.LbI
open Go Go.RowKit Go.Shelf Pairs Rec Keep GivesI DvM DvG DvI Di ShI RdM Yr AtM WwI LbC
set_option linter.unusedVariables false
/-- By how much b is later than a. -/
def lbP (fa : Int) (Ma : List Int) (fb : Int) (Mb : List Int) : Option (Int × List Int) :=
  if okD fa Ma && okD fb Mb then red (fb - (fa + Ma.length - 1)) ((yrs (fb - (fa + Ma.length - 1)) (fb + Mb.length - 1 - fa)).map fun n => lw fa Ma fb Mb n (yrs fa (fa + Ma.length - 1))) else none
theorem lbP_no {fa fb : Int} {Ma Mb : List Int} (h : okD fa Ma = true → okD fb Mb = true → False) : lbP fa Ma fb Mb = none := by
  unfold lbP
  rw [if_neg]
  intro e
  rw [Bool.and_eq_true] at e
  exact h e.1 e.2
theorem lbP_yes {fa fb : Int} {Ma Mb : List Int} (h1 : okD fa Ma = true) (h2 : okD fb Mb = true) : lbP fa Ma fb Mb = red (fb - (fa + Ma.length - 1)) ((yrs (fb - (fa + Ma.length - 1)) (fb + Mb.length - 1 - fa)).map fun n => lw fa Ma fb Mb n (yrs fa (fa + Ma.length - 1))) := by
  unfold lbP
  rw [h1, h2]
  rfl
theorem three3 (w : World) (o1 o2 : Obj) (u v : Value) (t : TypeId) : Bx (((w.alloc o1).alloc o2).alloc (.cells #[u, v] t)) (w.heap.size + 2) u v := by
  have h := bx_new ((w.alloc o1).alloc o2) u v t
  have e : ((w.alloc o1).alloc o2).heap.size = w.heap.size + 2 := by simp
  rw [e] at h
  exact h
set_option maxRecDepth 100000 in
set_option maxHeartbeats 16000000 in
theorem impl_any (fa : Int) (pa : Option Addr) (na ca : Nat) (Ma : List Int) (fb : Int) (pb : Option Addr) (nb cb : Nat) (Mb : List Int) (w : World) (hna : na ≤ 1048576) (hnb : nb ≤ 1048576) (ha : HoldsI w pa na Ma) (hb : HoldsI w pb nb Mb) :
    Calls Try.prog 32 #[.agg #[.int .i64 fa, .slice pa na ca], .agg #[.int .i64 fb, .slice pb nb cb]] w (ResZ (lbP fa Ma fb Mb).isSome ((lbP fa Ma fb Mb).getD (0, [])).1 ((lbP fa Ma fb Mb).getD (0, [])).2 w) := by
  have HLA := Lib.hid ha.1
  have HLB := Lib.hid hb.1
  obtain ⟨hs, x1, x2, y1, y2, -, -, hb0⟩ := two w (.int .i64 fa) (.slice pa na ca) (.int .i64 fb) (.slice pb nb cb) 27 27
  have b3 := below_alloc ((w.alloc (.cells #[.int .i64 fa, .slice pa na ca] 27)).alloc (.cells #[.int .i64 fb, .slice pb nb cb] 27)) (.cells #[.int .i64 0, .slice none 0 0] 27)
  replace x1 := (b3.cell (p := ⟨w.heap.size, 0, none⟩) (by show w.heap.size < _; omega)).trans x1
  replace x2 := (b3.cell (p := ⟨w.heap.size, 1, none⟩) (by show w.heap.size < _; omega)).trans x2
  replace y1 := (b3.cell (p := ⟨w.heap.size + 1, 0, none⟩) (by show w.heap.size + 1 < _; omega)).trans y1
  replace y2 := (b3.cell (p := ⟨w.heap.size + 1, 1, none⟩) (by show w.heap.size + 1 < _; omega)).trans y2
  have BX := Lib.hid (three3 w (.cells #[.int .i64 fa, .slice pa na ca] 27) (.cells #[.int .i64 fb, .slice pb nb cb] 27) (.int .i64 0) (.slice none 0 0) 27)
  have hbb := hb0.trans (b3.mono hb0.size)
  have HA := Lib.hid (ha.below hbb)
  have HB' := Lib.hid (hb.below hbb)
  have HB := Lib.hid hbb
  clear ha hb hb0 hs b3 hbb
  go_enter Try.func32, Try.ntmps32
  go_wp2_with fail
  generalize ((w.alloc (.cells #[.int .i64 fa, .slice pa na ca] 27)).alloc (.cells #[.int .i64 fb, .slice pb nb cb] 27)).alloc (.cells #[.int .i64 0, .slice none 0 0] 27) = W at *
  refine (valid_any fa pa na ca Ma W hna HA.out).mono ?_
  rintro e w1 ⟨rfl, b⟩
  have hlt2 := BX.out.lt
  replace x1 := (b.cell (p := ⟨w.heap.size, 0, none⟩) (by show w.heap.size < _; omega)).trans x1
  replace x2 := (b.cell (p := ⟨w.heap.size, 1, none⟩) (by show w.heap.size < _; omega)).trans x2
  replace y1 := (b.cell (p := ⟨w.heap.size + 1, 0, none⟩) (by show w.heap.size + 1 < _; omega)).trans y1
  replace y2 := (b.cell (p := ⟨w.heap.size + 1, 1, none⟩) (by show w.heap.size + 1 < _; omega)).trans y2
  replace HA := Lib.hid (HA.out.below b)
  replace HB' := Lib.hid (HB'.out.below b)
  replace BX := Lib.hid (BX.out.below b)
  replace HB := Lib.hid (HB.out.trans (b.mono HB.out.size))
  clear b hlt2
  cases hva : okD fa Ma with
  | false =>
    have HN := Lib.hid (lbP_no (fa := fa) (Ma := Ma) (fb := fb) (Mb := Mb) fun e _ => by rw [hva] at e; cases e)
    obtain ⟨c0, c1, f0, f1, lt1⟩ := BX.out
    go_wp2_with fail
    try simp only [Exit.inBlock, Exit.then]
    refine bodyPost_ret (v := .tuple #[.agg #[.int .i64 0, .slice none 0 0], .bool false]) (by simp [results, Try.results32, go_sem, c0, c1]) rfl ?_
    rw [HN.out]
    exact ⟨none, 0, 0, rfl, World.ownsRow_nil _ _ _ _, by omega, (HB.out.setCell (p := ⟨w.heap.size + 2, 0, none⟩) (by show w.heap.size ≤ w.heap.size + 2; omega) _).setCell (p := ⟨w.heap.size + 2, 1, none⟩) (by show w.heap.size ≤ w.heap.size + 2; omega) _⟩
  | true =>
  go_wp2_with fail
  refine (valid_any fb pb nb cb Mb w1 hnb HB'.out).mono ?_
  rintro e w2 ⟨rfl, b⟩
  have hlt2 := BX.out.lt
  replace x1 := (b.cell (p := ⟨w.heap.size, 0, none⟩) (by show w.heap.size < _; omega)).trans x1
  replace x2 := (b.cell (p := ⟨w.heap.size, 1, none⟩) (by show w.heap.size < _; omega)).trans x2
  replace y1 := (b.cell (p := ⟨w.heap.size + 1, 0, none⟩) (by show w.heap.size + 1 < _; omega)).trans y1
  replace y2 := (b.cell (p := ⟨w.heap.size + 1, 1, none⟩) (by show w.heap.size + 1 < _; omega)).trans y2
  replace HA := Lib.hid (HA.out.below b)
  replace HB' := Lib.hid (HB'.out.below b)
  replace BX := Lib.hid (BX.out.below b)
  replace HB := Lib.hid (HB.out.trans (b.mono HB.out.size))
  clear b hlt2
  cases hvb : okD fb Mb with
  | false =>
    have HN := Lib.hid (lbP_no (fa := fa) (Ma := Ma) (fb := fb) (Mb := Mb) fun _ e => by rw [hvb] at e; cases e)
    obtain ⟨c0, c1, f0, f1, lt1⟩ := BX.out
    clear hva
    go_wp2_with fail
    try simp only [Exit.inBlock, Exit.then]
    refine bodyPost_ret (v := .tuple #[.agg #[.int .i64 0, .slice none 0 0], .bool false]) (by simp [results, Try.results32, go_sem, c0, c1]) rfl ?_
    rw [HN.out]
    exact ⟨none, 0, 0, rfl, World.ownsRow_nil _ _ _ _, by omega, (HB.out.setCell (p := ⟨w.heap.size + 2, 0, none⟩) (by show w.heap.size ≤ w.heap.size + 2; omega) _).setCell (p := ⟨w.heap.size + 2, 1, none⟩) (by show w.heap.size ≤ w.heap.size + 2; omega) _⟩
  | true =>
  have HVA := Lib.hid hva
  have HVB := Lib.hid hvb
  have OA := Lib.hid (okD_iff.1 hva)
  have OB := Lib.hid (okD_iff.1 hvb)
  have HMA := Lib.hid (show ∀ x ∈ Ma, 0 ≤ x ∧ x ≤ 1000000 from fun x hx => upTo_mem OA.out.all hx)
  have HMB := Lib.hid (show ∀ x ∈ Mb, 0 ≤ x ∧ x ≤ 1000000 from fun x hx => upTo_mem OB.out.all hx)
  have l1 : -20000 ≤ fa := OA.out.lo
  have l2 : fa ≤ 2100 := by have h1 := OA.out.hi; have h2 := OA.out.pos; omega
  have l3 : -20000 ≤ fb := OB.out.lo
  have l4 : fb ≤ 2100 := by have h1 := OB.out.hi; have h2 := OB.out.pos; omega
  obtain ⟨ea, hea⟩ : ∃ ea : Int, ea = fa + na - 1 := ⟨_, rfl⟩
  obtain ⟨eb, heb⟩ : ∃ eb : Int, eb = fb + nb - 1 := ⟨_, rfl⟩
  have hq : ea ≤ 2100 ∧ eb ≤ 2100 ∧ fa ≤ ea ∧ fb ≤ eb ∧ na ≤ 60 := by have h1 := OA.out.hi; have h2 := OB.out.hi; have h3 := OA.out.pos; have h4 := OB.out.pos; have h5 := OA.out.len; rw [HLA.out] at h1 h3 h5; rw [HLB.out] at h2 h4; omega
  have HO : Hid (∀ v, Below w2.heap.size w2 v → Calls Try.prog 57 #[.agg #[.int .i64 (fb - ea), .int .i64 (eb - fa)], .func (.func 60) #[] #[.pointer (some ⟨w.heap.size, 0, none⟩), .pointer (some ⟨w.heap.size + 1, 0, none⟩)]] v (ResZ (lbP fa Ma fb Mb).isSome ((lbP fa Ma fb Mb).getD (0, [])).1 ((lbP fa Ma fb Mb).getD (0, [])).2 v)) := by
    intro v hv
    rw [lbP_yes HVA.out HVB.out, HLA.out, HLB.out, ← hea, ← heb]
    refine OvI.over_any 60 _ (fun n => lw fa Ma fb Mb n (yrs fa ea)) _ _ v (by omega) (by omega) (fun y => by
      have h1 := lw_bd (fa := fa) (fb := fb) HMA.out HMB.out y (yrs fa ea)
      rw [yrs_len] at h1
      omega) (fun args W => FuncI.call_enter Try.func60 (by kernel_rfl) rfl args W) ?_
    intro y wr hy1 hy2 hbr
    have bb := hv.trans (hbr.mono hv.size)
    have hl2 := BX.out.lt
    have hc := LbC.clo_any fa pa na ca Ma fb pb nb cb Mb y w.heap.size (w.heap.size + 1) wr hna hnb (by omega) (by omega) (by omega) (by omega) HMA.out HMB.out (HA.out.below bb) (HB'.out.below bb) ((bb.cell (p := ⟨w.heap.size, 0, none⟩) (by show w.heap.size < _; omega)).trans x1) ((bb.cell (p := ⟨w.heap.size, 1, none⟩) (by show w.heap.size < _; omega)).trans x2) ((bb.cell (p := ⟨w.heap.size + 1, 0, none⟩) (by show w.heap.size + 1 < _; omega)).trans y1) ((bb.cell (p := ⟨w.heap.size + 1, 1, none⟩) (by show w.heap.size + 1 < _; omega)).trans y2)
    rw [← hea] at hc
    exact hc
  have HYA : Hid (∀ W, Calls Try.prog 45 #[.agg #[.int .i64 fa, .slice pa na ca]] W fun e w'' => e = .returned (.agg #[.int .i64 fa, .int .i64 ea]) ∧ Below W.heap.size W w'') := by intro W; rw [hea]; exact years_any fa pa na ca _ l1 l2 hna
  have HYB : Hid (∀ W, Calls Try.prog 45 #[.agg #[.int .i64 fb, .slice pb nb cb]] W fun e w'' => e = .returned (.agg #[.int .i64 fb, .int .i64 eb]) ∧ Below W.heap.size W w'') := by intro W; rw [heb]; exact years_any fb pb nb cb _ l3 l4 hnb
  obtain ⟨r, hr⟩ : ∃ r, r = lbP fa Ma fb Mb := ⟨_, rfl⟩
  rw [← hr] at HO
  have HRR := Lib.hid hr
  have HLT := Lib.hid BX.out.lt
  have ltA : w.heap.size < w2.heap.size := by have := BX.out.lt; omega
  have ltB : w.heap.size + 1 < w2.heap.size := by have := BX.out.lt; omega
  have hw1 : IntKind.i64.wrap (fb - ea) = fb - ea := by rw [IntKind.wrap_i64]; omega
  have hw2 : IntKind.i64.wrap (eb - fa) = eb - fa := by rw [IntKind.wrap_i64]; omega
  clear hr hva hvb hea heb hq
  have fA := fld1 fa ea
  have fB := fld1 fb eb
  have bw : Below w2.heap.size w2 w2.drew := (Below.refl w2.heap.size w2).drew
  have ba : Below w2.heap.size w2 (w2.alloc (.cells #[.int .i64 0, .int .i64 0] 53)).drew := (below_alloc w2 (.cells #[.int .i64 0, .int .i64 0] 53)).drew
  have NB0 := Lib.hid ((bx_new w2 (.int .i64 0) (.int .i64 0) 53).below ((Below.refl (w2.alloc (.cells #[.int .i64 0, .int .i64 0] 53)).heap.size _).drew))
  have s1 := (ba.cell (p := ⟨w.heap.size, 0, none⟩) ltA).trans x1
  have s2 := (ba.cell (p := ⟨w.heap.size, 1, none⟩) ltA).trans x2
  have s3 := (ba.cell (p := ⟨w.heap.size + 1, 0, none⟩) ltB).trans y1
  have s4 := (ba.cell (p := ⟨w.heap.size + 1, 1, none⟩) ltB).trans y2
  go_upto_region 3 with fail
  go_cut [6] (fun sx wc => ∃ gb, sx = .pointer (some ⟨gb, 0, none⟩) ∧ Hid (Bx wc gb (.int .i64 (fb - ea)) (.int .i64 (eb - fa)) ∧ Below w2.heap.size w2 wc))
  case first =>
      go_region_held3 (fun w' => w'.cell? ⟨w.heap.size, 0, none⟩ = some (.int .i64 fa) ∧ w'.cell? ⟨w.heap.size, 1, none⟩ = some (.slice pa na ca) ∧ w'.cell? ⟨w.heap.size + 1, 0, none⟩ = some (.int .i64 fb) ∧ w'.cell? ⟨w.heap.size + 1, 1, none⟩ = some (.slice pb nb cb))
        (first | go_keep | (exact ⟨by first | assumption | exact za1 _ | exact t1 _ (by first | exact hN | exact bw.size) _ _, by first | assumption | exact za2 _ | exact t2 _ (by first | exact hN | exact bw.size) _ _, by first | assumption | exact za3 _ | exact t3 _ (by first | exact hN | exact bw.size) _ _, by first | assumption | exact za4 _ | exact t4 _ (by first | exact hN | exact bw.size) _ _⟩))
        (first
          | ((first | (go_at_call 45; with_reducible refine (HYA.out _).mono ?_) | (go_at_call 45; with_reducible refine (HYB.out _).mono ?_)); rintro e v ⟨rfl, b⟩; (first | (have N := Lib.hid (N.out.below b); replace bw := bw.trans (b.mono bw.size)) | (have N := Lib.hid (NB0.out.below b); have hN := Nat.le_refl w2.heap.size; replace bw := ba.trans (b.mono ba.size)) | (have N := Lib.hid (Bx.below (bx_new _ (.int .i64 0) (.int .i64 0) 53) b); have hN := bw.size; replace bw := ba.trans (b.mono ba.size)) | (replace bw := bw.trans (b.mono bw.size))); (first | (obtain ⟨n0, n1, n2, n3, -⟩ := N.out) | skip); have q1 := (bw.cell (p := ⟨w.heap.size, 0, none⟩) ltA).trans x1; have q2 := (bw.cell (p := ⟨w.heap.size, 1, none⟩) ltA).trans x2; have q3 := (bw.cell (p := ⟨w.heap.size + 1, 0, none⟩) ltB).trans y1; have q4 := (bw.cell (p := ⟨w.heap.size + 1, 1, none⟩) ltB).trans y2; replace ba := bw.trans ((below_alloc v (.cells #[.int .i64 0, .int .i64 0] 53)).mono bw.size); have s1 := (ba.cell (p := ⟨w.heap.size, 0, none⟩) ltA).trans x1; have s2 := (ba.cell (p := ⟨w.heap.size, 1, none⟩) ltA).trans x2; have s3 := (ba.cell (p := ⟨w.heap.size + 1, 0, none⟩) ltB).trans y1; have s4 := (ba.cell (p := ⟨w.heap.size + 1, 1, none⟩) ltB).trans y2; have za1 := fun (o : Obj) => ((bw.trans ((below_alloc v o).mono bw.size)).cell (p := ⟨w.heap.size, 0, none⟩) ltA).trans x1; have za2 := fun (o : Obj) => ((bw.trans ((below_alloc v o).mono bw.size)).cell (p := ⟨w.heap.size, 1, none⟩) ltA).trans x2; have za3 := fun (o : Obj) => ((bw.trans ((below_alloc v o).mono bw.size)).cell (p := ⟨w.heap.size + 1, 0, none⟩) ltB).trans y1; have za4 := fun (o : Obj) => ((bw.trans ((below_alloc v o).mono bw.size)).cell (p := ⟨w.heap.size + 1, 1, none⟩) ltB).trans y2; have t1 := fun k (hk : w2.heap.size ≤ k) u' v' => cell_off (k := k) u' v' q1 (by omega); have t2 := fun k (hk : w2.heap.size ≤ k) u' v' => cell_off (k := k) u' v' q2 (by omega); have t3 := fun k (hk : w2.heap.size ≤ k) u' v' => cell_off (k := k) u' v' q3 (by omega); have t4 := fun k (hk : w2.heap.size ≤ k) u' v' => cell_off (k := k) u' v' q4 (by omega)))
      all_goals go_wp2_with fail
      all_goals go_meet
      all_goals exact ⟨_, rfl, by first | exact ⟨bx_new _ _ _ _, bw.trans ((below_alloc v _).mono bw.size)⟩ | exact ⟨bx_put N.out _ _, (bw.setCell (p := ⟨_, 0, none⟩) (by first | exact hN | exact bw.size) _).setCell (p := ⟨_, 1, none⟩) (by first | exact hN | exact bw.size) _⟩⟩
  case rest =>
    obtain ⟨gb, rfl, HC⟩ := hcut
    obtain ⟨⟨c0, c1, -, -, hgl⟩, bb⟩ := HC.out
    have BX2 := Lib.hid (BX.out.below bb)
    have HBB := Lib.hid bb
    clear bb s1 s2 s3 s4 bw ba NB0 fA fB
    go_wp2_with fail
    refine (HO.out _ HBB.out).mono ?_
    rintro e v ⟨p3, k3, d3, rfl, o3, hk3, b⟩
    have hzv := HBB.out.size
    have bw := HBB.out.trans (b.mono hzv)
    obtain ⟨n0, n1, f0, f1, lt1⟩ := BX2.out.below b
    go_wp2_with fail
    try simp only [Exit.inBlock, Exit.then]
    refine bodyPost_ret (v := .tuple #[.agg #[.int .i64 (r.getD (0, [])).1, .slice p3 k3 d3], .bool r.isSome]) (by simp [results, Try.results32, go_sem, n0, n1]) rfl ?_
    have O2 := ownsRow_setCell_below (ownsRow_setCell_below o3 (a := ⟨w.heap.size + 2, 0, none⟩) (by show w.heap.size + 2 < _; have := HLT.out; omega) (.int .i64 (r.getD (0, [])).1)) (a := ⟨w.heap.size + 2, 1, none⟩) (by show w.heap.size + 2 < _; have := HLT.out; omega) (.slice p3 k3 d3)
    have hbz := HB.out.trans (bw.mono HB.out.size)
    rw [← HRR.out]
    exact ⟨p3, k3, d3, rfl, ownsRow_base O2 (by omega), hk3, (hbz.setCell (p := ⟨w.heap.size + 2, 0, none⟩) (by show w.heap.size ≤ w.heap.size + 2; omega) _).setCell (p := ⟨w.heap.size + 2, 1, none⟩) (by show w.heap.size ≤ w.heap.size + 2; omega) _⟩
end Go.Proofs.Ytfnbjfmegikciaa.LbI
