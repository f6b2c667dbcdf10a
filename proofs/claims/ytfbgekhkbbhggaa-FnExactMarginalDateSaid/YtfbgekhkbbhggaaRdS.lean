/- The model's l10Make: weights reduced, from a first year on. -/
import Derived.Test.YtfbgekhkbbhggaaRdM
import Derived.Test.YtfbgekhkbbhggaaShI
import Derived.Test.YtfbgekhkbbhggaaDvS
import Derived.Deep.DeepCutAuto
import Derived.Maps.AppendAt
import Derived.Deep.RegionLaw
namespace Go.Proofs.Ytfbgekhkbbhggaa.RdS
open Go.RowKit Pairs Rec Keep GivesI DvM DvG DvS AppI Di ShI RdM
set_option linter.unusedVariables false
/-- A row that grows, told in a box. -/
structure Ap (w0 wx : World) (gt : Nat) (u v : Value) (L : List Int) : Prop where
  bel : Below w0.heap.size w0 wx
  own : wx.ownsRow w0.heap.size 3 1 v L.length (ints L)
  ne : v.ownBlock ≠ some gt
  bx : Bx wx gt u v
  hi : w0.heap.size < gt
theorem Ap.next {w0 wx w9 : World} {gt : Nat} {u v v' : Value} {L : List Int} {x : Int} {o : Obj} (h : Ap w0 wx gt u v L) (ho : w9.ownsRow w0.heap.size 3 1 v' (L.length + 1) (ints L ++ [.int .i64 x])) (hg : (wx.alloc o).drew.grownBy w9 v.ownBlock)
    (hob : v'.ownBlock = v.ownBlock ∨ v'.ownBlock = some (wx.heap.size + 1)) : Ap w0 (w9.setCell ⟨gt, 1, none⟩ v') gt u v' (L ++ [x]) := by
  have hlt := h.bx.lt
  have hne : v'.ownBlock ≠ some gt := by
    rcases hob with e | e
    · rw [e]; exact h.ne
    · rw [e]
      intro q
      injection q with q
      omega
  have ha := h.bx.below (below_alloc wx o)
  have hblk' := hg.block gt ha.lt (fun e => h.ne e.symm)
  have hblk : w9.heap[gt]? = (wx.alloc o).heap[gt]? := hblk'
  have b9 : Bx w9 gt u v := by
    refine ⟨?_, ?_, ?_, ?_, ?_⟩
    · unfold World.cell?; rw [hblk]; exact ha.c0
    · unfold World.cell?; rw [hblk]; exact ha.c1
    · unfold World.frozen?; rw [hblk]; exact ha.f0
    · unfold World.frozen?; rw [hblk]; exact ha.f1
    · exact Nat.lt_of_lt_of_le ha.lt hg.size
  have e01 : (⟨gt, 1, none⟩ : Addr) ≠ ⟨gt, 0, none⟩ := by intro e; cases congrArg Addr.off e
  have e10 : (⟨gt, 0, none⟩ : Addr) ≠ ⟨gt, 1, none⟩ := Ne.symm e01
  have hbel : Below w0.heap.size w0 w9 := (h.bel.trans ((below_alloc wx o).drew.mono h.bel.size)).grown hg (by have := h.bel.size; show w0.heap.size ≤ (wx.alloc o).heap.size; simp; omega) (fun j hj => (own_bd h.own j hj).1)
  refine ⟨hbel.setCell (p := ⟨gt, 1, none⟩) (Nat.le_of_lt h.hi) _, ?_, hne, ?_, h.hi⟩
  · rw [List.length_append, show ints (L ++ [x]) = ints L ++ [.int .i64 x] by unfold ints; rw [List.map_append]; rfl]
    exact ((Kept.refl (fun b => b = gt) w9).setCell (g := gt) rfl v').owns ho (fun b hb e => hne (by rw [hb, e]))
  · refine ⟨?_, World.cell?_setCell_same (w := w9) (a := ⟨gt, 1, none⟩) (v := v') (h := b9.c1), ?_, ?_, ?_⟩
    · rw [World.cell?_setCell_other (h := by first | exact e01 | exact e10)]; exact b9.c0
    · rw [World.frozen?_setCell]; exact b9.f0
    · rw [World.frozen?_setCell]; exact b9.f1
    · have := b9.lt; simpa [World.setCell] using this
theorem own_drew {w : World} {B e s : Nat} {v : Value} {n : Nat} {xs : List Value} (h : w.ownsRow B e s v n xs) : w.drew.ownsRow B e s v n xs := h
theorem new_int (w : World) (x : Value) (t : TypeId) : ∀ j u, [x][j]? = some u → (w.alloc (.cells #[x] t)).drew.cell? ((⟨w.heap.size, 0, none⟩ : Addr).add j) = some u := by
  intro j u hj
  match j, hj with
  | 0, hj =>
    simp at hj
    subst hj
    show (w.alloc (.cells #[x] t)).cell? _ = _
    rw [show ((⟨w.heap.size, 0, none⟩ : Addr).add 0) = ⟨w.heap.size, 0, none⟩ from by rw [Addr.add_lit], World.cell?_alloc_mark]
    rfl
theorem after_grow {w0 wx w9 : World} {gt : Nat} {u v : Value} {L : List Int} {o : Obj} (h : Ap w0 wx gt u v L) (hg : (wx.alloc o).drew.grownBy w9 v.ownBlock) : Bx w9 gt u v := by
  have ha := h.bx.below (below_alloc wx o)
  have hblk := hg.block gt ha.lt (fun e => h.ne e.symm)
  have hblk' : w9.heap[gt]? = (wx.alloc o).heap[gt]? := hblk
  refine ⟨?_, ?_, ?_, ?_, ?_⟩
  · unfold World.cell?; rw [hblk']; exact ha.c0
  · unfold World.cell?; rw [hblk']; exact ha.c1
  · unfold World.frozen?; rw [hblk']; exact ha.f0
  · unfold World.frozen?; rw [hblk']; exact ha.f1
  · exact Nat.lt_of_lt_of_le ha.lt hg.size
theorem div_take {C : List Int} {D : Int} {j : Nat} {x : Int} (h : C[j]? = some x) : (C.take (j + 1)).map (· / D) = (C.take j).map (· / D) ++ [x / D] := by
  rw [List.take_add_one, h, List.map_append]
  rfl
set_option maxRecDepth 100000 in
set_option maxHeartbeats 16000000 in
theorem make_any (f : Int) (p : Option Addr) (n c : Nat) (M : List Int) (w : World) (hn : n ≤ 1048576) (hf : -1048576 ≤ f ∧ f ≤ 1048576) (h : HoldsI w p n M) (hp : ∀ x ∈ M, 0 ≤ x ∧ x ≤ 4611686018427387904) :
    Calls Try.prog 67 #[.int .i64 f, .slice p n c] w (ResZ (red f M).isSome ((red f M).getD (0, [])).1 ((red f M).getD (0, [])).2 w) := by
  obtain ⟨i0, hi, hy0, hy1, hy2⟩ := info_parts IntT.infoI
  have HL := Lib.hid h.1
  obtain ⟨hs, y1, y2, x1, x2, -, -, hb0⟩ := two w (.int .i64 0) (.slice none 0 0) (.int .i64 0) (.slice none 0 0) 50 50
  have BX := Lib.hid ((bx_new w (.int .i64 0) (.slice none 0 0) 50).below (below_alloc (w.alloc (.cells #[.int .i64 0, .slice none 0 0] 50)) (.cells #[.int .i64 0, .slice none 0 0] 50)))
  have H := Lib.hid (h.below hb0)
  have HB := Lib.hid hb0
  have HP := Lib.hid hp
  have hlt : w.heap.size + 1 < ((w.alloc (.cells #[.int .i64 0, .slice none 0 0] 50)).alloc (.cells #[.int .i64 0, .slice none 0 0] 50)).heap.size := by rw [hs]; omega
  have hz1 := x1
  have hz2 := x2
  clear h hb0 hp hs y1 y2 x1 x2
  go_enter Try.func67, Try.ntmps67
  go_wp2_with fail
  generalize (w.alloc (.cells #[.int .i64 0, .slice none 0 0] 50)).alloc (.cells #[.int .i64 0, .slice none 0 0] 50) = W at *
  go_loopw [7] (fun s7 wr => ∃ k : Nat, k ≤ n ∧ s7 = .int .i64 k ∧ Hid (∀ j, j < k → M.getD j 0 = 0) ∧ wr = W) (fun s7 _ => n - (intOf s7).toNat)
  case atStart => exact ⟨0, Nat.zero_le _, rfl, fun j h1 => absurd h1 (Nat.not_lt_zero j), rfl⟩
  case round =>
    obtain ⟨k, hk, rfl, HZ, rfl⟩ := hrel
    by_cases hkn : k < n
    · obtain ⟨b, off, x, rfl, hx, e1⟩ := H.out.at k hkn
      have hkn' : (k : Int) < (n : Int) := by omega
      by_cases hx0 : x = 0
      · subst hx0
        have HZ2 : Hid (∀ j, j < k + 1 → M.getD j 0 = 0) := fun j j1 => by
          by_cases e : j = k
          · rw [e]; exact getD_of hx
          · exact HZ.out j (by omega)
        clear hx
        go_wp2_with fail
        exact ⟨⟨k + 1, by omega, by go_num, HZ2, trivial⟩, by simp [intOf]; omega⟩
      · have HST := Lib.hid (show st M = k from (st_is M).uniq ⟨by rw [HL.out]; omega, HZ.out, fun _ => by rw [getD_of hx]; exact hx0⟩)
        have hxb : (x == 0) = false := by simp [hx0]
        clear hx
        go_wp2_with fail
        have HS := Lib.hid (show st M < M.length by rw [HST.out, HL.out]; exact hkn)
        have HSN := Lib.hid (show M.getD k 0 ≠ 0 by have := (st_is M).here HS.out; rw [HST.out] at this; exact this)
        clear hxb hx0 e1 HZ
        go_loopw [8] (fun s8 wx => ∃ q : Nat, k < q ∧ q ≤ n ∧ s8 = .int .i64 q ∧ Hid (∀ j, q ≤ j → j < n → M.getD j 0 = 0) ∧ wx = wr) (fun s8 _ => (intOf s8).toNat)
        case atStart => exact ⟨n, hkn, Nat.le_refl _, rfl, fun j h1 h2 => absurd h2 (by omega), rfl⟩
        case round =>
          obtain ⟨q, hkq, hq, rfl, HZ, rfl⟩ := hrel
          obtain ⟨b', off', z, hbb, hz, e2⟩ := H.out.at (q - 1) (by omega)
          injection hbb with hbb
          injection hbb with hbb hoo
          subst hbb hoo
          have hq1 : (q : Int) - 1 = ((q - 1 : Nat) : Int) := by omega
          have hkq' : (k : Int) < (q : Int) := by omega
          by_cases hz0 : z = 0
          · subst hz0
            have HZ2 : Hid (∀ j, q - 1 ≤ j → j < n → M.getD j 0 = 0) := fun j j1 j2 => by
              by_cases e : j = q - 1
              · rw [e]; exact getD_of hz
              · exact HZ.out j (by omega) j2
            have hkq1 : k < q - 1 := by
              rcases Nat.lt_or_ge k (q - 1) with v | v
              · exact v
              · have hv : k = q - 1 := by omega
                exfalso
                have h3 := HSN.out
                rw [hv, getD_of hz] at h3
                exact h3 rfl
            clear hz
            go_wp2_with fail
            exact ⟨⟨q - 1, hkq1, by omega, by go_num, HZ2, trivial⟩, by simp [intOf]; omega⟩
          · have HEN := Lib.hid (show en M = q from (en_is M).uniq ⟨by rw [HL.out]; exact hq, fun j j1 j2 => HZ.out j j1 (by rw [← HL.out]; exact j2), fun _ => by rw [getD_of hz]; exact hz0⟩)
            have hzb : (z == 0) = false := by simp [hz0]
            clear hz
            go_wp2_with fail
            have hcl : (core M).length = q - k := by rw [core_len, HST.out, HEN.out]
            have HCL := Lib.hid hcl
            have HCP := Lib.hid (show ∀ x ∈ core M, 0 ≤ x ∧ x ≤ 4611686018427387904 from fun x hx => HP.out x (core_mem hx))
            have HCA := Lib.hid (show ∀ i, k ≤ i → i < q → (core M)[i - k]? = M[i]? from fun i h1 h2 => by rw [core_at (by rw [HST.out, HEN.out]; omega), HST.out]; congr 1; omega)
            have HDP := Lib.hid (dv_pos HS.out (fun x hx => (HP.out x hx).1))
            have HNO := Lib.hid (fun e => red_no (f := f) (W := M) e)
            have HYE := Lib.hid (fun e => red_yes (f := f) HS.out e)
            rw [HST.out] at HNO HYE
            obtain ⟨r, hr⟩ : ∃ r, r = red f M := ⟨_, rfl⟩
            rw [← hr] at HNO HYE
            have HRR := Lib.hid hr
            generalize core M = C at *
            clear hcl e2 hzb hz0 hq1 HZ hr HS HSN HST HEN HP
            go_loopw [9, 10] (fun s9 s10 wx => ∃ i : Nat, k ≤ i ∧ i ≤ q ∧ s10 = .int .i64 i ∧ s9 = .int .i64 (dv (C.take (i - k))) ∧ wx = wr) (fun _ s10 _ => q - (intOf s10).toNat)
            case atStart => exact ⟨k, Nat.le_refl _, by omega, rfl, by rw [Nat.sub_self]; rfl, rfl⟩
            case round =>
              obtain ⟨i, hki, hiq, rfl, rfl, rfl⟩ := hrel
              by_cases hiq2 : i < q
              · obtain ⟨b', off', z, hbb, hz, e2⟩ := H.out.at i (by omega)
                injection hbb with hbb
                injection hbb with hbb hoo
                subst hbb hoo
                have hiq' : (i : Int) < (q : Int) := by omega
                have hz2 := HCA.out i hki hiq2
                rw [hz] at hz2
                have HT := Lib.hid (dv_take hz2)
                have hz0 := (HCP.out z (List.mem_of_getElem? hz2)).1
                have hd0 := dv_nonneg (C.take (i - k))
                clear hz hz2
                generalize dv (C.take (i - k)) = d at *
                go_wp2_with fail
                refine (l10Gcd_any d z hd0 hz0 _).mono ?_
                rintro e w4 ⟨rfl, rfl⟩
                go_wp2_with fail
                exact ⟨⟨i + 1, by omega, by omega, by go_num, by rw [show i + 1 - k = i - k + 1 by omega, HT.out], trivial⟩, by simp [intOf]; omega⟩
              · obtain rfl : i = q := by omega
                have hii : ¬ (i : Int) < (i : Int) := by omega
                have hki' : ¬ (k : Int) = (i : Int) := by omega
                have hkib : ((k : Int) == (i : Int)) = false := by simp [hki']
                rw [List.take_of_length_le (by rw [HCL.out]; exact Nat.le_refl _)]
                generalize hD : dv C = D at *
                have hD0 : 0 < D := HDP.out
                clear hD HDP
                go_wp2_with fail
                obtain ⟨wo, rfl⟩ : ∃ z, z = wr := ⟨wr, rfl⟩
                have HA0 : Hid (∃ v, Ap wo ((wo.alloc (.cells #[] 3)).alloc (.cells #[.int .i64 (f + k), .slice (some ⟨wo.heap.size, 0, none⟩) 0 0] 50)) (wo.heap.size + 1) (.int .i64 (f + k)) (.slice (some ⟨wo.heap.size, 0, none⟩) 0 0) ((C.take 0).map (· / D)) ∧ v = (Value.slice (some ⟨wo.heap.size, 0, none⟩) 0 0)) := by
                  refine ⟨_, ⟨below_alloc2 _ _ _, ownsRow_below (empty_own wo) (below_alloc _ _), ?_, ?_, by omega⟩, rfl⟩
                  · simp [Value.ownBlock]
                  · have := bx_new (wo.alloc (.cells #[] 3)) (.int .i64 (f + k)) (.slice (some ⟨wo.heap.size, 0, none⟩) 0 0) 50
                    rw [show (wo.alloc (.cells #[] 3)).heap.size = wo.heap.size + 1 by simp] at this
                    exact this
                go_loopw [12] (fun s12 wx => ∃ (t : Nat) (v : Value), k ≤ t ∧ t ≤ i ∧ s12 = .int .i64 (t : Int) ∧ Hid (Ap wo wx (wo.heap.size + 1) (.int .i64 (f + k)) v ((C.take (t - k)).map (· / D)))) (fun s12 _ => i - (intOf s12).toNat)
                case atStart =>
                  obtain ⟨v, hv, -⟩ := HA0.out
                  exact ⟨k, _, Nat.le_refl _, by omega, rfl, by rw [Nat.sub_self]; exact hv⟩
                case round =>
                  obtain ⟨t, v, hkt, hti, rfl, HA⟩ := hrel
                  clear HA0
                  by_cases hj2 : t < i
                  · have hb := HA.out.bel
                    obtain ⟨b', off', y, hbb, hy, e2⟩ := (H.out.below (Below.trans (Below.refl _ _) hb)).at t (by omega)
                    injection hbb with hbb
                    injection hbb with hbb hoo
                    subst hbb hoo
                    have hji : (t : Int) < (i : Int) := by omega
                    have hjn : (t : Int) < (n : Int) := by omega
                    have hy2 := HCA.out t hkt hj2
                    rw [hy] at hy2
                    have HY := Lib.hid (div_take (D := D) hy2)
                    have hyb := HCP.out y (List.mem_of_getElem? hy2)
                    obtain ⟨hy3, hy4⟩ := hyb
                    have hdb := div_bd hy3 hD0
                    have hln : ((C.take (t - k)).map (· / D)).length ≤ 1048576 := by rw [List.length_map, List.length_take]; omega
                    obtain ⟨Lg, hLg⟩ : ∃ z, z = (C.take (t - k)).map (· / D) := ⟨_, rfl⟩
                    rw [← hLg] at HA HY hln
                    clear hLg
                    have hq1 : ¬ D = 0 := by omega
                    have hq2 : IntKind.i64.wrap (y.tdiv D) = y / D := by rw [Int.tdiv_eq_ediv_of_nonneg hy3, IntKind.wrap_i64]; omega
                    have hown := HA.out.own
                    have hge := HA.out.bel.size
                    have hbx := HA.out.bx
                    have c1 := hbx.c1
                    have ca := (hbx.below (below_alloc wr (.cells #[.int .i64 (y / D)] 3))).c1
                    have ea := ((below_alloc wr (.cells #[.int .i64 (y / D)] 3)).cell (p := ⟨b, off + t, none⟩) (World.block_lt_of_cell? wr _ e2)).trans e2
                    clear hy hy2 hb hbx
                    go_wp2_with fail
                    go_region_law (first | (refine step_append_lies _ (by rfl) _ _ _ (by rfl) wo.heap.size 3 i0 (.int .i64 0) 1 8 Try.underlying41 hi hy0 hy1 hy2 rfl (by omega) v _ _ (by rfl) (own_drew (hown.alloc _)) ⟨wr.heap.size, 0, none⟩ 1 1 [.int .i64 (y / D)] (by rfl) (by rfl) (new_int wr _ _) (by simp [Value.oneCell']) (by omega) (by unfold maxLen; omega) (by omega) (by simp; omega) (wr.heap.size + 1) (by simp) ?_; intro g9 cap9 w9 hown9 hgrow9 hat9 hltg9; have HB9 := Lib.hid (after_grow HA.out hgrow9); obtain ⟨-, hc9, -, hf9, -⟩ := HB9.out))
                    all_goals (have HA2 := Lib.hid (HA.out.next hown9 hgrow9 (by rcases hat9 with e | e; exact .inl e.symm; exact .inr (by rw [e]; rfl))))
                    all_goals rw [← HY.out] at HA2
                    all_goals (clear hown9 hgrow9 hat9 hltg9 HB9 hc9 hf9)
                    all_goals go_wp2_with fail
                    all_goals exact ⟨⟨t + 1, _, by omega, by omega, by go_num, by rw [show t + 1 - k = t - k + 1 by omega]; exact HA2⟩, by simp [intOf]; omega⟩
                  · obtain rfl : t = i := by omega
                    have htt : ¬ (t : Int) < (t : Int) := by omega
                    have hA := HA.out
                    rw [List.take_of_length_le (by rw [HCL.out]; exact Nat.le_refl _)] at hA
                    have hln : (C.map (· / D)).length = t - k := by rw [List.length_map, HCL.out]
                    have ho := hA.own
                    rw [hln] at ho
                    obtain ⟨pv, dv2, rfl⟩ : ∃ (pv : Option Addr) (d : Nat), v = .slice pv (t - k) d := by
                      rcases ho.2 with ⟨hv, h0⟩ | ⟨g', cap', cur', hv, _⟩
                      · exact absurd h0 (by omega)
                      · exact ⟨_, _, hv⟩
                    obtain ⟨x1, x2, -, -, hlx⟩ := hA.bx
                    have O := Lib.hid ho
                    have BX2 := Lib.hid (BX.out.below hA.bel)
                    have HB2 := Lib.hid (HB.out.trans (hA.bel.mono HB.out.size))
                    have y1 := (hA.bel.cell (p := ⟨w.heap.size + 1, 0, none⟩) hlt).trans hz1
                    have y2 := (hA.bel.cell (p := ⟨w.heap.size + 1, 1, none⟩) hlt).trans hz2
                    have lt2 := Nat.lt_of_lt_of_le hlt hA.bel.size
                    have hlo := Lib.hid (Nat.lt_of_succ_lt hlt)
                    clear hA ho HA hln BX HB
                    go_wp2_with fail
                    refine (good_any (f + k) pv (t - k) dv2 (C.map (· / D)) _ (by omega) (holds_own O.out)).mono ?_
                    rintro e w11 ⟨rfl, b⟩
                    replace x1 := (b.cell (p := ⟨wo.heap.size + 1, 0, none⟩) hlx).trans x1
                    replace x2 := (b.cell (p := ⟨wo.heap.size + 1, 1, none⟩) hlx).trans x2
                    replace y1 := (b.cell (p := ⟨w.heap.size + 1, 0, none⟩) lt2).trans y1
                    replace y2 := (b.cell (p := ⟨w.heap.size + 1, 1, none⟩) lt2).trans y2
                    replace O := Lib.hid (ownsRow_below O.out b)
                    replace BX2 := Lib.hid (BX2.out.below b)
                    have HB := Lib.hid (HB2.out.trans (b.mono HB2.out.size))
                    clear b HB2 hlx
                    obtain ⟨c0, c1, f0, f1, lt1⟩ := BX2.out
                    cases hv : okD (f + k) (C.map (· / D)) with
                    | false =>
                      have HN := Lib.hid (HNO.out hv)
                      go_wp2_with fail
                      try simp only [Exit.inBlock, Exit.then]
                      refine bodyPost_ret (v := .tuple #[.agg #[.int .i64 0, .slice none 0 0], .bool false]) (by simp [results, Try.results67, go_sem, c0, c1]) rfl ?_
                      rw [← HRR.out, HN.out]
                      exact ⟨none, 0, 0, rfl, World.ownsRow_nil _ _ _ _, by omega, (HB.out.setCell (p := ⟨w.heap.size, 0, none⟩) (Nat.le_refl _) _).setCell (p := ⟨w.heap.size, 1, none⟩) (Nat.le_refl _) _⟩
                    | true =>
                      have HN := Lib.hid (HYE.out hv)
                      go_wp2_with fail
                      try simp only [Exit.inBlock, Exit.then]
                      refine bodyPost_ret (v := .tuple #[.agg #[.int .i64 (f + k), .slice pv (t - k) dv2], .bool true]) (by simp [results, Try.results67, go_sem, c0, c1]) rfl ?_
                      rw [← HRR.out, HN.out]
                      have O2 := ownsRow_setCell_below (ownsRow_setCell_below O.out (a := ⟨w.heap.size, 0, none⟩) hlo.out (.int .i64 (f + k))) (a := ⟨w.heap.size, 1, none⟩) hlo.out (.slice pv (t - k) dv2)
                      exact ⟨_, _, _, rfl, ownsRow_base O2 (Nat.le_of_lt hlo.out), by omega, (HB.out.setCell (p := ⟨w.heap.size, 0, none⟩) (Nat.le_refl _) _).setCell (p := ⟨w.heap.size, 1, none⟩) (Nat.le_refl _) _⟩
    · obtain rfl : k = n := by omega
      have HST := Lib.hid (show st M = k from (st_is M).uniq ⟨by rw [HL.out]; exact Nat.le_refl _, HZ.out, fun e => by rw [HL.out] at e; omega⟩)
      have hkn' : ¬ (k : Int) < (k : Int) := by omega
      go_wp2_with fail
      go_loopw [8] (fun s8 wx => s8 = .int .i64 k ∧ wx = wr) (fun _ _ => 0)
      case atStart => exact ⟨rfl, rfl⟩
      case round =>
        obtain ⟨rfl, rfl⟩ := hrel
        go_wp2_with fail
        go_loopw [9, 10] (fun s9 s10 wx => s10 = .int .i64 k ∧ wx = wr) (fun _ _ _ => 0)
        case atStart => exact ⟨rfl, rfl⟩
        case round =>
          obtain ⟨rfl, rfl⟩ := hrel
          have HN := Lib.hid (red_none (f := f) (W := M) (by rw [HST.out, HL.out]))
          have hkk : (k : Int) = (k : Int) := rfl
          obtain ⟨c0, c1, f0, f1, lt1⟩ := BX.out
          go_wp2_with fail
          try simp only [Exit.inBlock, Exit.then]
          refine bodyPost_ret (v := .tuple #[.agg #[.int .i64 0, .slice none 0 0], .bool false]) (by simp [results, Try.results67, go_sem, c0, c1]) rfl ?_
          rw [HN.out]
          exact ⟨none, 0, 0, rfl, World.ownsRow_nil _ _ _ _, by omega, (HB.out.setCell (p := ⟨w.heap.size, 0, none⟩) (Nat.le_refl _) _).setCell (p := ⟨w.heap.size, 1, none⟩) (Nat.le_refl _) _⟩
end Go.Proofs.Ytfbgekhkbbhggaa.RdS
