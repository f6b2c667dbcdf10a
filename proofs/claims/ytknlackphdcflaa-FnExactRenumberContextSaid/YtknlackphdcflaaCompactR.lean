/- slices.Compact over relations. -/
import Derived.Test.YtknlackphdcflaaRw
import Derived.Test.YtknlackphdcflaaEq2
import Derived.BigQuiet
import Derived.Deep.QuietTactic
namespace Go.Proofs.Ytknlackphdcflaa.CompactR
open Go.RowKit Pairs Rec RecEq Keep Row2 Copy Two SwapM Rw
theorem same_eq {x y u v : Int} (h : (x, y) = (u, v)) : (x == u && y == v) = true := by injection h with h1 h2; subst h1; subst h2; simp
theorem diff_eq {x y u v : Int} (h : (x, y) ≠ (u, v)) : (x == u && y == v) = false := by
  cases e : (x == u && y == v) with
  | false => rfl
  | true =>
    simp at e
    exact absurd (by rw [e.1, e.2]) h
theorem ct_short {L : List (Int × Int)} {f : Nat} (hL : L.length = f) (hf : f < 2) : ct L f = L := by
  match L, f, hL, hf with
  | [], 0, _, _ => rfl
  | [x], 1, _, _ => rfl
set_option maxRecDepth 100000 in
set_option maxHeartbeats 8000000 in
theorem compact_any (g f n : Nat) (L : List (Int × Int)) (hL : L.length = f) (hfn : f ≤ n) (hz : n ≤ 1048576) (w : World) (h : Rw w w g n [] 0 L) :
    Calls Try.prog 92 #[.slice (some ⟨g, 0, none⟩) f n] w fun e w' => e = .returned (.slice (some ⟨g, 0, none⟩) (ct L f).length n) ∧ ∃ j m', Rw w w' g n (ct L f) j m' := by
  by_cases hf2 : f < 2
  · have hct := ct_short hL hf2
    rw [hct, hL]
    have HR : Hid (Rw w w g n L f L) := by
      have h0 := h
      obtain ⟨ys, h1, h2, _, _, h5, h6⟩ := h0
      exact ⟨ys, h1, h2, by omega, fun t ht => h5 t (by omega) ht, fun t _ ht => h5 t (by omega) ht, h6⟩
    have hfi : (f : Int) < 2 := by omega
    clear hL hct h
    go_enter Try.func92, Try.ntmps92
    go_wp2_with fail
    go_ret
    exact ⟨rfl, f, L, HR.out⟩
  · have hfi : ¬ (f : Int) < 2 := by omega
    have HL := Lib.hid hL
    have HR0 := Lib.hid h
    clear hL h
    go_enter Try.func92, Try.ntmps92
    go_wp2_with fail
    go_loopw [3] (fun s3 wr => ∃ i : Nat, 1 ≤ i ∧ i ≤ f ∧ s3 = .int .i64 i ∧ Rw w wr g n [] 0 L ∧ Hid (ct L i = L.take i)) (fun s3 _ => f - (intOf s3).toNat)
    case atStart => exact ⟨1, by omega, by omega, rfl, HR0.out, by
      unfold Hid
      obtain ⟨x, hx⟩ : ∃ x, L[0]? = some x := ⟨_, List.getElem?_eq_getElem (by rw [HL.out]; omega)⟩
      rw [ct_new hx (.inl rfl), List.take_add_one, hx]
      rfl⟩
    case round =>
      obtain ⟨i, hi1, hi2, rfl, hR, HC⟩ := hrel
      by_cases hlt : i < f
      · obtain ⟨x, y, hx⟩ : ∃ x y, L[i]? = some (x, y) := ⟨L[i]'(by rw [HL.out]; exact hlt) |>.1, L[i]'(by rw [HL.out]; exact hlt) |>.2, List.getElem?_eq_getElem (by rw [HL.out]; exact hlt)⟩
        obtain ⟨u, v, hu⟩ : ∃ u v, L[i - 1]? = some (u, v) := ⟨L[i - 1]'(by rw [HL.out]; omega) |>.1, L[i - 1]'(by rw [HL.out]; omega) |>.2, List.getElem?_eq_getElem (by rw [HL.out]; omega)⟩
        obtain ⟨e1, e2⟩ := hR.cells (Nat.zero_le _) hx
        obtain ⟨d1, d2⟩ := hR.cells (Nat.zero_le _) hu
        obtain ⟨q, rfl⟩ : ∃ q, i = q + 1 := ⟨i - 1, by omega⟩
        rw [Nat.add_sub_cancel] at d1 d2 hu
        have HX := Lib.hid hx
        have HU := Lib.hid hu
        have HR := Lib.hid hR
        have hii : ((q + 1 : Nat) : Int) < (f : Int) := by omega
        have hwr : IntKind.i64.wrap (((q + 1 : Nat) : Int) - 1) = (q : Int) := by rw [IntKind.wrap_i64]; omega
        have hwr2 : IntKind.i64.wrap ((q : Int) + 1 - 1) = (q : Int) := by rw [IntKind.wrap_i64]; omega
        have hE := Eq2.equal2
        have hG := Eq2.guard2
        clear hx hu hR
        by_cases hxy : (x, y) = (u, v)
        · have hbo := same_eq hxy
          have HD : Hid (ct L (q + 1 + 1) = L.take (q + 1)) := by
            unfold Hid
            rw [ct_old HX.out (by rintro (h | h); · omega
                                  · exact h (by rw [Nat.add_sub_cancel, HU.out, hxy])), HC.out]
          clear hxy
          have hqn : ¬ n = q + 1 := by omega
          have hqi : (q : Int) + 1 ≤ (f : Int) := by omega
          go_wp2_with fail
          go_quiet (fail)
          clear hbo hE hG d1 d2 e1 e2
          go_wp2_with fail
          clear hwr hwr2
          have HLD : Hid ((ct L (q + 1 + 1)).length = q + 1) := by unfold Hid; rw [HD.out, List.length_take, HL.out]; omega
          have HRD : Hid (Rw w (wr.drewN nq) g n (ct L (q + 1 + 1)) (q + 1) L) := by
            unfold Hid
            rw [HD.out]
            exact (HR.out.below (Joins.below_draws _ _ _)).fill (by rw [HL.out]; omega) (by rw [HL.out]; omega)
          obtain ⟨r, hr⟩ : ∃ r, f - (q + 1) = r := ⟨_, rfl⟩
          obtain ⟨c, hc⟩ : ∃ c, n - (q + 1) = c := ⟨_, rfl⟩
          have HRR : Hid (f = q + 1 + r) := by unfold Hid; omega
          have hr1 : 1 ≤ r := by omega
          rw [hr, hc]
          clear hr hc
          go_loopw [3, 5] (fun s3 s5 wq => ∃ k : Nat, 1 ≤ k ∧ k ≤ r ∧ s5 = .int .i64 k ∧ s3 = .int .i64 ((ct L (q + 1 + k)).length : Nat) ∧ Rw w wq g n (ct L (q + 1 + k)) (q + k) L ∧ Hid ((ct L (q + 1 + k)).length ≤ q + k)) (fun _ s5 _ => r - (intOf s5).toNat)
          case atStart => exact ⟨1, Nat.le_refl _, hr1, rfl, by rw [HLD.out], HRD.out, by unfold Hid; rw [HLD.out]; omega⟩
          case round =>
            obtain ⟨k, hk1, hk2, rfl, rfl, hR2, HK⟩ := hrel
            obtain ⟨p, hp⟩ : ∃ p, (ct L (q + 1 + k)).length = p := ⟨_, rfl⟩
            have HP := Lib.hid hp
            rw [hp]
            have hpk : p ≤ q + k := by rw [← hp]; exact HK.out
            clear hp
            by_cases hlt2 : k < r
            · obtain ⟨t, rfl⟩ : ∃ t, k = t + 1 := ⟨k - 1, by omega⟩
              have hl1 : q + 1 + (t + 1) < L.length := by rw [HL.out, HRR.out]; omega
              obtain ⟨x, y, hx⟩ : ∃ x y, L[q + 1 + (t + 1)]? = some (x, y) := ⟨L[q + 1 + (t + 1)].1, L[q + 1 + (t + 1)].2, List.getElem?_eq_getElem hl1⟩
              obtain ⟨u, v, hu⟩ : ∃ u v, L[q + 1 + t]? = some (u, v) := ⟨(L[q + 1 + t]'(by omega)).1, (L[q + 1 + t]'(by omega)).2, List.getElem?_eq_getElem (by omega)⟩
              obtain ⟨e1, e2⟩ := hR2.cells (k := q + 1 + (t + 1)) (by omega) hx
              obtain ⟨d1, d2⟩ := hR2.cells (k := q + 1 + t) (by omega) hu
              rw [show (q + 1 + (t + 1)) * 2 = (q + 1) * 2 + (t + 1) * 2 by omega] at e1 e2
              rw [show (q + 1 + t) * 2 = (q + 1) * 2 + t * 2 by omega] at d1 d2
              have HX := Lib.hid hx
              have HU := Lib.hid hu
              have HR2 := Lib.hid hR2
              have hE := Eq2.differ2
              have hG := Eq2.guard2
              have hpn : p < n := by have := HRR.out; omega
              have hpf : p < f := by rw [HRR.out]; omega
              obtain ⟨⟨c0, hc0⟩, hf0⟩ := hR2.there (t := p * 2) (by omega)
              obtain ⟨⟨c1, hc1⟩, hf1⟩ := hR2.there (t := p * 2 + 1) (by omega)
              have hti : ((t + 1 : Nat) : Int) < (r : Int) := by omega
              have hpi : (p : Int) < (f : Int) := by omega
              have hti2 : (t : Int) + 1 < (r : Int) := by omega
              have htb : (t : Int) + 1 ≤ 1048576 := by have := HRR.out; omega
              have hti3 : (t : Int) < (r : Int) := by omega
              have ht0 : (0 : Int) ≤ (t : Int) + 1 := by omega
              have htn : ((t : Int) + 1).toNat = t + 1 := by omega
              have hwr : IntKind.i64.wrap (t : Int) = (t : Int) := by have := HRR.out; rw [IntKind.wrap_i64]; omega
              clear hx hu hR2
              by_cases hxy : (x, y) = (u, v)
              · have hbo := same_eq hxy
                have HD2 : Hid (ct L (q + 1 + (t + 1) + 1) = ct L (q + 1 + (t + 1))) := by
                  unfold Hid
                  rw [ct_old HX.out (by rintro (h | h); · omega
                                        · exact h (by rw [show q + 1 + (t + 1) - 1 = q + 1 + t by omega, HU.out, hxy]))]
                clear hxy hc0 hc1 hf0 hf1
                go_wp2_with fail
                go_quiet (fail)
                clear hbo hE hG d1 d2 e1 e2 hwr
                go_wp2_with fail
                clear htn ht0 htb hti2 hti3
                exact ⟨⟨t + 1 + 1, by omega, by omega, by go_num, by rw [show q + 1 + (t + 1 + 1) = q + 1 + (t + 1) + 1 by omega, HD2.out, HP.out], by rw [show q + 1 + (t + 1 + 1) = q + 1 + (t + 1) + 1 by omega, HD2.out]; exact (HR2.out.below (Joins.below_draws _ _ _)).mono (by omega), by unfold Hid; rw [show q + 1 + (t + 1 + 1) = q + 1 + (t + 1) + 1 by omega, HD2.out, HP.out]; omega⟩, by simp [intOf]; omega⟩
              · have hbo := diff_eq hxy
                have HD2 : Hid (ct L (q + 1 + (t + 1) + 1) = ct L (q + 1 + (t + 1)) ++ [(x, y)]) := by
                  unfold Hid
                  exact ct_new HX.out (.inr (by rw [show q + 1 + (t + 1) - 1 = q + 1 + t by omega, HU.out]; intro e; injection e with e; exact hxy e.symm))
                clear hxy
                go_wp2_with fail
                go_quiet (fail)
                clear hwr
                go_wp2_with fail
                clear htn ht0 htb hti2 hti3
                have hput := (HR2.out.below (Joins.below_draws _ _ nq)).put2 (j' := q + (t + 1 + 1)) (by omega) (by rw [HP.out]; omega) (by rw [HP.out]; exact hpn) x y
                rw [HP.out] at hput
                exact ⟨⟨t + 1 + 1, by omega, by omega, by go_num, by rw [show q + 1 + (t + 1 + 1) = q + 1 + (t + 1) + 1 by omega, HD2.out, List.length_append, HP.out]; go_num, by rw [show q + 1 + (t + 1 + 1) = q + 1 + (t + 1) + 1 by omega, HD2.out]; exact hput, by unfold Hid; rw [show q + 1 + (t + 1 + 1) = q + 1 + (t + 1) + 1 by omega, HD2.out, List.length_append, HP.out]; simp; omega⟩, by simp [intOf]; omega⟩
            · obtain rfl : k = r := by omega
              have hpf : p < f := by rw [HRR.out]; omega
              have hpn : ¬ n = p := by omega
              have hpi : (p : Int) ≤ (f : Int) := by omega
              have hpc : (p : Int) ≤ (n : Int) := by omega
              have hff : q + 1 + k = f := HRR.out.symm
              rw [hff] at hR2 HP
              have hcl : ∀ c ty, (Builtin.clear_ #[30] ty #[.slice (some ⟨g, p * 2, none⟩) (f - p) c]).run Try.prog wr = .ok (.tuple #[]) (wr.setCells g (p * 2) (DelF.zl (f - p))) := fun c ty =>
                DelF.run_clear2 wr _ _ ty Try.underlying30 DelF.zeroRelation g (p * 2) c (f - p) (by omega) (fun t ht => by obtain ⟨⟨v, hv⟩, _⟩ := hR2.there (t := p * 2 + t) (by omega); rw [hv]; rfl) (fun t ht => (hR2.there (t := p * 2 + t) (by omega)).2)
              have HE : Hid (Rw w (wr.setCells g (p * 2) (DelF.zl (f - p))) g n (ct L f) n []) := hR2.clear HP.out (by omega)
              have hki : ¬ (k : Int) < (k : Int) := by omega
              have hfp : ¬ f = p := by omega
              clear hR2 hff
              go_wp2_with fail
              go_ret
              exact ⟨by rw [HP.out]; rfl, n, [], HE.out⟩
        · have hbo := diff_eq hxy
          have HD : Hid (ct L (q + 1 + 1) = L.take (q + 1 + 1)) := by
            unfold Hid
            rw [ct_new HX.out (.inr (by rw [Nat.add_sub_cancel, HU.out]; intro e; injection e with e; exact hxy e.symm)), HC.out, List.take_add_one (i := q + 1), HX.out]
            rfl
          clear hxy
          go_wp2_with fail
          go_quiet (fail)
          go_wp2_with fail
          exact ⟨⟨q + 1 + 1, by omega, by omega, by go_num, HR.out.below (Joins.below_draws _ _ _), HD⟩, by simp [intOf]; omega⟩
      · obtain rfl : i = f := by omega
        have hii : ¬ (i : Int) < (i : Int) := by omega
        have HRL : Hid (∃ j m', Rw w wr g n (ct L i) j m') := by
          refine ⟨i, L, ?_⟩
          rw [HC.out]
          exact hR.fill (by rw [HL.out]; omega) (by rw [HL.out]; omega)
        have HLC : Hid ((ct L i).length = i) := by unfold Hid; rw [HC.out, List.length_take, HL.out]; omega
        go_wp2_with fail
        go_ret
        exact ⟨by rw [HLC.out]; rfl, HRL.out⟩
end Go.Proofs.Ytknlackphdcflaa.CompactR
