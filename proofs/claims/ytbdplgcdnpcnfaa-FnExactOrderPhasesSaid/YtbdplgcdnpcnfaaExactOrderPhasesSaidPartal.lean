/- The program's chainsFrom: the search from a context. -/
import Derived.Test.YtbdplgcdnpcnfaaExactOrderPhasesSaidPartak
import Derived.Test.YtbdplgcdnpcnfaaExactOrderPhasesSaidPartad
import Derived.Deep.LoopGhost
namespace Go.Proofs.Ytbdplgcdnpcnfaa.From
open Go.RowKit Go.Maps Pairs Chain Find2 Lows Queue
/-- The search after t rounds. -/
def stAt (m : Ps) (a : Int) : Nat → St
  | 0 => ([a], [])
  | t + 1 => round m (stAt m a t)
theorem inv_at (m : Ps) (a : Int) : ∀ t, Inv m a (stAt m a t)
  | 0 => inv_start m a
  | t + 1 => by
    have ih := inv_at m a t
    show Inv m a (round m (stAt m a t))
    generalize stAt m a t = s at *
    obtain ⟨q, pv⟩ := s
    cases q with
    | nil => exact ih
    | cons h q => exact ih.next
theorem round_cons (m : Ps) (h : Int) (q : List Int) (pv : Ps) : round m (h :: q, pv) = ((visAll h (h :: q, pv) (lows m h)).1.tail, (visAll h (h :: q, pv) (lows m h)).2) := rfl
theorem visAll_zero (h : Int) (s : St) (xs : List Int) : visAll h s (xs.take 0) = s := by simp [visAll]
theorem visAll_step {h : Int} {s : St} {xs : List Int} {j : Nat} {x : Int} (hx : xs[j]? = some x) : visAll h s (xs.take (j + 1)) = vis h (visAll h s (xs.take j)) x := by
  rw [List.take_add_one, hx]
  exact visAll_next h s _ x
/-- What a search leaves: what it has found, in a map of its own. -/
def Found (m : Ps) (a : Int) (w : World) (e : Ending) (w' : World) : Prop := ∃ (g t : Nat) (pv : Ps), e = .returned (.map (some g)) ∧ stAt m a t = ([], pv) ∧ Prev w' g pv ∧ w.heap.size ≤ g ∧ Below w.heap.size w w'
/-- The search under way. -/
def Sch (B g : Nat) (w wr : World) (v : Value) (s : St) : Prop := QRow wr B v s.1 ∧ Prev wr g s.2 ∧ Below B w wr
theorem LowsAt.look {w w' : World} {b k : Nat} {m : Ps} (h : LowsAt w b m k) (hw : Below w.heap.size w w') {x : Int} (hx : -1000000 ≤ x ∧ x ≤ 1000000) :
    ∃ v, (Instr.lookup 106 (.map (some b)) (.int .i64 x) false).run Try.prog w' = .ok v w' ∧ w.ownsInts (b + 1) 3 .i64 v (lows m x) := by
  obtain ⟨D, ho, hg⟩ := h
  obtain ⟨es, clock, hb, F, hs, hD, hbb, hlen, hap⟩ := ho
  have hb' : w'.heap[b]? = some (.map es clock) := (hw.block b (Array.getElem?_eq_some_iff.1 hb).1).trans hb
  rcases Maps.fit_look false law Try.underlying106 (zeroL w') hb' F (keyI hx) with ⟨hrun, _, hat⟩ | ⟨e0, y, hm0, h3, hrun, hR, hat, _⟩
  · have hoi := World.ownsInts_nil w (b + 1) 3 .i64
    have := gd_at hg (by rw [hD]; exact hat _) hoi
    rw [← this]
    exact ⟨_, hrun, hoi⟩
  · obtain ⟨zs, hoi, rfl⟩ := rowElem_inv hR
    have := gd_at hg (by rw [hD]; exact hat _) hoi
    rw [← this]
    exact ⟨_, hrun, hoi⟩
theorem own_form {w : World} {B n : Nat} {v : Value} {xs : List Value} (h : w.ownsRow B 3 1 v n xs) : ∃ p d, v = .slice p n d := by
  rcases h.2 with ⟨hv, hn⟩ | ⟨g, cap, cur, hv, _⟩
  · subst hn
    exact ⟨none, 0, hv⟩
  · exact ⟨_, cap, hv⟩
theorem elem {x : Int} (h : -1000000 ≤ x ∧ x ≤ 1000000) : plainElem (H := Unit) Try.prog 3 (.int .i64 x) = some (.lit (.int .i64 x), []) := plainElem_int Try.underlying3 (wfI h)
theorem vis_old {h x : Int} {s : St} (e : (isAt s.2 x).isSome = true) : vis h s x = s := by unfold vis; rw [if_pos e]
theorem vis_new {h x : Int} {s : St} (e : (isAt s.2 x).isSome = false) : vis h s x = (s.1 ++ [x], s.2 ++ [(x, h)]) := by unfold vis; rw [if_neg (by rw [e]; simp)]
/-- What a round may count on. -/
theorem head_rng {m : Ps} {a h : Int} {q : List Int} {pv : Ps} (i : Inv m a (h :: q, pv)) (hm : ∀ x y, (x, y) ∈ m → (1 ≤ x ∧ x ≤ 999) ∧ (1 ≤ y ∧ y ≤ 999)) (ha : 1 ≤ a ∧ a ≤ 999) : 1 ≤ h ∧ h ≤ 999 := by
  rcases i.good.queue h (by simp) with e | e
  · rw [e]; exact ha
  · obtain ⟨⟨x, y⟩, hp, hy⟩ := List.mem_map.1 (i.good.inside h e)
    have := (hm x y hp).2
    have e2 : y = h := hy
    rw [← e2]
    exact this
theorem few_mid {m : Ps} {a h : Int} {q : List Int} {pv : Ps} (i : Inv m a (h :: q, pv)) (j : Nat) : (visAll h (h :: q, pv) ((lows m h).take j)).2.length ≤ m.length :=
  (i.good.visAll _ _ (i.good.queue h (by simp)) (fun x hx => mem_lows.1 (List.mem_of_mem_take hx))).few
set_option maxRecDepth 100000 in
set_option maxHeartbeats 8000000 in
theorem from_any (b n : Nat) (m : Ps) (a : Int) (w : World) (hn : m.length ≤ 24) (hm : ∀ x y, (x, y) ∈ m → (1 ≤ x ∧ x ≤ 999) ∧ (1 ≤ y ∧ y ≤ 999)) (ha : 1 ≤ a ∧ a ≤ 999) (h : LowsAt w b m n) :
    Calls Try.prog 89 #[.map (some b), .int .i64 a] w (Found m a w) := by
  obtain ⟨i0, hi, hy0, hy1, hy2⟩ := info_parts infoInt
  have hmm := @run_makeMap Try.prog
  have HLW := Lib.hid h
  have HM := Lib.hid hm
  clear h hm
  go_enter Try.func89, Try.ntmps89
  go_wp2_with fail
  have hb0 := (below_alloc w (.map #[] 0)).trans (((Below.refl _ _).alloc (by simp) (.cells #[.int .i64 a] 3)) : Below w.heap.size (w.alloc (.map #[] 0)) _)
  have hP0 : Prev ((w.alloc (.map #[] 0)).alloc (.cells #[.int .i64 a] 3)) w.heap.size [] := (World.ownsMap_made w Try.prog 3 (plainElem Try.prog 3)).alloc _
  have hQ0 : QRow ((w.alloc (.map #[] 0)).alloc (.cells #[.int .i64 a] 3)) w.heap.size (.slice (some ⟨w.heap.size + 1, 0, none⟩) 1 1) [a] := by
    have := QRow.one (w := w.alloc (.map #[] 0)) (B := w.heap.size) (x := a) (by simp)
    simpa using this
  have HS0 : Hid (Sch w.heap.size w.heap.size w ((w.alloc (.map #[] 0)).alloc (.cells #[.int .i64 a] 3)) (.slice (some ⟨w.heap.size + 1, 0, none⟩) 1 1) ([a], [])) := ⟨hQ0, hP0, hb0⟩
  clear hb0 hP0 hQ0 hmm
  generalize (w.alloc (.map #[] 0)).alloc (.cells #[.int .i64 a] 3) = W1 at *
  go_loopg [6] 25 (fun f v6 wr => ∃ (t : Nat) (q : List Int) (pv : Ps), Hid (stAt m a t = (q, pv)) ∧ q.length + 24 = f + pv.length ∧ f ≤ 25 ∧ Hid (Sch w.heap.size w.heap.size w wr v6 (q, pv)))
  case atStart => exact ⟨0, [a], [], rfl, rfl, Nat.le_refl _, HS0⟩
  case round =>
    obtain ⟨t, q, pv, HT, hf, hf25, HS⟩ := hrel
    clear HS0
    have hinv := inv_at m a t
    rw [HT.out] at hinv
    have hfew := hinv.good.few
    obtain ⟨hQ, hP, hbel⟩ := HS.out
    simp only at hQ hP hfew
    have HBL := Lib.hid hbel
    clear hbel HS
    cases q with
    | nil =>
      obtain ⟨bq, off, cap, rfl, hle, hcell⟩ := hQ.form
      have HP := Lib.hid hP
      clear hQ hP hcell hinv
      go_wp2_with fail
      go_ret
      exact ⟨_, t, pv, rfl, HT.out, HP.out, Nat.le_refl _, HBL.out⟩
    | cons h q =>
      have hh := head_rng hinv HM.out ha
      have HI := Lib.hid hinv
      obtain ⟨bq, off, cap, rfl, hle, hcell⟩ := hQ.form
      have c0 := hcell 0 h rfl
      rw [Nat.add_zero] at c0
      obtain ⟨v, hrun, hoi⟩ := LowsAt.look HLW.out HBL.out (x := h) (by omega)
      obtain ⟨p, d, rfl⟩ := own_form hoi.1
      have HZ := Lib.hid (GivesI.holds_own (L := lows m h) hoi.1)
      have hzl := lows_len m h
      obtain ⟨N, hN⟩ : ∃ N, (h :: q).length = N := ⟨_, rfl⟩
      obtain ⟨L, hL⟩ : ∃ L, (lows m h).length = L := ⟨_, rfl⟩
      have HS1 : Hid (Sch w.heap.size w.heap.size w wr (.slice (some ⟨bq, off, none⟩) (h :: q).length cap) (visAll h (h :: q, pv) ((lows m h).take 0))) := ⟨by rw [visAll_zero]; exact hQ, by rw [visAll_zero]; exact hP, HBL.out⟩
      rw [hN] at HS1 hle ⊢
      have hN1 : 0 < N := by rw [← hN]; simp
      have hN2 : (0 : Int) < (N : Int) := by omega
      rw [hL] at hrun HZ hzl
      have HL := Lib.hid hL
      have HNN := Lib.hid hN
      clear hQ hP hcell hinv hoi hL hN
      go_wp2_with fail
      clear hrun c0
      go_loopw [6, 25] (fun v6 v25 wr => ∃ j : Nat, j ≤ L ∧ v25 = .int .i64 j ∧ Hid (Sch w.heap.size w.heap.size w wr v6 (visAll h (h :: q, pv) ((lows m h).take j))) ∧ Hid (Below w.heap.size w wr)) (fun _ v25 _ => L - (intOf v25).toNat)
      case atStart => exact ⟨0, Nat.zero_le _, rfl, HS1, HBL⟩
      case round =>
        clear HS1
        obtain ⟨j, hj, rfl, HS, HB2⟩ := hrel
        obtain ⟨hQ, hP, hbel⟩ := HS.out
        obtain ⟨u, hu, hul⟩ := visAll_queue (h := h) ((lows m h).take j) (h :: q, pv)
        have hfm := few_mid HI.out j
        by_cases hlt : j < L
        · obtain ⟨bz, oz, x, rfl, hx, e1⟩ := (HZ.out.below HB2.out).at j hlt
          have hxm := mem_lows.1 (List.mem_of_getElem? hx)
          have hxr := (HM.out h x hxm).2
          have hjn : (j : Int) < (L : Int) := by omega
          have hj0 : (0 : Int) ≤ (j : Int) := by omega
          have HV := Lib.hid (visAll_step (h := h) (s := (h :: q, pv)) hx)
          clear hx hxm HS
          generalize visAll h (h :: q, pv) ((lows m h).take j) = s at *
          obtain ⟨bq2, off2, cap2, rfl, hle2, hcell⟩ := hQ.form
          have c0 := hcell 0 h (by rw [hu]; rfl)
          rw [Nat.add_zero] at c0
          obtain ⟨N2, hN2'⟩ : ∃ N2, s.1.length = N2 := ⟨_, rfl⟩
          have hN3 : 0 < N2 := by rw [← hN2', hu]; simp
          have hN4 : (0 : Int) < (N2 : Int) := by omega
          have hN5 : N2 ≤ 100000 := by rw [← hN2', hu, List.length_append]; have h1 := hf; have h2 := hfm; simp at h1 hul h2 ⊢; omega
          have hkey := keyI (x := x) (by omega)
          have hhas := has_mapOf s.2 x
          have hown := hP
          cases hq : (isAt s.2 x).isSome with
          | true =>
            rw [hq] at hhas
            have HS2 : Hid (Sch w.heap.size w.heap.size w wr (.slice (some ⟨bq2, off2, none⟩) s.1.length cap2) (visAll h (h :: q, pv) ((lows m h).take (j + 1)))) := by
              rw [HV.out, vis_old hq]
              exact ⟨hQ, hP, hbel⟩
            rw [hN2'] at HS2 ⊢
            clear hq hQ hP hcell hbel HV hu hul hN2'
            go_wp2_with (at_lookup; refine wpList_lookup_own_ok_int _ rfl _ _ 109 rfl 3 3 .i64 law Try.underlying109 Try.underlying3 (zeroI _) w.heap.size _ _ rfl hown _ _ rfl hkey ?_; intro c hat hwc; rw [hhas])
            exact ⟨⟨j + 1, by omega, by go_num, HS2, HB2⟩, by simp [intOf]; omega⟩
          | false =>
            rw [hq] at hhas
            have hlen : s.2.length < maxLen := by unfold maxLen; omega
            have HV2 : Hid (visAll h (h :: q, pv) ((lows m h).take (j + 1)) = (s.1 ++ [x], s.2 ++ [(x, h)])) := by unfold Hid; rw [HV.out, vis_new hq]
            have hel := elem (x := h) (by omega)
            have HQ := Lib.hid hQ
            have HP := Lib.hid hP
            have HBI := Lib.hid hbel
            have hwsz := hbel.size
            have HXR := Lib.hid hxr
            rw [hN2'] at HQ ⊢
            have HN2 := Lib.hid hN2'
            clear hq hQ hP hcell hbel HV hu hul hN2'
            go_wp2_with (first
              | (at_lookup; refine wpList_lookup_own_ok_int _ rfl _ _ 109 rfl 3 3 .i64 law Try.underlying109 Try.underlying3 (zeroI _) w.heap.size _ _ rfl hown _ _ rfl hkey ?_; intro c hat hwc; rw [hhas])
              | (at_mapUpdate; refine wpList_mapUpdate_own _ rfl _ _ _ 109 rfl 3 3 law Try.underlying109 _ w.heap.size _ _ rfl hown hlen _ _ _ rfl rfl hkey _ [] hel ?_; intro w1 hown1 hgrow1; have hq1 := QRow.kept HQ.out hgrow1 (Prev.ne HP.out HQ.out); have hw1 := hgrow1.size)
              | (at_builtin; refine wpList_append_q hi hy0 hy1 hy2 rfl _ _ rfl w.heap.size _ s.1 rfl (hq1.below (below_alloc w1 _)) x ⟨w1.heap.size, 0, none⟩ 1 rfl (cell_one_new _ _ _) (by rw [HN2.out]; exact hN5) (by simp; omega) ?_; intro v' w9 hq9 hg9))
            have hP1 : Prev w1 w.heap.size (s.2 ++ [(x, h)]) := by
              unfold Prev
              rw [mapOf_snoc, List.length_append]
              exact hown1
            have hP9 : Prev w9 w.heap.size (s.2 ++ [(x, h)]) := (hP1.below (below_alloc w1 (.cells #[.int .i64 x] 3))).kept hg9 (Prev.ne (hP1.below (below_alloc w1 (.cells #[.int .i64 x] 3))) (hq1.below (below_alloc w1 (.cells #[.int .i64 x] 3))))
            have hB1 := HBI.out.grown hgrow1 hwsz (fun k hk => by injection hk with hk; omega)
            have hB9 : Below w.heap.size w w9 := (hB1.alloc hB1.size (.cells #[.int .i64 x] 3)).grown hg9 (by have := hB1.size; simp; omega) (fun k hk => ((hq1.below (below_alloc w1 (.cells #[.int .i64 x] 3))).lt k hk).1)
            exact ⟨⟨j + 1, by omega, by go_num, by rw [HV2.out]; exact ⟨hq9, hP9, hB9⟩, hB9⟩, by simp [intOf]; omega⟩
        · obtain rfl : j = L := by omega
          have hjn : ¬ (j : Int) < (j : Int) := by omega
          have hall : (lows m h).take j = lows m h := List.take_of_length_le (by rw [HL.out]; exact Nat.le_refl _)
          rw [hall] at hQ hP hu hul hfm
          have hrd := round_cons m h q pv
          generalize visAll h (h :: q, pv) (lows m h) = s at *
          obtain ⟨s1, s2⟩ := s
          simp only at hQ hP hu hul hfm hrd
          subst hu
          obtain ⟨bq2, off2, cap2, rfl, hle2, hcell⟩ := hQ.form
          have HQT := Lib.hid (QRow.tail (q := q ++ u) hQ)
          have HQ := Lib.hid hQ
          obtain ⟨N2, hN2'⟩ : ∃ N2, (q ++ u).length = N2 := ⟨_, rfl⟩
          have hlen2 : ((h :: q) ++ u).length = N2 + 1 := by rw [← hN2']; simp
          have HST : Hid (stAt m a (t + 1) = (q ++ u, s2)) := by
            show round m (stAt m a t) = _
            rw [HT.out, hrd]
            rfl
          have HP := Lib.hid hP
          rw [hlen2] at hle2 ⊢
          rw [hN2'] at HQT
          have HN2 := Lib.hid hN2'
          have HL2 := Lib.hid hlen2
          have hf1 : (q ++ u).length + 24 = (gk - 1) + s2.length := by simp at hf hul ⊢; omega
          have HF1 := Lib.hid hf1
          have hff : 1 ≤ gk := by simp at hf; omega
          clear hQ hP hcell hbel hN2' hlen2 hrd HS hf1
          by_cases hc1 : cap2 = 1
          · subst hc1
            obtain ⟨hnil, hql⟩ := QRow.last (q := q ++ u) HQ.out
            have hn0 : N2 = 0 := by rw [← HN2.out, hnil]; rfl
            subst hn0
            have HQL := Lib.hid hql
            clear hnil hql
            go_wp2_with fail
            go_roundg (gk - 1)
            case measure => omega
            case rel => exact ⟨t + 1, q ++ u, s2, HST, HF1.out, by omega, ⟨HQL.out, HP.out, HB2.out⟩⟩
          · go_wp2_with fail
            go_roundg (gk - 1)
            case measure => omega
            case rel => exact ⟨t + 1, q ++ u, s2, HST, HF1.out, by omega, ⟨HQT.out, HP.out, HB2.out⟩⟩
end Go.Proofs.Ytbdplgcdnpcnfaa.From
/- The program's orderOf, and the function that it returns. -/
namespace Go.Proofs.Ytbdplgcdnpcnfaa.Order
open Go.RowKit Go.Maps Pairs Chain Find2 GoodM Lows Queue From MapStep
theorem zeroM (w : World) : (zeroValue 109).run Try.prog w = .ok (.map none) w := by kernel_rfl
/-- How the map of maps reads: by the inner maps' blocks. -/
def chR : Value → Option (Dat × List MemPlace)
  | .map (some g) => some (.lit (.int .i64 (g : Int)), [])
  | .map none => some (.nil, [])
  | _ => none
theorem chR_inv {v : Value} {g : Nat} {ps : List MemPlace} (h : chR v = some (.lit (.int .i64 (g : Int)), ps)) : v = .map (some g) := by
  unfold chR at h
  split at h
  · injection h with h
    injection h with h _
    injection h with h
    injection h with _ h
    rw [Int.ofNat.inj h]
  · injection h with h
    injection h with h _
    cases h
  · cases h
theorem keys_next {l : Ps} {k : Nat} {x y : Int} (hx : l[k]? = some (x, y)) : keys (l.take (k + 1)) = keys (l.take k) ++ [x] := by
  rw [List.take_add_one, hx]
  unfold keys
  simp
/-- The searches of the first k contexts, in the map of block bc. -/
def Ord (w : World) (l m : Ps) (k bc : Nat) : Prop := ∃ D : Dat, w.ownsMap Try.prog 3 chR bc k D ∧
  ∀ x, x ∈ keys (l.take k) → ∃ (g t : Nat) (pv : Ps), D.atKey (.int .i64 x) .nil = .lit (.int .i64 (g : Int)) ∧ stAt m x t = ([], pv) ∧ Prev w g pv ∧ bc < g
theorem Ord.below {w w' : World} {l m : Ps} {k bc : Nat} (h : Ord w l m k bc) (hb : Below w.heap.size w w') : Ord w' l m k bc := by
  obtain ⟨D, ho, hk⟩ := h
  refine ⟨D, ho.kept (grown_none hb) (by simp), fun x hx => ?_⟩
  obtain ⟨g, t, pv, h1, h2, h3, h4⟩ := hk x hx
  exact ⟨g, t, pv, h1, h2, h3.below hb, h4⟩
theorem Ord.next {w w2 : World} {l m : Ps} {k bc g t : Nat} {D : Dat} {x y : Int} {pv : Ps} (hD : IsMap D) (hk : ∀ x, x ∈ keys (l.take k) → ∃ (g t : Nat) (pv : Ps), D.atKey (.int .i64 x) .nil = .lit (.int .i64 (g : Int)) ∧ stAt m x t = ([], pv) ∧ Prev w g pv ∧ bc < g)
    (hx : l[k]? = some (x, y)) (hst : stAt m x t = ([], pv)) (hp : Prev w g pv) (hg : bc < g) (hown : w2.ownsMap Try.prog 3 chR bc (k + 1) (D.put (.int .i64 x) (.lit (.int .i64 (g : Int))))) (hgr : w.grownBy w2 (some bc)) : Ord w2 l m (k + 1) bc := by
  refine ⟨_, hown, fun z hz => ?_⟩
  by_cases e : x = z
  · subst e
    exact ⟨g, t, pv, atKey_put_same hD (show WideAt.IsKeyLit (.int .i64 x) from trivial) _ _, hst, hp.kept hgr (by intro h; injection h with h; omega), hg⟩
  · rw [keys_next hx] at hz
    rcases List.mem_append.1 hz with hz | hz
    · obtain ⟨g', t', pv', h1, h2, h3, h4⟩ := hk z hz
      exact ⟨g', t', pv', by rw [atKey_put_other (by intro h2; injection h2 with _ h2; exact e h2.symm)]; exact h1, h2, h3.kept hgr (by intro h; injection h with h; omega), h4⟩
    · simp at hz
      exact absurd hz.symm e
theorem ord_isMap {w : World} {bc k : Nat} {D : Dat} (h : w.ownsMap Try.prog 3 chR bc k D) : IsMap D := by
  obtain ⟨_, _, _, _, _, hD⟩ := h
  exact ⟨_, hD⟩
/-- What the function that orderOf returns looks into. -/
def IsOrd (w : World) (l m : Ps) (bx : Nat) : Prop := ∃ bc, w.cell? ⟨bx, 0, none⟩ = some (.map (some bc)) ∧ Ord w l m l.length bc
theorem IsOrd.below {w w' : World} {l m : Ps} {bx : Nat} (h : IsOrd w l m bx) (hb : Below w.heap.size w w') : IsOrd w' l m bx := by
  obtain ⟨bc, h1, h2⟩ := h
  exact ⟨bc, (hb.cell (p := ⟨bx, 0, none⟩) (World.block_lt_of_cell? w _ h1)).trans h1, h2.below hb⟩
theorem found_later {m : Ps} {a b : Int} {t : Nat} {pv : Ps} (h : stAt m a t = ([], pv)) : (isAt pv b).isSome = later m a b := by
  have i := inv_at m a t
  rw [h] at i
  have e := i.end b
  rw [← isAt_keys, ← later_iff] at e
  cases h1 : (isAt pv b).isSome <;> cases h2 : later m a b <;> simp_all
set_option maxHeartbeats 1000000 in
theorem isLater_any (bx : Nat) (l m : Ps) (a b : Int) (w : World) (h : IsOrd w l m bx) (ha : a ∈ keys l) (hra : -1000000 ≤ a ∧ a ≤ 1000000) (hrb : -1000000 ≤ b ∧ b ≤ 1000000) :
    Calls Try.prog 90 #[.int .i64 a, .int .i64 b, .pointer (some ⟨bx, 0, none⟩)] w fun e w' => e = .returned (.bool (later m a b)) ∧ w' = w := by
  obtain ⟨bc, c0, D, ho, hk⟩ := h
  obtain ⟨g, t, pv, h1, h2, h3, h4⟩ := hk a (by rw [List.take_of_length_le (Nat.le_refl _)]; exact ha)
  obtain ⟨v, ps, hr1, hv⟩ := ho.lookup law (t := 108) Try.underlying108 (zeroM w) (zd := .nil) (zp := []) rfl (keyI hra)
  rw [h1] at hv
  have e := chR_inv hv
  subst e
  obtain ⟨u, ps2, hr2, hu⟩ := World.ownsMap.look_ok h3 law (t := 109) Try.underlying109 (zeroI w) (zd := .lit (.int .i64 0)) (zp := []) (elem (by omega)) (keyI hrb)
  obtain ⟨c, rfl, _, _⟩ := plainElem_int_inv Try.underlying3 hu
  rw [has_mapOf, found_later h2] at hr2
  clear ho hk h1 h2 h3 h4 hv hu
  go_enter Try.func90, Try.ntmps90
  go_wp2_with fail
  go_ret
  exact ⟨rfl, rfl⟩
def OrdAns (l m : Ps) (w : World) (e : Ending) (w' : World) : Prop := ∃ bx, e = .returned (.func (.func 90) #[] #[.pointer (some ⟨bx, 0, none⟩)]) ∧ IsOrd w' l m bx ∧ Below w.heap.size w w'
theorem belA {W X : World} (h : Below W.heap.size W X) (o : Obj) : Below W.heap.size W (X.alloc o) := h.alloc h.size o
set_option maxRecDepth 100000 in
set_option maxHeartbeats 8000000 in
theorem orderOf_any (a1 a2 : Option Addr) (n1 c1 n2 c2 : Nat) (l m : List (Int × Int)) (w : World) (hgood : good l m = true) (h1 : Holds w a1 n1 l) (h2 : Holds w a2 n2 m) :
    Calls Try.prog 60 #[.agg #[.slice a1 n1 c1, .slice a2 n2 c2]] w (OrdAns l m w) := by
  have hmm := @run_makeMap Try.prog
  have hn : l.length ≤ 10 ∧ m.length ≤ 24 := by
    have h := hgood
    unfold good at h
    simp only [Bool.and_eq_true, decide_eq_true_eq] at h
    exact ⟨h.1.1.1, h.1.1.2⟩
  have hn1 : n1 ≤ 10 := by rw [← h1.1]; exact hn.1
  have hn2 : n2 ≤ 24 := by rw [← h2.1]; exact hn.2
  have HN := Lib.hid hn
  have HL1 := Lib.hid h1.1
  have hb := below_alloc w (.cells #[.slice a1 n1 c1, .slice a2 n2 c2] 33)
  have hf := box_first w (.slice a1 n1 c1) (.slice a2 n2 c2) 33
  have hf2 := box_second w (.slice a1 n1 c1) (.slice a2 n2 c2) 33
  have hsz : w.heap.size < (w.alloc (.cells #[.slice a1 n1 c1, .slice a2 n2 c2] 33)).heap.size := by simp
  have H1 := Lib.hid (h1.below hb)
  have H2 := Lib.hid (h2.below hb)
  have HG := Lib.hid hgood
  have HB := Lib.hid hb
  clear h1 h2 hgood hb hn
  go_enter Try.func60, Try.ntmps60
  go_wp2_with fail
  generalize w.alloc (.cells #[.slice a1 n1 c1, .slice a2 n2 c2] 33) = W0 at *
  refine (lowersOf_any a1 a2 n1 c1 n2 c2 l m W0 HG.out H2.out).mono ?_
  rintro e w1 ⟨bl, rfl, hlow, hbl, hb1⟩
  have g1 := (hb1.cell (p := ⟨w.heap.size, 0, none⟩) hsz).trans hf
  have hsz1 := Nat.lt_of_lt_of_le hsz hb1.size
  have ha := below_alloc w1 (.map #[] 0)
  have hb2 := ha.trans (belA (Below.refl _ _) (.cells #[.map (some w1.heap.size)] 108) |>.mono ha.size)
  have s1 := (hb2.cell (p := ⟨w.heap.size, 0, none⟩) hsz1).trans g1
  have hO0 : ((w1.alloc (.map #[] 0)).alloc (.cells #[.map (some w1.heap.size)] 108)).ownsMap Try.prog 3 chR w1.heap.size 0 (.map []) := (World.ownsMap_made w1 Try.prog 3 chR).alloc _
  have hbxc : ((w1.alloc (.map #[] 0)).alloc (.cells #[.map (some w1.heap.size)] 108)).cell? ⟨w1.heap.size + 1, 0, none⟩ = some (.map (some w1.heap.size)) := by
    have e : (w1.alloc (.map #[] 0)).heap.size = w1.heap.size + 1 := by simp
    rw [← e, World.cell?_alloc_mark]
    rfl
  have HOrd : Hid (Ord ((w1.alloc (.map #[] 0)).alloc (.cells #[.map (some w1.heap.size)] 108)) l m 0 w1.heap.size) := ⟨_, hO0, fun x hx => by simp [keys] at hx⟩
  have HB1 := Lib.hid (HB.out.trans (hb1.mono HB.out.size))
  have H11 := Lib.hid (H1.out.below hb1)
  have HBW := Lib.hid hb2
  have HLW1 := Lib.hid hlow
  have hszs : ((w1.alloc (.map #[] 0)).alloc (.cells #[.map (some w1.heap.size)] 108)).heap.size = w1.heap.size + 2 := by simp
  clear hf hf2 hlow hb1 ha hb2 hO0
  go_wp2_with fail
  have HBXC := Lib.hid hbxc
  clear hmm s1 hbxc H1
  generalize (w1.alloc (.map #[] 0)).alloc (.cells #[.map (some w1.heap.size)] 108) = W2 at *
  have hss : W2.heap.size = w1.heap.size + 2 := hszs
  go_loopw [13] (fun s13 wr => ∃ k : Nat, k ≤ n1 ∧ s13 = .int .i64 k ∧ Hid (Ord wr l m k w1.heap.size) ∧ Hid (Below w1.heap.size w1 wr) ∧ wr.cell? ⟨w1.heap.size + 1, 0, none⟩ = some (.map (some w1.heap.size)) ∧ w1.heap.size + 2 ≤ wr.heap.size) (fun s13 _ => n1 - (intOf s13).toNat)
  case atStart => exact ⟨0, Nat.zero_le _, rfl, HOrd, HBW, HBXC.out, by omega⟩
  case round =>
    obtain ⟨k, hk, rfl, HO, HBR, hbc, hws⟩ := hrel
    clear HOrd hss hszs HBXC
    by_cases hlt : k < n1
    · obtain ⟨b, off, x, y, rfl, hx, e1, e2⟩ := (H11.out.below HBR.out).at k hlt
      have hkn : (k : Int) < (n1 : Int) := by omega
      have hxr := nums HG.out hx
      obtain ⟨D, hown, hkk⟩ := HO.out
      have hbz := below_alloc wr (.cells #[.int .i64 x, .int .i64 y] 66)
      have u1 := box_first wr (.int .i64 x) (.int .i64 y) 66
      have u2' := box_second wr (.int .i64 x) (.int .i64 y) 66
      have cx1 := (hbz.cell (p := ⟨w1.heap.size + 1, 0, none⟩) (by show w1.heap.size + 1 < _; omega)).trans hbc
      have hzs : wr.heap.size < (wr.alloc (.cells #[.int .i64 x, .int .i64 y] 66)).heap.size := by simp
      have HOW := Lib.hid (hown.kept (grown_none hbz) (by simp))
      have HKK : Hid (∀ z, z ∈ keys (l.take k) → ∃ (g t : Nat) (pv : Ps), D.atKey (.int .i64 z) .nil = .lit (.int .i64 (g : Int)) ∧ stAt m z t = ([], pv) ∧ Prev (wr.alloc (.cells #[.int .i64 x, .int .i64 y] 66)) g pv ∧ w1.heap.size < g) := fun z hz => by
        obtain ⟨g', t', pv', h1, h2, h3, h4⟩ := hkk z hz
        exact ⟨g', t', pv', h1, h2, h3.below (below_alloc wr _), h4⟩
      have HBZ := Lib.hid (HBR.out.trans (hbz.mono HBR.out.size))
      have HX := Lib.hid hx
      have HMR : Hid (∀ x y, (x, y) ∈ m → (1 ≤ x ∧ x ≤ 999) ∧ (1 ≤ y ∧ y ≤ 999)) := fun x y hm => rels HG.out hm
      have HXR := Lib.hid hxr
      clear hown hkk hbz hx HO HBR hbc hxr
      go_wp2_with fail
      generalize wr.alloc (.cells #[.int .i64 x, .int .i64 y] 66) = Z at *
      generalize wr.heap.size = cb at *
      clear e1 e2 u2'
      have HS : Hid (∀ X, Below Z.heap.size Z X → X.cell? ⟨w1.heap.size + 1, 0, none⟩ = some (.map (some w1.heap.size)) ∧ X.cell? ⟨cb, 0, none⟩ = some (.int .i64 x)) := fun X hX => ⟨(hX.cell (p := ⟨w1.heap.size + 1, 0, none⟩) (by show w1.heap.size + 1 < _; omega)).trans cx1, (hX.cell (p := ⟨cb, 0, none⟩) hzs).trans u1⟩
      go_region_held3 (fun X => X.cell? ⟨w1.heap.size + 1, 0, none⟩ = some (.map (some w1.heap.size)) ∧ X.cell? ⟨cb, 0, none⟩ = some (.int .i64 x))
        (first | exact s2 | exact s9 | (refine HS.out _ ?_; (repeat (first | exact Below.refl _ _ | refine belA ?_ _ | refine Below.drew ?_)); done))
        (first
          | (go_at_call 89; refine (from_any bl n2 m x _ HN.out.2 HMR.out HXR.out ((HLW1.out.below HBZ.out).below ?_)).mono ?_; (exact (Below.refl Z.heap.size Z).drew); rintro e w9 ⟨g, t, pv, rfl, hst, hpv, hge, hb9⟩; have s9 := HS.out w9 ((Below.refl Z.heap.size Z).drew.trans hb9))
          | (obtain ⟨w2, hrun2, hown2, hgrow2⟩ := World.ownsMap.update (HOW.out.kept (grown_none ((Below.refl Z.heap.size Z).drew.trans hb9)) (by simp)) law Try.underlying108 (by unfold maxLen; omega) (val := .map (some g)) (keyI (x := x) (by have := HXR.out; omega)) rfl; have s2 : w2.cell? ⟨w1.heap.size + 1, 0, none⟩ = some (.map (some w1.heap.size)) ∧ w2.cell? ⟨cb, 0, none⟩ = some (.int .i64 x) := ⟨(World.cell?_of_block (hgrow2.block (w1.heap.size + 1) (World.block_lt_of_cell? w9 _ s9.1) (by intro e; injection e with e; omega))).trans s9.1, (World.cell?_of_block (hgrow2.block cb (World.block_lt_of_cell? w9 _ s9.2) (by intro e; injection e with e; omega))).trans s9.2⟩; refine upon_ok hrun2 ?_; rw [Oper.upon_skip])
          | fail)
      have hz9 := (Below.refl Z.heap.size Z).drew.trans hb9
      have HON : Hid (Ord w2 l m (k + 1) w1.heap.size) := Ord.next (w := w9) (ord_isMap HOW.out) (fun z hz => by
        obtain ⟨g', t', pv', h1, h2, h3, h4⟩ := HKK.out z hz
        exact ⟨g', t', pv', h1, h2, h3.below hz9, h4⟩) HX.out hst hpv (by have h5 : Z.heap.size ≤ g := hge; omega) hown2 hgrow2
      have HBN : Hid (Below w1.heap.size w1 w2) := (HBZ.out.trans (hz9.mono HBZ.out.size)).grown hgrow2 (HBZ.out.trans (hz9.mono HBZ.out.size)).size (fun j hj => by injection hj with hj; omega)
      have hsn : w1.heap.size + 2 ≤ w2.heap.size := by have h5 := hgrow2.size; have h6 := hz9.size; omega
      have HS2 := Lib.hid s2
      clear hown2 hgrow2 hrun2 hb9 hz9 s9 s2 hst hpv hge
      go_wp2_with fail
      exact ⟨⟨k + 1, by omega, by go_num, HON, HBN, HS2.out.1, hsn⟩, by simp [intOf]; omega⟩
    · obtain rfl : k = n1 := by omega
      have hkn : ¬ (k : Int) < (k : Int) := by omega
      have HIO : Hid (IsOrd wr l m (w1.heap.size + 1)) := ⟨_, hbc, by rw [HL1.out]; exact HO.out⟩
      clear hbc
      go_wp2_with fail
      go_ret
      exact ⟨_, rfl, HIO.out, HB1.out.trans (HBR.out.mono HB1.out.size)⟩
end Go.Proofs.Ytbdplgcdnpcnfaa.Order
