/- The program's chainsFrom: the search from a context. -/
import Derived.Test.YtmjhgjlnpnkmkaaQueue
import Derived.Test.YtmjhgjlnpnkmkaaGivesI
import Derived.Deep.LoopGhost
namespace Go.Proofs.Ytmjhgjlnpnkmkaa.From
open Go.RowKit Go.Maps Pairs Chain Find2 Lows Queue
/-- The search after t rounds. -/
def stAt (m : Ps) (a : Int) : Nat → St
  | 0 => ([a], [])
  | t + 1 => round m (stAt m a t)
theorem inv_at (m : Ps) (a : Int) : ∀ t, Inv m a (stAt m a t)
  | 0 => inv_start m a
  | t + 1 => by
    have ih := inv_at m a t
    show Inv m a (round m (stAt m a t))
    generalize stAt m a t = s at *
    obtain ⟨q, pv⟩ := s
    cases q with
    | nil => exact ih
    | cons h q => exact ih.next
theorem round_cons (m : Ps) (h : Int) (q : List Int) (pv : Ps) : round m (h :: q, pv) = ((visAll h (h :: q, pv) (lows m h)).1.tail, (visAll h (h :: q, pv) (lows m h)).2) := rfl
theorem visAll_zero (h : Int) (s : St) (xs : List Int) : visAll h s (xs.take 0) = s := by simp [visAll]
theorem visAll_step {h : Int} {s : St} {xs : List Int} {j : Nat} {x : Int} (hx : xs[j]? = some x) : visAll h s (xs.take (j + 1)) = vis h (visAll h s (xs.take j)) x := by
  rw [List.take_add_one, hx]
  exact visAll_next h s _ x
/-- What a search leaves: what it has found, in a map of its own. -/
def Found (m : Ps) (a : Int) (w : World) (e : Ending) (w' : World) : Prop := ∃ (g t : Nat) (pv : Ps), e = .returned (.map (some g)) ∧ stAt m a t = ([], pv) ∧ Prev w' g pv ∧ w.heap.size ≤ g ∧ Below w.heap.size w w'
/-- The search under way. -/
def Sch (B g : Nat) (w wr : World) (v : Value) (s : St) : Prop := QRow wr B v s.1 ∧ Prev wr g s.2 ∧ Below B w wr
theorem LowsAt.look {w w' : World} {b k : Nat} {m : Ps} (h : LowsAt w b m k) (hw : Below w.heap.size w w') {x : Int} (hx : -1000000 ≤ x ∧ x ≤ 1000000) :
    ∃ v, (Instr.lookup 128 (.map (some b)) (.int .i64 x) false).run Try.prog w' = .ok v w' ∧ w.ownsInts (b + 1) 3 .i64 v (lows m x) := by
  obtain ⟨D, ho, hg⟩ := h
  obtain ⟨es, clock, hb, F, hs, hD, hbb, hlen, hap⟩ := ho
  have hb' : w'.heap[b]? = some (.map es clock) := (hw.block b (Array.getElem?_eq_some_iff.1 hb).1).trans hb
  rcases Maps.fit_look false law Try.underlying128 (zeroL w') hb' F (keyI hx) with ⟨hrun, _, hat⟩ | ⟨e0, y, hm0, h3, hrun, hR, hat, _⟩
  · have hoi := World.ownsInts_nil w (b + 1) 3 .i64
    have := gd_at hg (by rw [hD]; exact hat _) hoi
    rw [← this]
    exact ⟨_, hrun, hoi⟩
  · obtain ⟨zs, hoi, rfl⟩ := rowElem_inv hR
    have := gd_at hg (by rw [hD]; exact hat _) hoi
    rw [← this]
    exact ⟨_, hrun, hoi⟩
theorem own_form {w : World} {B n : Nat} {v : Value} {xs : List Value} (h : w.ownsRow B 3 1 v n xs) : ∃ p d, v = .slice p n d := by
  rcases h.2 with ⟨hv, hn⟩ | ⟨g, cap, cur, hv, _⟩
  · subst hn
    exact ⟨none, 0, hv⟩
  · exact ⟨_, cap, hv⟩
theorem elem {x : Int} (h : -1000000 ≤ x ∧ x ≤ 1000000) : plainElem (H := Unit) Try.prog 3 (.int .i64 x) = some (.lit (.int .i64 x), []) := plainElem_int Try.underlying3 (wfI h)
theorem vis_old {h x : Int} {s : St} (e : (isAt s.2 x).isSome = true) : vis h s x = s := by unfold vis; rw [if_pos e]
theorem vis_new {h x : Int} {s : St} (e : (isAt s.2 x).isSome = false) : vis h s x = (s.1 ++ [x], s.2 ++ [(x, h)]) := by unfold vis; rw [if_neg (by rw [e]; simp)]
/-- What a round may count on. -/
theorem head_rng {m : Ps} {a h : Int} {q : List Int} {pv : Ps} (i : Inv m a (h :: q, pv)) (hm : ∀ x y, (x, y) ∈ m → (1 ≤ x ∧ x ≤ 999) ∧ (1 ≤ y ∧ y ≤ 999)) (ha : 1 ≤ a ∧ a ≤ 999) : 1 ≤ h ∧ h ≤ 999 := by
  rcases i.good.queue h (by simp) with e | e
  · rw [e]; exact ha
  · obtain ⟨⟨x, y⟩, hp, hy⟩ := List.mem_map.1 (i.good.inside h e)
    have := (hm x y hp).2
    have e2 : y = h := hy
    rw [← e2]
    exact this
theorem few_mid {m : Ps} {a h : Int} {q : List Int} {pv : Ps} (i : Inv m a (h :: q, pv)) (j : Nat) : (visAll h (h :: q, pv) ((lows m h).take j)).2.length ≤ m.length :=
  (i.good.visAll _ _ (i.good.queue h (by simp)) (fun x hx => mem_lows.1 (List.mem_of_mem_take hx))).few
set_option maxRecDepth 100000 in
set_option maxHeartbeats 8000000 in
theorem from_any (b n : Nat) (m : Ps) (a : Int) (w : World) (hn : m.length ≤ 24) (hm : ∀ x y, (x, y) ∈ m → (1 ≤ x ∧ x ≤ 999) ∧ (1 ≤ y ∧ y ≤ 999)) (ha : 1 ≤ a ∧ a ≤ 999) (h : LowsAt w b m n) :
    Calls Try.prog 112 #[.map (some b), .int .i64 a] w (Found m a w) := by
  obtain ⟨i0, hi, hy0, hy1, hy2⟩ := info_parts infoInt
  have hmm := @run_makeMap Try.prog
  have HLW := Lib.hid h
  have HM := Lib.hid hm
  clear h hm
  go_enter Try.func112, Try.ntmps112
  go_wp2_with fail
  have hb0 := (below_alloc w (.map #[] 0)).trans (((Below.refl _ _).alloc (by simp) (.cells #[.int .i64 a] 3)) : Below w.heap.size (w.alloc (.map #[] 0)) _)
  have hP0 : Prev ((w.alloc (.map #[] 0)).alloc (.cells #[.int .i64 a] 3)) w.heap.size [] := (World.ownsMap_made w Try.prog 3 (plainElem Try.prog 3)).alloc _
  have hQ0 : QRow ((w.alloc (.map #[] 0)).alloc (.cells #[.int .i64 a] 3)) w.heap.size (.slice (some ⟨w.heap.size + 1, 0, none⟩) 1 1) [a] := by
    have := QRow.one (w := w.alloc (.map #[] 0)) (B := w.heap.size) (x := a) (by simp)
    simpa using this
  have HS0 : Hid (Sch w.heap.size w.heap.size w ((w.alloc (.map #[] 0)).alloc (.cells #[.int .i64 a] 3)) (.slice (some ⟨w.heap.size + 1, 0, none⟩) 1 1) ([a], [])) := ⟨hQ0, hP0, hb0⟩
  clear hb0 hP0 hQ0 hmm
  generalize (w.alloc (.map #[] 0)).alloc (.cells #[.int .i64 a] 3) = W1 at *
  go_loopg [6] 25 (fun f v6 wr => ∃ (t : Nat) (q : List Int) (pv : Ps), Hid (stAt m a t = (q, pv)) ∧ q.length + 24 = f + pv.length ∧ f ≤ 25 ∧ Hid (Sch w.heap.size w.heap.size w wr v6 (q, pv)))
  case atStart => exact ⟨0, [a], [], rfl, rfl, Nat.le_refl _, HS0⟩
  case round =>
    obtain ⟨t, q, pv, HT, hf, hf25, HS⟩ := hrel
    clear HS0
    have hinv := inv_at m a t
    rw [HT.out] at hinv
    have hfew := hinv.good.few
    obtain ⟨hQ, hP, hbel⟩ := HS.out
    simp only at hQ hP hfew
    have HBL := Lib.hid hbel
    clear hbel HS
    cases q with
    | nil =>
      obtain ⟨bq, off, cap, rfl, hle, hcell⟩ := hQ.form
      have HP := Lib.hid hP
      clear hQ hP hcell hinv
      go_wp2_with fail
      go_ret
      exact ⟨_, t, pv, rfl, HT.out, HP.out, Nat.le_refl _, HBL.out⟩
    | cons h q =>
      have hh := head_rng hinv HM.out ha
      have HI := Lib.hid hinv
      obtain ⟨bq, off, cap, rfl, hle, hcell⟩ := hQ.form
      have c0 := hcell 0 h rfl
      rw [Nat.add_zero] at c0
      obtain ⟨v, hrun, hoi⟩ := LowsAt.look HLW.out HBL.out (x := h) (by omega)
      obtain ⟨p, d, rfl⟩ := own_form hoi.1
      have HZ := Lib.hid (GivesI.holds_own (L := lows m h) hoi.1)
      have hzl := lows_len m h
      obtain ⟨N, hN⟩ : ∃ N, (h :: q).length = N := ⟨_, rfl⟩
      obtain ⟨L, hL⟩ : ∃ L, (lows m h).length = L := ⟨_, rfl⟩
      have HS1 : Hid (Sch w.heap.size w.heap.size w wr (.slice (some ⟨bq, off, none⟩) (h :: q).length cap) (visAll h (h :: q, pv) ((lows m h).take 0))) := ⟨by rw [visAll_zero]; exact hQ, by rw [visAll_zero]; exact hP, HBL.out⟩
      rw [hN] at HS1 hle ⊢
      have hN1 : 0 < N := by rw [← hN]; simp
      have hN2 : (0 : Int) < (N : Int) := by omega
      rw [hL] at hrun HZ hzl
      have HL := Lib.hid hL
      have HNN := Lib.hid hN
      clear hQ hP hcell hinv hoi hL hN
      go_wp2_with fail
      clear hrun c0
      go_loopw [6, 25] (fun v6 v25 wr => ∃ j : Nat, j ≤ L ∧ v25 = .int .i64 j ∧ Hid (Sch w.heap.size w.heap.size w wr v6 (visAll h (h :: q, pv) ((lows m h).take j))) ∧ Hid (Below w.heap.size w wr)) (fun _ v25 _ => L - (intOf v25).toNat)
      case atStart => exact ⟨0, Nat.zero_le _, rfl, HS1, HBL⟩
      case round =>
        clear HS1
        obtain ⟨j, hj, rfl, HS, HB2⟩ := hrel
        obtain ⟨hQ, hP, hbel⟩ := HS.out
        obtain ⟨u, hu, hul⟩ := visAll_queue (h := h) ((lows m h).take j) (h :: q, pv)
        have hfm := few_mid HI.out j
        by_cases hlt : j < L
        · obtain ⟨bz, oz, x, rfl, hx, e1⟩ := (HZ.out.below HB2.out).at j hlt
          have hxm := mem_lows.1 (List.mem_of_getElem? hx)
          have hxr := (HM.out h x hxm).2
          have hjn : (j : Int) < (L : Int) := by omega
          have hj0 : (0 : Int) ≤ (j : Int) := by omega
          have HV := Lib.hid (visAll_step (h := h) (s := (h :: q, pv)) hx)
          clear hx hxm HS
          generalize visAll h (h :: q, pv) ((lows m h).take j) = s at *
          obtain ⟨bq2, off2, cap2, rfl, hle2, hcell⟩ := hQ.form
          have c0 := hcell 0 h (by rw [hu]; rfl)
          rw [Nat.add_zero] at c0
          obtain ⟨N2, hN2'⟩ : ∃ N2, s.1.length = N2 := ⟨_, rfl⟩
          have hN3 : 0 < N2 := by rw [← hN2', hu]; simp
          have hN4 : (0 : Int) < (N2 : Int) := by omega
          have hN5 : N2 ≤ 100000 := by rw [← hN2', hu, List.length_append]; have h1 := hf; have h2 := hfm; simp at h1 hul h2 ⊢; omega
          have hkey := keyI (x := x) (by omega)
          have hhas := has_mapOf s.2 x
          have hown := hP
          cases hq : (isAt s.2 x).isSome with
          | true =>
            rw [hq] at hhas
            have HS2 : Hid (Sch w.heap.size w.heap.size w wr (.slice (some ⟨bq2, off2, none⟩) s.1.length cap2) (visAll h (h :: q, pv) ((lows m h).take (j + 1)))) := by
              rw [HV.out, vis_old hq]
              exact ⟨hQ, hP, hbel⟩
            rw [hN2'] at HS2 ⊢
            clear hq hQ hP hcell hbel HV hu hul hN2'
            go_wp2_with (at_lookup; refine wpList_lookup_own_ok_int _ rfl _ _ 131 rfl 3 3 .i64 law Try.underlying131 Try.underlying3 (zeroI _) w.heap.size _ _ rfl hown _ _ rfl hkey ?_; intro c hat hwc; rw [hhas])
            exact ⟨⟨j + 1, by omega, by go_num, HS2, HB2⟩, by simp [intOf]; omega⟩
          | false =>
            rw [hq] at hhas
            have hlen : s.2.length < maxLen := by unfold maxLen; omega
            have HV2 : Hid (visAll h (h :: q, pv) ((lows m h).take (j + 1)) = (s.1 ++ [x], s.2 ++ [(x, h)])) := by unfold Hid; rw [HV.out, vis_new hq]
            have hel := elem (x := h) (by omega)
            have HQ := Lib.hid hQ
            have HP := Lib.hid hP
            have HBI := Lib.hid hbel
            have hwsz := hbel.size
            have HXR := Lib.hid hxr
            rw [hN2'] at HQ ⊢
            have HN2 := Lib.hid hN2'
            clear hq hQ hP hcell hbel HV hu hul hN2'
            go_wp2_with (first
              | (at_lookup; refine wpList_lookup_own_ok_int _ rfl _ _ 131 rfl 3 3 .i64 law Try.underlying131 Try.underlying3 (zeroI _) w.heap.size _ _ rfl hown _ _ rfl hkey ?_; intro c hat hwc; rw [hhas])
              | (at_mapUpdate; refine wpList_mapUpdate_own _ rfl _ _ _ 131 rfl 3 3 law Try.underlying131 _ w.heap.size _ _ rfl hown hlen _ _ _ rfl rfl hkey _ [] hel ?_; intro w1 hown1 hgrow1; have hq1 := QRow.kept HQ.out hgrow1 (Prev.ne HP.out HQ.out); have hw1 := hgrow1.size)
              | (at_builtin; refine wpList_append_q hi hy0 hy1 hy2 rfl _ _ rfl w.heap.size _ s.1 rfl (hq1.below (below_alloc w1 _)) x ⟨w1.heap.size, 0, none⟩ 1 rfl (cell_one_new _ _ _) (by rw [HN2.out]; exact hN5) (by simp; omega) ?_; intro v' w9 hq9 hg9))
            have hP1 : Prev w1 w.heap.size (s.2 ++ [(x, h)]) := by
              unfold Prev
              rw [mapOf_snoc, List.length_append]
              exact hown1
            have hP9 : Prev w9 w.heap.size (s.2 ++ [(x, h)]) := (hP1.below (below_alloc w1 (.cells #[.int .i64 x] 3))).kept hg9 (Prev.ne (hP1.below (below_alloc w1 (.cells #[.int .i64 x] 3))) (hq1.below (below_alloc w1 (.cells #[.int .i64 x] 3))))
            have hB1 := HBI.out.grown hgrow1 hwsz (fun k hk => by injection hk with hk; omega)
            have hB9 : Below w.heap.size w w9 := (hB1.alloc hB1.size (.cells #[.int .i64 x] 3)).grown hg9 (by have := hB1.size; simp; omega) (fun k hk => ((hq1.below (below_alloc w1 (.cells #[.int .i64 x] 3))).lt k hk).1)
            exact ⟨⟨j + 1, by omega, by go_num, by rw [HV2.out]; exact ⟨hq9, hP9, hB9⟩, hB9⟩, by simp [intOf]; omega⟩
        · obtain rfl : j = L := by omega
          have hjn : ¬ (j : Int) < (j : Int) := by omega
          have hall : (lows m h).take j = lows m h := List.take_of_length_le (by rw [HL.out]; exact Nat.le_refl _)
          rw [hall] at hQ hP hu hul hfm
          have hrd := round_cons m h q pv
          generalize visAll h (h :: q, pv) (lows m h) = s at *
          obtain ⟨s1, s2⟩ := s
          simp only at hQ hP hu hul hfm hrd
          subst hu
          obtain ⟨bq2, off2, cap2, rfl, hle2, hcell⟩ := hQ.form
          have HQT := Lib.hid (QRow.tail (q := q ++ u) hQ)
          have HQ := Lib.hid hQ
          obtain ⟨N2, hN2'⟩ : ∃ N2, (q ++ u).length = N2 := ⟨_, rfl⟩
          have hlen2 : ((h :: q) ++ u).length = N2 + 1 := by rw [← hN2']; simp
          have HST : Hid (stAt m a (t + 1) = (q ++ u, s2)) := by
            show round m (stAt m a t) = _
            rw [HT.out, hrd]
            rfl
          have HP := Lib.hid hP
          rw [hlen2] at hle2 ⊢
          rw [hN2'] at HQT
          have HN2 := Lib.hid hN2'
          have HL2 := Lib.hid hlen2
          have hf1 : (q ++ u).length + 24 = (gk - 1) + s2.length := by simp at hf hul ⊢; omega
          have HF1 := Lib.hid hf1
          have hff : 1 ≤ gk := by simp at hf; omega
          clear hQ hP hcell hbel hN2' hlen2 hrd HS hf1
          by_cases hc1 : cap2 = 1
          · subst hc1
            obtain ⟨hnil, hql⟩ := QRow.last (q := q ++ u) HQ.out
            have hn0 : N2 = 0 := by rw [← HN2.out, hnil]; rfl
            subst hn0
            have HQL := Lib.hid hql
            clear hnil hql
            go_wp2_with fail
            go_roundg (gk - 1)
            case measure => omega
            case rel => exact ⟨t + 1, q ++ u, s2, HST, HF1.out, by omega, ⟨HQL.out, HP.out, HB2.out⟩⟩
          · go_wp2_with fail
            go_roundg (gk - 1)
            case measure => omega
            case rel => exact ⟨t + 1, q ++ u, s2, HST, HF1.out, by omega, ⟨HQT.out, HP.out, HB2.out⟩⟩
end Go.Proofs.Ytmjhgjlnpnkmkaa.From
