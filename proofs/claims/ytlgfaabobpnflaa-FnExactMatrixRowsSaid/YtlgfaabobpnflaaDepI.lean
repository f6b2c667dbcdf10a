/- The program's depthsOf: a map of the depths of contexts. -/
import Derived.Test.YtlgfaabobpnflaaCtxOrd
import Derived.Test.YtlgfaabobpnflaaNumMap
import Derived.Test.YtlgfaabobpnflaaFrom
namespace Go.Proofs.Ytlgfaabobpnflaa.DepI
open Go.RowKit Go.Maps Pairs Rec Chain Find2 GoodM Keep GivesI Lows Queue From MapStep Order Idx IsLater OrdM DepM NumMap
noncomputable def ok5 (l m : Ps) : Bool := good l m && !(l.any fun p => later m p.1 p.1)
def DepAns (l m : Ps) (w : World) (e : Ending) (w' : World) : Prop := ∃ (g n : Nat), e = .returned (.tuple #[.map (some g), .bool (ok5 l m)]) ∧ (ok5 l m = true → NumAt w' g n (depth l m)) ∧ w.heap.size ≤ g ∧ Below w.heap.size w w'
theorem order_in {l m : Ps} (hg : good l m = true) (hc : (l.any fun p => later m p.1 p.1) = false) {x : Int} (h : x ∈ orderL l m) : 1 ≤ x ∧ x ≤ 999 := by
  have hk := ((order_topo hg hc).sub x h).1
  obtain ⟨i, hi⟩ := Option.isSome_iff_exists.1 (isAt_keys.2 hk)
  exact rng_at hg hi
theorem lows_in {l m : Ps} (hg : good l m = true) {n x : Int} (h : x ∈ lows m n) : 1 ≤ x ∧ x ≤ 999 := by
  obtain ⟨_, ⟨j, hj⟩⟩ := Table.good_ends hg n x (mem_lows.1 h)
  exact rng_at hg hj
theorem map_block {w : World} {g n : Nat} {f : Int → Int} (h : NumAt w g n f) : ∃ es c, w.heap[g]? = some (.map es c) := by
  obtain ⟨D, ⟨es, clock, hb, _⟩, _⟩ := h
  exact ⟨es, clock, hb⟩
theorem cells_ne {w : World} {g : Nat} {es : Array MapEntry} {c : Nat} {p : Addr} {v : Value} (hg : w.heap[g]? = some (.map es c)) (h : w.cell? p = some v) : ¬ p.block = g := by
  intro e
  simp only [World.cell?, e, hg] at h
  cases h
theorem keptM_cell {w w' : World} {g : Nat} {es : Array MapEntry} {c : Nat} {p : Addr} {v : Value} (hk : Kept (fun b => b = g) w w') (hg : w.heap[g]? = some (.map es c)) (h : w.cell? p = some v) : w'.cell? p = some v := hk.cell h (cells_ne hg h)
theorem keptM_holds {w w' : World} {g : Nat} {es : Array MapEntry} {c : Nat} {p : Option Addr} {n : Nat} {L : List Int} (hk : Kept (fun b => b = g) w w') (hg : w.heap[g]? = some (.map es c)) (h : HoldsI w p n L) : HoldsI w' p n L := by
  refine ⟨h.1, h.2.imp_right ?_⟩
  rintro ⟨b, off, hp, hlt, hc⟩
  exact ⟨b, off, hp, Nat.lt_of_lt_of_le hlt hk.size, fun i x hi => keptM_cell hk hg (hc i x hi)⟩
theorem grown_kept {g : Nat} {w w' : World} (h : w.grownBy w' (some g)) : Kept (fun b => b = g) w w' := ⟨h.os, h.tape, h.output, h.size, fun k hk hne => h.block k hk (fun e => hne (by injection e))⟩
theorem lookK {w w' : World} {b k : Nat} {m : Ps} (h : LowsAt w b m k) (hw : w'.heap[b]? = w.heap[b]?) {x : Int} (hx : -1000000 ≤ x ∧ x ≤ 1000000) :
    ∃ v, (Instr.lookup 102 (.map (some b)) (.int .i64 x) false).run Try.prog w' = .ok v w' ∧ w.ownsInts (b + 1) 3 .i64 v (lows m x) := by
  obtain ⟨D, ho, hg⟩ := h
  obtain ⟨es, clock, hb, F, hs, hD, hbb, hlen, hap⟩ := ho
  have hb' : w'.heap[b]? = some (.map es clock) := hw.trans hb
  rcases Maps.fit_look false law Try.underlying102 (zeroL w') hb' F (keyI hx) with ⟨hrun, _, hat⟩ | ⟨e0, y, hm0, h3, hrun, hR, hat, _⟩
  · have hoi := World.ownsInts_nil w (b + 1) 3 .i64
    have := gd_at hg (by rw [hD]; exact hat _) hoi
    rw [← this]
    exact ⟨_, hrun, hoi⟩
  · obtain ⟨zs, hoi, rfl⟩ := rowElem_inv hR
    have := gd_at hg (by rw [hD]; exact hat _) hoi
    rw [← this]
    exact ⟨_, hrun, hoi⟩
theorem ok5_bad {l m : Ps} (h : good l m = false) : ok5 l m = false := by unfold ok5; rw [h]; rfl
theorem ok5_cyc {l m : Ps} (h : (l.any fun p => later m p.1 p.1) = true) : ok5 l m = false := by unfold ok5; rw [h]; simp
theorem ok5_yes {l m : Ps} (h : good l m = true) (h2 : (l.any fun p => later m p.1 p.1) = false) : ok5 l m = true := by unfold ok5; rw [h, h2]; rfl
set_option maxRecDepth 100000 in
set_option maxHeartbeats 8000000 in
theorem depthsOf_any (a1 a2 : Option Addr) (n1 n2 : Nat) (l m : Ps) (w : World) (hz1 : n1 ≤ 1048576) (hz2 : n2 ≤ 1048576) (h1 : Holds w a1 n1 l) (h2 : Holds w a2 n2 m) :
    Calls Try.prog 92 #[.agg #[.slice a1 n1 n1, .slice a2 n2 n2]] w (DepAns l m w) := by
  have hmm := @run_makeMap Try.prog
  have hb := below_alloc w (.cells #[.slice a1 n1 n1, .slice a2 n2 n2] 33)
  have hf := box_first w (.slice a1 n1 n1) (.slice a2 n2 n2) 33
  have hf2 := box_second w (.slice a1 n1 n1) (.slice a2 n2 n2) 33
  have hsz : w.heap.size < (w.alloc (.cells #[.slice a1 n1 n1, .slice a2 n2 n2] 33)).heap.size := by simp
  have hWe : (w.alloc (.cells #[.slice a1 n1 n1, .slice a2 n2 n2] 33)).heap.size = w.heap.size + 1 := by simp
  have HWE := Lib.hid hWe
  have H1 := Lib.hid (h1.below hb)
  have H2 := Lib.hid (h2.below hb)
  have HL1 := Lib.hid h1.1
  have HL2 := Lib.hid h2.1
  have HB := Lib.hid hb
  clear h1 h2 hWe hb
  go_enter Try.func92, Try.ntmps92
  go_wp2_with fail
  generalize w.alloc (.cells #[.slice a1 n1 n1, .slice a2 n2 n2] 33) = W at *
  have ha := below_alloc W (.map #[] 0)
  have HN0 := Lib.hid (num_new W)
  have f1 := (ha.cell (p := ⟨w.heap.size, 0, none⟩) hsz).trans hf
  have f2 := (ha.cell (p := ⟨w.heap.size, 1, none⟩) hsz).trans hf2
  have HBA := Lib.hid ha
  have K1 := Lib.hid (H1.out.below ha)
  have K2 := Lib.hid (H2.out.below ha)
  have hszM : W.heap.size < (W.alloc (.map #[] 0)).heap.size := by simp
  rw [HWE.out] at HN0
  clear hf hf2 ha hmm
  generalize W.alloc (.map #[] 0) = M at *
  refine (CtxOrd.impl_any a1 a2 n1 n2 l m M hz1 hz2 K1.out K2.out).mono ?_
  rintro e w1 ⟨p, k, d, rfl, hown, hk, b1⟩
  have q1 := (b1.cell (World.block_lt_of_cell? M _ f1)).trans f1
  have q2 := (b1.cell (World.block_lt_of_cell? M _ f2)).trans f2
  have HBM := Lib.hid (HB.out.trans (HBA.out.mono HB.out.size))
  have HB1 := Lib.hid (HBM.out.trans (b1.mono HBM.out.size))
  have hbs := HB.out.size
  cases hg : good l m with
  | false =>
    have HE := Lib.hid (ok5_bad hg)
    rw [ord_bad hg]
    clear hg hown
    go_wp2_with fail
    go_ret2
    exact ⟨_, 0, by rw [HE.out]; rfl, fun h => (by rw [HE.out] at h; cases h), by omega, HB1.out⟩
  | true =>
    cases hc : (l.any fun p => later m p.1 p.1) with
    | true =>
      have HE := Lib.hid (ok5_cyc (m := m) hc)
      rw [ord_cyc hg hc]
      clear hg hc hown
      go_wp2_with fail
      go_ret2
      exact ⟨_, 0, by rw [HE.out]; rfl, fun h => (by rw [HE.out] at h; cases h), by omega, HB1.out⟩
    | false =>
      have HE := Lib.hid (ok5_yes hg hc)
      have HG := Lib.hid hg
      have HC := Lib.hid hc
      have hn1 : n1 ≤ 10 := by rw [← HL1.out]; exact (Table.good_few hg).1
      have hn2 : n2 ≤ 24 := by rw [← HL2.out]; exact (Table.good_few hg).2
      rw [ord_yes hg hc] at hown ⊢
      have hol : (orderL l m).length ≤ n1 := by rw [← HL1.out]; exact ordD_len _ _
      have HOI := Lib.hid (show HoldsI w1 p k (orderL l m) from GivesI.holds_own hown)
      have hOk : (orderL l m).length = k := HOI.out.1
      have HN1 := Lib.hid (HN0.out.below b1)
      have K21 := Lib.hid (K2.out.below b1)
      clear hg hc hown b1
      go_wp2_with fail
      refine (lowersOf_any a1 a2 n1 n1 n2 n2 l m w1 HG.out K21.out).mono ?_
      rintro e w2 ⟨bl, rfl, hlow, hbl, b2⟩
      have HN2 := Lib.hid (HN1.out.below b2)
      have HOI2 := Lib.hid (HOI.out.below b2)
      have HLW := Lib.hid hlow
      have HB2 := Lib.hid (HB1.out.trans (b2.mono HB1.out.size))
      have hgl : w.heap.size + 1 < w1.heap.size := HN1.out.lt
      clear hlow b2 q1 q2 f1 f2
      go_wp2_with fail
      have HK0 : Hid (Kept (fun b => b = w.heap.size + 1) w2 w2) := Kept.refl _ _
      obtain ⟨es, cc, hmb⟩ := map_block HN2.out
      have HMB := Lib.hid hmb
      have HNF0 : Hid (NumAt w2 (w.heap.size + 1) 0 (depF m ((orderL l m).take 0))) := HN2.out
      clear hmb
      go_loopw [25] (fun s25 wr => ∃ j : Nat, j ≤ k ∧ s25 = .int .i64 j ∧ ∃ N, N ≤ j * 24 ∧ Hid (NumAt wr (w.heap.size + 1) N (depF m ((orderL l m).take j))) ∧ Hid (Kept (fun b => b = w.heap.size + 1) w2 wr)) (fun s25 _ => k - (intOf s25).toNat)
      case atStart => exact ⟨0, Nat.zero_le _, rfl, 0, Nat.zero_le _, HNF0, HK0⟩
      case round =>
        clear HNF0 HK0
        obtain ⟨j, hj, rfl, N, hN, HNF, HK⟩ := hrel
        by_cases hlt : j < k
        · have hjk : (j : Int) < (k : Int) := by omega
          obtain ⟨b, off, x, rfl, hx, e1⟩ := (keptM_holds HK.out HMB.out HOI2.out).at j hlt
          have hxo := List.mem_of_getElem? hx
          have hxr := order_in HG.out HC.out hxo
          have HX := Lib.hid (depF_next (m := m) hx)
          obtain ⟨v, hrun, hoi⟩ := lookK HLW.out (w' := wr) (HK.out.block bl (by obtain ⟨D, ho, _⟩ := HLW.out; obtain ⟨_, _, hb, _⟩ := ho; exact (Array.getElem?_eq_some_iff.1 hb).1) (by show ¬ bl = w.heap.size + 1; omega)) (x := x) (by omega)
          obtain ⟨p2, d2, rfl⟩ := From.own_form hoi.1
          have hzl := lows_len m x
          have HZ := Lib.hid (GivesI.holds_own (L := lows m x) hoi.1)
          obtain ⟨L, hL⟩ : ∃ L, (lows m x).length = L := ⟨_, rfl⟩
          rw [hL] at hrun HZ hzl
          have HL := Lib.hid hL
          have HNG0 : Hid (NumAt wr (w.heap.size + 1) (N + 0) (relAll x (depF m ((orderL l m).take j)) ((lows m x).take 0))) := HNF.out
          have HLI := Lib.hid (fun y hy => lows_in HG.out (n := x) (x := y) hy)
          rw [HL2.out] at hzl
          clear hx hxo hoi hL HNF
          go_wp2_with fail
          clear hrun
          go_loopw [33] (fun s33 wq => ∃ i : Nat, i ≤ L ∧ s33 = .int .i64 i ∧ Hid (NumAt wq (w.heap.size + 1) (N + i) (relAll x (depF m ((orderL l m).take j)) ((lows m x).take i))) ∧ Hid (Kept (fun b => b = w.heap.size + 1) w2 wq)) (fun s33 _ => L - (intOf s33).toNat)
          case atStart => exact ⟨0, Nat.zero_le _, rfl, HNG0, HK⟩
          case round =>
            clear HNG0 HK
            obtain ⟨i, hi, rfl, HNG, HK⟩ := hrel
            by_cases hlti : i < L
            · have hiL : (i : Int) < (L : Int) := by omega
              obtain ⟨bz, oz, y, rfl, hy, e1⟩ := (keptM_holds HK.out HMB.out HZ.out).at i hlti
              have hyr := HLI.out y (List.mem_of_getElem? hy)
              have HY := Lib.hid (relAll_next (n := x) (f := depF m ((orderL l m).take j)) hy)
              have hbd := Bd.relAll (n := x) ((lows m x).take i) (depF_bd (m := m) ((orderL l m).take j))
              have hbx := hbd x
              have hby := hbd y
              have hl1 : ((orderL l m).take j).length ≤ 10 := by rw [List.length_take]; omega
              have hl2 : ((lows m x).take i).length ≤ 24 := by rw [List.length_take]; omega
              have hl3 : ((orderL l m).take j).length * m.length ≤ 240 := Nat.le_trans (Nat.mul_le_mul hl1 (by rw [HL2.out]; exact hn2)) (by omega)
              have hl3' : (((orderL l m).take j).length : Int) * (m.length : Int) ≤ 240 := by exact_mod_cast hl3
              clear hy hbd
              generalize ((orderL l m).take j).length * (m.length : Int) = q at *
              generalize relAll x (depF m ((orderL l m).take j)) ((lows m x).take i) = f at *
              have k1 := num_look HNG.out (x := y) (by omega)
              have k2 := num_look HNG.out (x := x) (by omega)
              have hw64 : wrap64 (f x + 1) = f x + 1 := by unfold wrap64; omega
              obtain ⟨w9, hrun9, hnum9, hgr9⟩ := num_update HNG.out (by omega) (x := y) (by omega) (max (f y) (f x + 1))
              have HNUM := Lib.hid hnum9
              have HK9 := Lib.hid (HK.out.trans (grown_kept hgr9))
              have HRUN := Lib.hid hrun9
              clear hnum9 hgr9 hrun9
              go_wp2_with fail
              rw [HRUN.out]
              go_wp2_with fail
              exact ⟨⟨i + 1, by omega, by go_num, by unfold Hid; rw [HY.out]; exact HNUM.out, HK9⟩, by simp [intOf]; omega⟩
            · obtain rfl : i = L := by omega
              have hiL : ¬ (i : Int) < (i : Int) := by omega
              have HNN : Hid (NumAt wr (w.heap.size + 1) (N + i) (depF m ((orderL l m).take (j + 1)))) := by
                have h := HNG.out
                rw [show (lows m x).take i = lows m x from List.take_of_length_le (by rw [HL.out]; exact Nat.le_refl _)] at h
                unfold Hid
                rw [HX.out]
                exact h
              clear HNG
              go_wp2_with fail
              exact ⟨⟨j + 1, by omega, by go_num, N + i, by omega, HNN, HK⟩, by simp [intOf]; omega⟩
        · obtain rfl : j = k := by omega
          have hjk : ¬ (j : Int) < (j : Int) := by omega
          have HNN : Hid (NumAt wr (w.heap.size + 1) N (depth l m)) := by
            have h := HNF.out
            rw [List.take_of_length_le (by rw [hOk]; exact Nat.le_refl _)] at h
            exact h
          have HBD : Hid (Below w.heap.size w wr) := HB2.out.trans (HK.out.below (fun b hb => by subst hb; omega) HB2.out.size)
          clear HNF HK
          go_wp2_with fail
          go_ret2
          exact ⟨_, N, by rw [HE.out]; rfl, fun _ => HNN.out, by omega, HBD.out⟩
end Go.Proofs.Ytlgfaabobpnflaa.DepI
