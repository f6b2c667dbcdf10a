/- The model's l4Chain. -/
import Derived.Test.YtlgfaabobpnflaaStpS
import Derived.Test.YtlgfaabobpnflaaStpC
import Derived.Deep.RegionWith
import Derived.Deep.AppendLies
import Derived.BigQuiet
namespace Go.Proofs.Ytlgfaabobpnflaa.StpD
open Go.RowKit Pairs Rec RecEq Chain Find2 GoodM Keep GivesI Lows Order Bit Table Idx That IsLater Consist OrdM RedS BfsM ScM StpM StpS StpC
theorem g1_bel {B : Nat} {w wr wq : World} {v : Value} {L : List Int} (h : That.G1 B w wr v L) (hB : B ≤ wr.heap.size) (hb : Below wr.heap.size wr wq) : That.G1 B w wq v L := ⟨ownsRow_below h.1 hb, h.2.trans (hb.mono hB)⟩
theorem g1_append {B : Nat} {w wr X w9 : World} {v : Value} {L : List Int} {x : Int} {g9 cap9 : Nat} (h : That.G1 B w wr v L) (hs : B ≤ wr.heap.size) (hX : Below wr.heap.size wr X)
    (hown' : w9.ownsRow B 3 1 (.slice (some ⟨g9, 0, none⟩) (L.length + 1) cap9) (L.length + 1) (ints L ++ [.int .i64 x])) (hgrow : X.grownBy w9 v.ownBlock) : That.G1 B w w9 (.slice (some ⟨g9, 0, none⟩) (L.length + 1) cap9) (L ++ [x]) := by
  have hsx := hX.size
  refine ⟨?_, (h.2.trans (hX.mono hs)).grown hgrow (by omega) (fun j hj => (h.1.lt j hj).1)⟩
  rw [List.length_append, That.ints_append]
  exact hown'
set_option maxRecDepth 100000 in
set_option maxHeartbeats 8000000 in
theorem l4Chain_any (a tb : Int) (ka kb : Nat) (a1 a2 : Option Addr) (n1 c1 n2 c2 : Nat) (l m : List (Int × Int)) (w : World) (hgood : good l m = true) (hka : isAt l a = some ka) (hkb : isAt l tb = some kb) (h1 : Holds w a1 n1 l) (h2 : Holds w a2 n2 m) :
    Calls Try.prog 102 #[.agg #[.slice a1 n1 c1, .slice a2 n2 c2], .int .i64 (ka : Int), .int .i64 (kb : Int)] w (ResL (chainP m a tb) w) := by
  obtain ⟨i0, hi, hy0, hy1, hy2⟩ := info_parts That.infoInt
  have hn1 : n1 ≤ 10 := by rw [← h1.1]; exact (Table.good_few hgood).1
  have hn2 : n2 ≤ 24 := by rw [← h2.1]; exact (Table.good_few hgood).2
  have hb := below_alloc w (.cells #[.slice a1 n1 c1, .slice a2 n2 c2] 33)
  have hf := box_first w (.slice a1 n1 c1) (.slice a2 n2 c2) 33
  have hf2 := box_second w (.slice a1 n1 c1) (.slice a2 n2 c2) 33
  have H1 := Lib.hid (h1.below hb)
  have H2 := Lib.hid (h2.below hb)
  have HL1 := Lib.hid h1.1
  have HL2 := Lib.hid h2.1
  have HG := Lib.hid hgood
  have HKA := Lib.hid hka
  have HKB := Lib.hid hkb
  have HB := Lib.hid hb
  have HEN := Lib.hid (Table.good_ends hgood)
  have HLS := Lib.hid (AscM.lows_sorted hgood)
  have hkal : ka < n1 := by rw [← h1.1]; exact isAt_lt hka
  clear h1 h2 hb hgood hka hkb
  go_enter Try.func102, Try.ntmps102
  go_wp2_with fail
  generalize w.alloc (.cells #[.slice a1 n1 c1, .slice a2 n2 c2] 33) = W at *
  refine (l4Steps_any tb kb a1 a2 n1 c1 n2 c2 l m W HG.out HKB.out H1.out H2.out).mono ?_
  rintro e w1 ⟨g, L, st, rfl, hge, hH, hT, hS, b1⟩
  have q1 := (b1.cell (World.block_lt_of_cell? W _ hf)).trans hf
  have q2 := (b1.cell (World.block_lt_of_cell? W _ hf2)).trans hf2
  have HB1 := Lib.hid (HB.out.trans (b1.mono HB.out.size))
  have K1 := Lib.hid (H1.out.below b1)
  have K2 := Lib.hid (H2.out.below b1)
  have HH := Lib.hid hH
  have HT := Lib.hid hT
  have HS := Lib.hid hS
  have HTC : Hid (∀ X, Below w1.heap.size w1 X → ∀ (i : Nat) (x y : Int), l[i]? = some (x, y) → X.cell? ⟨g, i, none⟩ = some (.int .i64 (st x : Int))) := fun X hX i x y hx => by
    have hil : i < n1 := by rw [← HL1.out]; exact (List.getElem?_eq_some_iff.1 hx).1
    obtain ⟨bb, oo, zz, hp, hzz, e3⟩ := (hH.below hX).at i hil
    obtain ⟨v', hv', rfl⟩ := row_at hzz
    rw [hT i x y hx] at hv'
    injection hv' with hv'
    subst hv'
    injection hp with hp
    injection hp with hp1 hp2
    subst hp1 hp2
    rw [Nat.zero_add] at e3
    exact e3
  have HM3 : Hid (∀ wr, Below w1.heap.size w1 wr → (Holds wr a1 n1 l ∧ Holds wr a2 n2 m) ∧ wr.cell? ⟨w.heap.size, 0, none⟩ = some (.slice a1 n1 c1) ∧ wr.cell? ⟨w.heap.size, 1, none⟩ = some (.slice a2 n2 c2)) := fun wr hwr =>
    ⟨⟨K1.out.below hwr, K2.out.below hwr⟩, (hwr.cell (World.block_lt_of_cell? w1 _ q1)).trans q1, (hwr.cell (World.block_lt_of_cell? w1 _ q2)).trans q2⟩
  have HSLE : Hid (∀ x, st x ≤ 10) := fun x => by
    rcases Nat.eq_zero_or_pos (st x) with h0 | h0
    · omega
    · have h1 := min_le HG.out (HS.out.some x h0)
      rw [HL1.out] at h1
      omega
  obtain ⟨ta, hta⟩ := isAt_num HKA.out
  have s1 := HTC.out w1 (Below.refl _ _) ka a ta hta
  have hii : (ka : Int) < (n1 : Int) := by omega
  have hi0 : (0 : Int) ≤ (ka : Int) := by omega
  have HTA := Lib.hid hta
  clear hf hf2 b1 hH hT hS hge hta
  by_cases h0 : st a = 0
  · have HE := Lib.hid (gr_no HS.out h0)
    have hz : (st a : Int) = 0 := by omega
    have hzb : ((st a : Int) == 0) = true := by simp [h0]
    clear h0
    go_wp2_with fail
    go_ret
    rw [HE.out]
    exact ⟨_, 0, 0, rfl, ownsRow_base (That.empty_own w1) HB1.out.size, by omega, HB1.out.trans ((below_alloc _ _).mono HB1.out.size)⟩
  · have HE := Lib.hid (gr_is HLS.out HS.out (show 0 < st a by omega))
    have hz : ¬ (st a : Int) = 0 := by omega
    have hzb : ((st a : Int) == 0) = false := by simp; omega
    have hmin := HS.out.some a (by omega)
    obtain ⟨b, off, x0, y0, rfl, hx0, e1, e2⟩ := K1.out.at ka hkal
    have hxa : x0 = a := by
      rw [HTA.out] at hx0
      injection hx0 with hx0
      injection hx0 with hx0 _
      exact hx0.symm
    subst hxa
    have hG0 : That.G1 w1.heap.size w1 (w1.alloc (.cells #[.int .i64 x0] 3)) (.slice (some ⟨w1.heap.size, 0, none⟩) 1 1) [x0] :=
      ⟨⟨rfl, .inr ⟨w1.heap.size, 1, #[.int .i64 x0], rfl, Nat.le_refl _, heap_alloc_new w1 _, Nat.le_refl _, by unfold maxLen; omega, by simp, by simp [ints]⟩⟩, below_alloc w1 _⟩
    have HG0 := Lib.hid hG0
    have hsk := HSLE.out x0
    have HI0 : Hid ([x0] ++ (gr m tb st (st x0) x0).tail = gr m tb st (st x0) x0 ∧ (st x0 = 0 ∨ IsMin m tb (st x0) x0)) := ⟨(gr_cons m tb st (st x0) x0).symm, .inr hmin⟩
    have s1' := (hG0.2.cell (World.block_lt_of_cell? w1 _ s1)).trans s1
    clear h0 hmin hx0 hG0
    go_wp2_with fail
    clear s1 s1' e1 e2 q1 q2
    generalize w1.alloc (.cells #[.int .i64 x0] 3) = V at *
    go_loopw [8, 9, 10] (fun s8 s9 s10 wr => ∃ (k ia : Nat) (x : Int) (Lo : List Int), k ≤ st x0 ∧ s10 = .int .i64 k ∧ s9 = .int .i64 (ia : Int) ∧ Hid (isAt l x = some ia ∧ Lo.length + k = st x0 + 1 ∧ Lo ++ (gr m tb st k x).tail = gr m tb st (st x0) x0 ∧ (k = 0 ∨ IsMin m tb k x)) ∧ Hid (That.G1 w1.heap.size w1 wr s8 Lo)) (fun _ _ s10 _ => (intOf s10).toNat)
    case atStart => exact ⟨st x0, ka, x0, [x0], Nat.le_refl _, rfl, rfl, ⟨HKA.out, by simp; omega, HI0.out.1, HI0.out.2⟩, HG0⟩
    case round =>
      clear HI0 HG0
      obtain ⟨k, ia, x, Lo, hk, rfl, rfl, HI, HGo⟩ := hrel
      by_cases hk0 : k = 0
      · subst hk0
        have hkn : ¬ (0 : Int) < ((0 : Nat) : Int) := by omega
        have hLo : Lo = gr m tb st (st x0) x0 := by have h := HI.out.2.2.1; rw [show (gr m tb st 0 x).tail = [] from rfl, List.append_nil] at h; exact h
        have hll : Lo.length ≤ 11 := by have := HI.out.2.1; omega
        obtain ⟨p, d, hv⟩ := From.own_form HGo.out.1
        subst hv
        have HBD := Lib.hid (HB1.out.trans (HGo.out.2.mono HB1.out.size))
        have HO := Lib.hid HGo.out.1
        have HEQ : Hid (chainP m x0 tb = Lo) := by unfold Hid; rw [HE.out, hLo]
        clear hLo HGo
        go_wp2_with fail
        go_ret
        rw [HEQ.out]
        exact ⟨p, Lo.length, d, rfl, ownsRow_base HO.out HB1.out.size, by omega, HBD.out⟩
      · obtain ⟨j, rfl⟩ : ∃ j, k = j + 1 := ⟨k - 1, by omega⟩
        have hkp : (0 : Int) < ((j + 1 : Nat) : Int) := by omega
        have hmin : IsMin m tb (j + 1) x := HI.out.2.2.2.resolve_left (by omega)
        obtain ⟨y2, i2, hbe, hy2i, hgt, hnx⟩ := best_end HG.out HS.out ⟨kb, HKB.out⟩ hmin
        have HBE := Lib.hid hbe
        have HY2 := Lib.hid hy2i
        have HGT := Lib.hid hgt
        have HNX := Lib.hid hnx
        have HIA := Lib.hid HI.out.1
        have hial : ia < n1 := by rw [← HL1.out]; exact isAt_lt HI.out.1
        have hial' : (ia : Int) < (n1 : Int) := by omega
        have hia0 : (0 : Int) ≤ (ia : Int) := by omega
        obtain ⟨K, hK⟩ : ∃ K : Nat, K = j + 1 := ⟨_, rfl⟩
        have HK := Lib.hid hK
        have hKI : ((j + 1 : Nat) : Int) = (K : Int) := by omega
        have hK1 : 1 ≤ K := by omega
        have hK11 : K ≤ 10 := by omega
        have htw : wrap64 ((K : Int) - 1) = (K : Int) - 1 := by unfold wrap64; omega
        have hKp : (0 : Int) < (K : Int) := by omega
        have hKn : 0 < K := by omega
        have HG1 : Hid (That.G1 w1.heap.size w1 wr u8 Lo) := HGo.out
        rw [hKI]
        clear hmin hbe hy2i hgt hnx HGo hkp hKI hK hk0
        go_wp2_with fail
        go_loopw [11, 12] (fun s11 s12 wq => ∃ i : Nat, i ≤ n2 ∧ s12 = .int .i64 i ∧ s11 = .int .i64 (best l (m.take i) tb st K x) ∧ Hid (That.G1 w1.heap.size w1 wq u8 Lo)) (fun _ s12 _ => n2 - (intOf s12).toNat)
        case atStart => exact ⟨0, Nat.zero_le _, rfl, rfl, HG1⟩
        case round =>
          clear HG1
          obtain ⟨i, hi', rfl, rfl, HG1⟩ := hrel
          obtain ⟨⟨z1, z2⟩, q1, q2⟩ := HM3.out wr HG1.out.2
          by_cases hlti : i < n2
          · have hin : (i : Int) < (n2 : Int) := by omega
            have hi00 : (0 : Int) ≤ (i : Int) := by omega
            obtain ⟨bq, oq, u, v, rfl, hx, e1, e2⟩ := z2.at i hlti
            obtain ⟨bc, oc, xx, yy, hpc, hxc, e3, _⟩ := z1.at ia hial
            injection hpc with hpc
            injection hpc with hp1 hp2
            subst hp1 hp2
            obtain ⟨iv, hiv⟩ := (HEN.out u v (List.mem_of_getElem? hx)).2
            obtain ⟨tv, htv⟩ := isAt_num hiv
            have hivl : iv < n1 := by rw [← HL1.out]; exact isAt_lt hiv
            have f1 := HTC.out wr HG1.out.2 iv v tv htv
            have hxx : xx = x := by
              obtain ⟨tx, htx⟩ := isAt_num HIA.out
              rw [htx] at hxc
              injection hxc with hxc
              injection hxc with hxc _
              exact hxc.symm
            subst hxx
            have HX := Lib.hid hx
            have HIV := Lib.hid hiv
            have Z1 := Lib.hid z1
            have k1 := cell_regrown q1
            have k2 := cell_regrown q2
            have k3 := cell_regrown e1
            have k4 := cell_regrown e2
            have cV : ∀ d os, Calls Try.prog 90 #[.agg #[.slice (some ⟨b, off, none⟩) n1 c1, .slice (some ⟨bq, oq, none⟩) n2 c2], .int .i64 v] (Sort.grow (redrawn wr d) os) fun e w'' => e = .returned (.int .i64 (iv : Int)) ∧ ∃ p : Regrown, w'' = Sort.grow (redrawn wr p.d) p.os := fun d os => Calls.regrown_of (by rw [← find_some HIV.out]; exact l2Find_any _ _ n1 c1 n2 c2 l v _ (by omega) (Z1.out.below (below_regrown wr d os)))
            clear hx hiv htv hxc z1 z2
            go_wp2_with fail
            refine wp_region_quiet_below (by kernel_rfl) (by kernel_rfl) ?_
            repeat (go_big_quiet_step (first | (go_at_call 90; exact cV _ _)))
            refine wpQuiet_nil ?_
            intro _ hw'
            obtain ⟨⟨dq, osq⟩, hw''⟩ := hw'
            subst hw''
            have hbq := below_regrown wr dq osq
            have HG5 : Hid (That.G1 w1.heap.size w1 (Sort.grow (redrawn wr dq) osq) u8 Lo) := ⟨ownsRow_below HG1.out.1 hbq, HG1.out.2.trans (hbq.mono HG1.out.2.size)⟩
            have q1 := (hbq.cell (World.block_lt_of_cell? wr _ q1)).trans q1
            have q2 := (hbq.cell (World.block_lt_of_cell? wr _ q2)).trans q2
            have e1 := (hbq.cell (World.block_lt_of_cell? wr _ e1)).trans e1
            have e3 := (hbq.cell (World.block_lt_of_cell? wr _ e3)).trans e3
            have f1 := (hbq.cell (World.block_lt_of_cell? wr _ f1)).trans f1
            clear k1 k2 k3 k4 cV hbq HG1
            generalize Sort.grow (redrawn wr dq) osq = W5 at *
            have hivkb : iv = kb ↔ v = tb := ⟨fun e => by subst e; exact isAt_inj HIV.out HKB.out, fun e => by subst e; have h := HIV.out; rw [HKB.out] at h; injection h with h; exact h.symm⟩
            have hsv := HSLE.out v
            have hivb : (iv : Int) < (n1 : Int) := by omega
            have hiv0 : (0 : Int) ≤ (iv : Int) := by omega
            by_cases hux : u = xx
            · have ab : (u == xx) = true := by simp [hux]
              subst hux
              by_cases hKe : K = 1
              · subst hKe
                have hKe : (1 : Nat) = 1 := rfl
                have a4 : ¬ (1 : Int) < (1 : Int) := by omega
                by_cases hv : iv = kb
                · have hvt := hivkb.1 hv
                  subst hv
                  have hq : nq tb st 1 v = true := by unfold nq; rw [if_pos rfl]; simp [hvt]
                  clear hvt
                  cases hF : (lows (m.take i) u).find? (nq tb st 1) with
                  | none =>
                    have hB : best l (m.take i) tb st 1 u = -1 := by unfold best; rw [hF]
                    have hN := best_new (l := l) HX.out rfl hq hF
                    rw [find_some HIV.out] at hN
                    have HN := Lib.hid hN
                    rw [hB]
                    clear hq hF hB hN hivkb hKe
                    go_wp2_with fail
                    have k1 := cell_regrown q1
                    have k2 := cell_regrown q2
                    have k3 := cell_regrown e1
                    have k4 := cell_regrown e3
                    have k5 := cell_regrown f1
                    refine wp_region_quiet_below (by kernel_rfl) (by kernel_rfl) ?_
                    repeat (go_big_quiet_step (fail))
                    refine wpQuiet_nil ?_
                    intro _ hw'
                    obtain ⟨⟨dq2, osq2⟩, hw''⟩ := hw'
                    subst hw''
                    have HG6 := Lib.hid (g1_bel HG5.out HG5.out.2.size (below_regrown W5 dq2 osq2))
                    clear k1 k2 k3 k4 k5 q1 q2 e1 e3 f1 HG5
                    generalize Sort.grow (redrawn W5 dq2) osq2 = W6 at *
                    go_wp2_with fail
                    refine ⟨?_, by simp [intOf] <;> omega⟩
                    first | exact ⟨i + 1, by omega, by go_num, by rw [HN.out], HG6⟩ | (repeat apply Exists.intro); exact ⟨⟨i + 1, by omega, by go_num, by rw [HN.out], HG6⟩, rfl⟩
                  | some y0 =>
                    obtain ⟨hlt0, hm0⟩ := old_less HLS.out HX.out hF
                    obtain ⟨iy0, hiy0⟩ := (HEN.out u y0 hm0).2
                    have hil0 := at_less HG.out hiy0 HIV.out hlt0
                    have hB : best l (m.take i) tb st 1 u = (iy0 : Int) := by unfold best; rw [hF]; exact find_some hiy0
                    have hO := best_old (l := l) HX.out hF
                    rw [hB] at hO ⊢
                    have HO := Lib.hid hO
                    have d1 : ¬ (iy0 : Int) < 0 := by omega
                    have d3 : (0 : Int) ≤ (iy0 : Int) := by omega
                    have d2 : ¬ (iv : Int) < (iy0 : Int) := by omega
                    have d4 : decide ((iy0 : Int) < 0) = false := by simp
                    have d5 : decide ((iv : Int) < (iy0 : Int)) = false := by simp; omega
                    clear hq hF hB hO hm0 hiy0 hivkb hKe
                    go_wp2_with fail
                    have k1 := cell_regrown q1
                    have k2 := cell_regrown q2
                    have k3 := cell_regrown e1
                    have k4 := cell_regrown e3
                    have k5 := cell_regrown f1
                    refine wp_region_quiet_below (by kernel_rfl) (by kernel_rfl) ?_
                    repeat (go_big_quiet_step (fail))
                    refine wpQuiet_nil ?_
                    intro _ hw'
                    obtain ⟨⟨dq2, osq2⟩, hw''⟩ := hw'
                    subst hw''
                    have HG6 := Lib.hid (g1_bel HG5.out HG5.out.2.size (below_regrown W5 dq2 osq2))
                    clear k1 k2 k3 k4 k5 q1 q2 e1 e3 f1 HG5
                    generalize Sort.grow (redrawn W5 dq2) osq2 = W6 at *
                    go_wp2_with fail
                    refine ⟨?_, by simp [intOf] <;> omega⟩
                    first | exact ⟨i + 1, by omega, by go_num, by rw [HO.out], HG6⟩ | (repeat apply Exists.intro); exact ⟨⟨i + 1, by omega, by go_num, by rw [HO.out], HG6⟩, rfl⟩
                · have a5 : ((iv : Int) == (kb : Int)) = false := by simp; omega
                  have a6 : ¬ (iv : Int) = (kb : Int) := by omega
                  have hbs := best_same (l := l) (b := tb) (st := st) (k := 1) (x := u) HX.out (fun h => by have := h.2; unfold nq at this; rw [if_pos rfl, beq_iff_eq] at this; exact hv (hivkb.2 this))
                  have HBS := Lib.hid hbs
                  clear hbs hivkb hKe hv
                  go_wp2_with fail
                  have k1 := cell_regrown q1
                  have k2 := cell_regrown q2
                  have k3 := cell_regrown e1
                  have k4 := cell_regrown e3
                  have k5 := cell_regrown f1
                  refine wp_region_quiet_below (by kernel_rfl) (by kernel_rfl) ?_
                  repeat (go_big_quiet_step (fail))
                  refine wpQuiet_nil ?_
                  intro _ hw'
                  obtain ⟨⟨dq2, osq2⟩, hw''⟩ := hw'
                  subst hw''
                  have HG6 := Lib.hid (g1_bel HG5.out HG5.out.2.size (below_regrown W5 dq2 osq2))
                  clear k1 k2 k3 k4 k5 q1 q2 e1 e3 f1 HG5
                  generalize Sort.grow (redrawn W5 dq2) osq2 = W6 at *
                  go_wp2_with fail
                  refine ⟨?_, by simp [intOf] <;> omega⟩
                  first | exact ⟨i + 1, by omega, by go_num, by rw [HBS.out], HG6⟩ | (repeat apply Exists.intro); exact ⟨⟨i + 1, by omega, by go_num, by rw [HBS.out], HG6⟩, rfl⟩
              · have a2 : ((K : Int) == 1) = false := by simp; omega
                have a3 : ¬ (K : Int) = 1 := by omega
                have a4 : (1 : Int) < (K : Int) := by omega
                by_cases hv : st v = K - 1
                · have a5 : ((st v : Int) == (K : Int) - 1) = true := by simp; omega
                  have a6 : (st v : Int) = (K : Int) - 1 := by omega
                  have hq : nq tb st K v = true := by unfold nq; rw [if_neg hKe]; simp [hv]
                  cases hF : (lows (m.take i) u).find? (nq tb st K) with
                  | none =>
                    have hB : best l (m.take i) tb st K u = -1 := by unfold best; rw [hF]
                    have hN := best_new (l := l) HX.out rfl hq hF
                    rw [find_some HIV.out] at hN
                    have HN := Lib.hid hN
                    rw [hB]
                    clear hq hF hB hN hivkb hv
                    go_wp2_with fail
                    have k1 := cell_regrown q1
                    have k2 := cell_regrown q2
                    have k3 := cell_regrown e1
                    have k4 := cell_regrown e3
                    have k5 := cell_regrown f1
                    refine wp_region_quiet_below (by kernel_rfl) (by kernel_rfl) ?_
                    repeat (go_big_quiet_step (fail))
                    refine wpQuiet_nil ?_
                    intro _ hw'
                    obtain ⟨⟨dq2, osq2⟩, hw''⟩ := hw'
                    subst hw''
                    have HG6 := Lib.hid (g1_bel HG5.out HG5.out.2.size (below_regrown W5 dq2 osq2))
                    clear k1 k2 k3 k4 k5 q1 q2 e1 e3 f1 HG5
                    generalize Sort.grow (redrawn W5 dq2) osq2 = W6 at *
                    go_wp2_with fail
                    refine ⟨?_, by simp [intOf] <;> omega⟩
                    first | exact ⟨i + 1, by omega, by go_num, by rw [HN.out], HG6⟩ | (repeat apply Exists.intro); exact ⟨⟨i + 1, by omega, by go_num, by rw [HN.out], HG6⟩, rfl⟩
                  | some y0 =>
                    obtain ⟨hlt0, hm0⟩ := old_less HLS.out HX.out hF
                    obtain ⟨iy0, hiy0⟩ := (HEN.out u y0 hm0).2
                    have hil0 := at_less HG.out hiy0 HIV.out hlt0
                    have hB : best l (m.take i) tb st K u = (iy0 : Int) := by unfold best; rw [hF]; exact find_some hiy0
                    have hO := best_old (l := l) HX.out hF
                    rw [hB] at hO ⊢
                    have HO := Lib.hid hO
                    have d1 : ¬ (iy0 : Int) < 0 := by omega
                    have d3 : (0 : Int) ≤ (iy0 : Int) := by omega
                    have d2 : ¬ (iv : Int) < (iy0 : Int) := by omega
                    have d4 : decide ((iy0 : Int) < 0) = false := by simp
                    have d5 : decide ((iv : Int) < (iy0 : Int)) = false := by simp; omega
                    clear hq hF hB hO hm0 hiy0 hivkb hv
                    go_wp2_with fail
                    have k1 := cell_regrown q1
                    have k2 := cell_regrown q2
                    have k3 := cell_regrown e1
                    have k4 := cell_regrown e3
                    have k5 := cell_regrown f1
                    refine wp_region_quiet_below (by kernel_rfl) (by kernel_rfl) ?_
                    repeat (go_big_quiet_step (fail))
                    refine wpQuiet_nil ?_
                    intro _ hw'
                    obtain ⟨⟨dq2, osq2⟩, hw''⟩ := hw'
                    subst hw''
                    have HG6 := Lib.hid (g1_bel HG5.out HG5.out.2.size (below_regrown W5 dq2 osq2))
                    clear k1 k2 k3 k4 k5 q1 q2 e1 e3 f1 HG5
                    generalize Sort.grow (redrawn W5 dq2) osq2 = W6 at *
                    go_wp2_with fail
                    refine ⟨?_, by simp [intOf] <;> omega⟩
                    first | exact ⟨i + 1, by omega, by go_num, by rw [HO.out], HG6⟩ | (repeat apply Exists.intro); exact ⟨⟨i + 1, by omega, by go_num, by rw [HO.out], HG6⟩, rfl⟩
                · have a5 : ((st v : Int) == (K : Int) - 1) = false := by simp; omega
                  have a6 : ¬ (st v : Int) = (K : Int) - 1 := by omega
                  have hbs := best_same (l := l) (b := tb) (st := st) (k := K) (x := u) HX.out (fun h => by have := h.2; unfold nq at this; rw [if_neg hKe, beq_iff_eq] at this; exact hv this)
                  have HBS := Lib.hid hbs
                  clear hbs hivkb hv
                  go_wp2_with fail
                  have k1 := cell_regrown q1
                  have k2 := cell_regrown q2
                  have k3 := cell_regrown e1
                  have k4 := cell_regrown e3
                  have k5 := cell_regrown f1
                  refine wp_region_quiet_below (by kernel_rfl) (by kernel_rfl) ?_
                  repeat (go_big_quiet_step (fail))
                  refine wpQuiet_nil ?_
                  intro _ hw'
                  obtain ⟨⟨dq2, osq2⟩, hw''⟩ := hw'
                  subst hw''
                  have HG6 := Lib.hid (g1_bel HG5.out HG5.out.2.size (below_regrown W5 dq2 osq2))
                  clear k1 k2 k3 k4 k5 q1 q2 e1 e3 f1 HG5
                  generalize Sort.grow (redrawn W5 dq2) osq2 = W6 at *
                  go_wp2_with fail
                  refine ⟨?_, by simp [intOf] <;> omega⟩
                  first | exact ⟨i + 1, by omega, by go_num, by rw [HBS.out], HG6⟩ | (repeat apply Exists.intro); exact ⟨⟨i + 1, by omega, by go_num, by rw [HBS.out], HG6⟩, rfl⟩
            · have ab : (u == xx) = false := by simp [hux]
              have hbs := best_same (l := l) (b := tb) (st := st) (k := K) (x := xx) HX.out (fun h => hux h.1)
              have HBS := Lib.hid hbs
              clear hbs hivkb
              go_wp2_with fail
              have k1 := cell_regrown q1
              have k2 := cell_regrown q2
              have k3 := cell_regrown e1
              have k4 := cell_regrown e3
              have k5 := cell_regrown f1
              refine wp_region_quiet_below (by kernel_rfl) (by kernel_rfl) ?_
              repeat (go_big_quiet_step (fail))
              refine wpQuiet_nil ?_
              intro _ hw'
              obtain ⟨⟨dq2, osq2⟩, hw''⟩ := hw'
              subst hw''
              have HG6 := Lib.hid (g1_bel HG5.out HG5.out.2.size (below_regrown W5 dq2 osq2))
              clear k1 k2 k3 k4 k5 q1 q2 e1 e3 f1 HG5
              generalize Sort.grow (redrawn W5 dq2) osq2 = W6 at *
              go_wp2_with fail
              refine ⟨?_, by simp [intOf] <;> omega⟩
              first | exact ⟨i + 1, by omega, by go_num, by rw [HBS.out], HG6⟩ | (repeat apply Exists.intro); exact ⟨⟨i + 1, by omega, by go_num, by rw [HBS.out], HG6⟩, rfl⟩
          · obtain rfl : i = n2 := by omega
            have hin : ¬ (i : Int) < (i : Int) := by omega
            have hbe : best l (m.take i) tb st K x = (i2 : Int) := by rw [List.take_of_length_le (by rw [HL2.out]; exact Nat.le_refl _), HK.out]; exact HBE.out
            rw [hbe]
            have hi2l : i2 < n1 := by rw [← HL1.out]; exact isAt_lt HY2.out
            have hi2' : (i2 : Int) < (n1 : Int) := by omega
            have hi20 : (0 : Int) ≤ (i2 : Int) := by omega
            obtain ⟨bc, oc, xx, yy, hpc, hxc, e3, _⟩ := z1.at i2 hi2l
            injection hpc with hpc
            injection hpc with hp1 hp2
            subst hp1 hp2
            have hxx : xx = y2 := by
              obtain ⟨tx, htx⟩ := isAt_num HY2.out
              rw [htx] at hxc
              injection hxc with hxc
              injection hxc with hxc _
              exact hxc.symm
            subst hxx
            have hown := HG1.out.1
            have hs1 := HG1.out.2.size
            have hll : Lo.length ≤ 11 := by have := HI.out.2.1; omega
            clear hbe hxc z1 z2
            go_wp2_with (at_builtin; go_loud (refine wpList_append_lies _ rfl _ _ 27 rfl w1.heap.size 3 i0 (.int .i64 0) 1 8 Try.underlying27 hi hy0 hy1 hy2 rfl (by decide) u8 Lo.length (ints Lo) rfl (hown.alloc _) ⟨wr.heap.size, 0, none⟩ 1 1 [.int .i64 xx] rfl rfl (cell_one_new _ _ _) (by simp [Value.oneCell']) (by decide) (by unfold maxLen; omega) (by omega) (by simp <;> omega) (wr.heap.size + 1) (by simp) ?_); go_loud (intro g9 cap9 w9 hown9 hgrow9 hat9 hlt9))
            have HG9 := Lib.hid (g1_append HG1.out hs1 (below_alloc wr _) hown9 hgrow9)
            have HI9 : Hid (isAt l xx = some i2 ∧ (Lo ++ [xx]).length + j = st x0 + 1 ∧ (Lo ++ [xx]) ++ (gr m tb st j xx).tail = gr m tb st (st x0) x0 ∧ (j = 0 ∨ IsMin m tb j xx)) := by
              refine ⟨HY2.out, by have := HI.out.2.1; simp; omega, ?_, HNX.out⟩
              rw [List.append_assoc, List.singleton_append, ← gr_cons, ← HGT.out]
              exact HI.out.2.2.1
            have hKj : (K : Int) - 1 = (j : Int) := by have := HK.out; omega
            have hkj := HK.out
            clear hown9 hgrow9 hat9 hlt9
            exact ⟨⟨j, i2, xx, Lo ++ [xx], by omega, by rw [← hKj] <;> go_num, rfl, HI9, HG9⟩, by simp [intOf] <;> omega⟩
end Go.Proofs.Ytlgfaabobpnflaa.StpD
