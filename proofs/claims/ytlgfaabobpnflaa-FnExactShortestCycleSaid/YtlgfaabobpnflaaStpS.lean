/- The model's l4Steps: rounds over the relations. -/
import Derived.Test.YtlgfaabobpnflaaStpM
import Derived.Test.YtlgfaabobpnflaaRedS
import Derived.Test.YtlgfaabobpnflaaOrdN
namespace Go.Proofs.Ytlgfaabobpnflaa.StpS
open Go.RowKit Pairs Rec RecEq Chain Find2 GoodM Keep GivesI Lows Order Bit Table Idx That IsLater Consist OrdM RedS BfsM ScM StpM
/-- The row holds what st says of the contexts. -/
def TabS (l : Ps) (L : List Nat) (st : Int → Nat) : Prop := ∀ (i : Nat) (x y : Int), l[i]? = some (x, y) → L[i]? = some (st x)
theorem tabS_zero {l : Ps} {n : Nat} (hn : l.length = n) : TabS l (List.replicate n 0) (fun _ => 0) := fun i x y hx => by rw [List.getElem?_replicate, if_pos (by rw [← hn]; exact (List.getElem?_eq_some_iff.1 hx).1)]
theorem tabS_set {l m : Ps} {L : List Nat} {st : Int → Nat} (h : TabS l L st) (hg : good l m = true) {j : Nat} {y t : Int} (hj : l[j]? = some (y, t)) (v : Nat) (hl : j < L.length) : TabS l (L.set j v) (updN st y v) := by
  intro i x s hx
  unfold updN
  by_cases e : y = x
  · subst e
    have e1 := num_at hg hj
    have e2 := num_at hg hx
    rw [e1] at e2
    injection e2 with e2
    subst e2
    rw [if_pos rfl, List.getElem?_set_self hl]
  · rw [if_neg e]
    have hij : j ≠ i := fun h2 => by
      subst h2
      rw [hj] at hx
      injection hx with hx
      injection hx with hx _
      exact e hx
    rw [List.getElem?_set_ne hij]
    exact h i x s hx
def StpTab (l m : Ps) (b : Int) (n1 : Nat) (w : World) (e : Ending) (w' : World) : Prop :=
  ∃ (g : Nat) (L : List Nat) (st : Int → Nat), e = .returned (.slice (some ⟨g, 0, none⟩) n1 n1) ∧ w.heap.size ≤ g ∧ HoldsI w' (some ⟨g, 0, none⟩) n1 (intsN L) ∧ TabS l L st ∧ StpM.Steps m b st ∧ Below w.heap.size w w'
set_option maxRecDepth 100000 in
set_option maxHeartbeats 8000000 in
theorem l4Steps_any (b : Int) (kb : Nat) (a1 a2 : Option Addr) (n1 c1 n2 c2 : Nat) (l m : List (Int × Int)) (w : World) (hgood : good l m = true) (hkb : isAt l b = some kb) (h1 : Holds w a1 n1 l) (h2 : Holds w a2 n2 m) :
    Calls Try.prog 128 #[.agg #[.slice a1 n1 c1, .slice a2 n2 c2], .int .i64 (kb : Int)] w (StpTab l m b n1 w) := by
  have hn1 : n1 ≤ 10 := by rw [← h1.1]; exact (Table.good_few hgood).1
  have hn2 : n2 ≤ 24 := by rw [← h2.1]; exact (Table.good_few hgood).2
  have HE := Lib.hid (Table.good_ends hgood)
  have HL1 := Lib.hid h1.1
  have HL2 := Lib.hid h2.1
  have HKB := Lib.hid hkb
  have hb := below_alloc w (.cells #[.slice a1 n1 c1, .slice a2 n2 c2] 33)
  have hf := box_first w (.slice a1 n1 c1) (.slice a2 n2 c2) 33
  have hf2 := box_second w (.slice a1 n1 c1) (.slice a2 n2 c2) 33
  have hsz : w.heap.size < (w.alloc (.cells #[.slice a1 n1 c1, .slice a2 n2 c2] 33)).heap.size := by simp
  have H1 := Lib.hid (h1.below hb)
  have H2 := Lib.hid (h2.below hb)
  have HG := Lib.hid hgood
  clear h1 h2 hgood hkb
  have hmk := fun W => run_make1 W n1 (by omega)
  have hWe : (w.alloc (.cells #[.slice a1 n1 c1, .slice a2 n2 c2] 33)).heap.size = w.heap.size + 1 := by simp
  have HWE := Lib.hid hWe
  clear hWe
  go_enter Try.func128, Try.ntmps128
  go_wp2_with fail
  generalize w.alloc (.cells #[.slice a1 n1 c1, .slice a2 n2 c2] 33) = W0 at *
  have HM3 : Hid (∀ wr, Below W0.heap.size W0 wr → (Holds wr a1 n1 l ∧ Holds wr a2 n2 m) ∧ wr.cell? ⟨w.heap.size, 0, none⟩ = some (.slice a1 n1 c1) ∧ wr.cell? ⟨w.heap.size, 1, none⟩ = some (.slice a2 n2 c2)) := fun wr hwr => ⟨⟨H1.out.below hwr, H2.out.below hwr⟩, (hwr.cell (p := ⟨w.heap.size, 0, none⟩) hsz).trans hf, (hwr.cell (p := ⟨w.heap.size, 1, none⟩) hsz).trans hf2⟩
  have HB := Lib.hid hb
  have hR0 := Row.start W0.heap.size W0 W0 n1 (Nat.le_refl _) (Below.refl _ _)
  clear hb hmk hf hf2
  generalize W0.alloc (.cells (cellsN (List.replicate n1 0)).toArray 3) = W1 at *
  obtain ⟨g, hg⟩ : ∃ g, W0.heap.size = g := ⟨_, rfl⟩
  have HGG := Lib.hid hg
  have hg2 : w.heap.size + 1 = g := by rw [← HWE.out]; exact hg
  rw [hg] at hR0
  rw [hg2]
  clear hg hg2
  have HR0 : Hid (Row g W0 W1 g n1 (List.replicate n1 0) ∧ ∃ st, TabS l (List.replicate n1 0) st ∧ Stp m b st 1 0) := ⟨hR0, _, tabS_zero HL1.out, stp_start m b⟩
  clear hR0
  go_loopw [6] (fun s6 wr => ∃ (t : Nat) (L : List Nat), 1 ≤ t ∧ t ≤ n1 + 1 ∧ s6 = .int .i64 t ∧ Hid (Row g W0 wr g n1 L ∧ ∃ st, TabS l L st ∧ Stp m b st t 0)) (fun s6 _ => n1 + 1 - (intOf s6).toNat)
  case atStart => exact ⟨1, _, Nat.le_refl _, by omega, rfl, HR0⟩
  case round =>
    clear HR0
    obtain ⟨t, L, ht1, ht, rfl, HR⟩ := hrel
    by_cases hltt : t ≤ n1
    · have htn : (t : Int) ≤ (n1 : Int) := by omega
      go_wp2_with fail
      go_loopw [7] (fun s7 wr => ∃ (k : Nat) (L : List Nat), k ≤ n2 ∧ s7 = .int .i64 k ∧ Hid (Row g W0 wr g n1 L ∧ ∃ st, TabS l L st ∧ Stp m b st t k)) (fun s7 _ => n2 - (intOf s7).toNat)
      case atStart => exact ⟨0, _, Nat.zero_le _, rfl, HR⟩
      case round =>
        clear HR
        obtain ⟨k, L, hk, rfl, HR⟩ := hrel
        have hbel : Below W0.heap.size W0 wr := by rw [HGG.out]; exact HR.out.1.2.2.2
        obtain ⟨⟨q1, q2⟩, u1, u2⟩ := HM3.out wr hbel
        have Q1 := Lib.hid q1
        have HBL := Lib.hid hbel
        clear q1 hbel
        by_cases hlt : k < n2
        · obtain ⟨bq, off, x, y, rfl, hx, e1, e2⟩ := q2.at k hlt
          have Q2 := Lib.hid q2
          clear q2
          have hkn : (k : Int) < (n2 : Int) := by omega
          have hk00 : (0 : Int) ≤ (k : Int) := by omega
          obtain ⟨⟨i, hi⟩, ⟨j, hj⟩⟩ := HE.out x y (List.mem_of_getElem? hx)
          have HXX := Lib.hid hx
          have HI := Lib.hid (isAt_num hi)
          have HJ := Lib.hid (isAt_num hj)
          have hil : i < n1 := by rw [← HL1.out]; exact isAt_lt hi
          have hjl : j < n1 := by rw [← HL1.out]; exact isAt_lt hj
          have k1 := cell_regrown u1
          have k2 := cell_regrown u2
          have k3 := cell_regrown e1
          have k4 := cell_regrown e2
          have cU : ∀ d os, Calls Try.prog 90 #[.agg #[.slice a1 n1 c1, .slice (some ⟨bq, off, none⟩) n2 c2], .int .i64 x] (Sort.grow (redrawn wr d) os) fun e w'' => e = .returned (.int .i64 (i : Int)) ∧ ∃ p : Regrown, w'' = Sort.grow (redrawn wr p.d) p.os := fun d os => Calls.regrown_of (by rw [← find_some hi]; exact l2Find_any a1 _ n1 c1 n2 c2 l x _ (by omega) (Q1.out.below (below_regrown wr d os)))
          have cV : ∀ d os, Calls Try.prog 90 #[.agg #[.slice a1 n1 c1, .slice (some ⟨bq, off, none⟩) n2 c2], .int .i64 y] (Sort.grow (redrawn wr d) os) fun e w'' => e = .returned (.int .i64 (j : Int)) ∧ ∃ p : Regrown, w'' = Sort.grow (redrawn wr p.d) p.os := fun d os => Calls.regrown_of (by rw [← find_some hj]; exact l2Find_any a1 _ n1 c1 n2 c2 l y _ (by omega) (Q1.out.below (below_regrown wr d os)))
          clear hx hi hj
          go_wp2_with fail
          refine wp_region_quiet_below (by kernel_rfl) (by kernel_rfl) ?_
          repeat (go_big_quiet_step (first | (go_at_call_of 90 x; exact cU _ _) | (go_at_call_of 90 y; exact cV _ _)))
          refine wpQuiet_nil ?_
          intro _ hw'
          obtain ⟨⟨dq, osq⟩, hw''⟩ := hw'
          subst hw''
          have hbq := below_regrown wr dq osq
          have HR2 : Hid (Row g W0 (Sort.grow (redrawn wr dq) osq) g n1 L ∧ ∃ st, TabS l L st ∧ Stp m b st t k) := ⟨HR.out.1.quiet (by rw [← HGG.out]; exact HBL.out.size) hbq, HR.out.2⟩
          clear k1 k2 k3 k4 cU cV u1 u2 e1 e2 Q1 Q2 HR HBL
          generalize Sort.grow (redrawn wr dq) osq = W5 at *
          clear hbq
          obtain ⟨hR, st, hT, hS⟩ := HR2.out
          obtain ⟨tx, hix⟩ := HI.out
          obtain ⟨ty, hjy⟩ := HJ.out
          have hzu := hT i x tx hix
          have hzl := hT j y ty hjy
          have f1 := hR.cell hzu
          have f2 := hR.cell hzl
          have f3 := hR.frozen i
          have hii : (i : Int) < (n1 : Int) := by omega
          have hjj : (j : Int) < (n1 : Int) := by omega
          have hi00 : (0 : Int) ≤ (i : Int) := by omega
          have hj00 : (0 : Int) ≤ (j : Int) := by omega
          have hLn : L.length = n1 := hR.2.1
          have hyb : (j = kb) ↔ y = b := by
            have e1 := num_at HG.out hjy
            constructor
            · intro e
              subst e
              exact isAt_inj e1 HKB.out
            · intro e
              subst e
              rw [HKB.out] at e1
              injection e1 with e1
              exact e1.symm
          have hhit := hS.hit y
          have HYES : Hid (st x = 0 ∧ Hit m b t y → Row g W0 (W5.setCell ⟨g, i, none⟩ (.int .i64 (t : Int))) g n1 (L.set i t) ∧ ∃ st, TabS l (L.set i t) st ∧ Stp m b st t (k + 1)) := fun h =>
            ⟨hR.set i t, _, tabS_set hT HG.out hix t (by rw [hLn]; exact hil), hS.set HXX.out h.1 h.2⟩
          have HNO : Hid (¬ (st x = 0 ∧ Hit m b t y) → Row g W0 W5 g n1 L ∧ ∃ st, TabS l L st ∧ Stp m b st t (k + 1)) := fun h => ⟨hR, st, hT, hS.skip HXX.out h⟩
          have hsx := hS.le x
          have hsy := hS.le y
          generalize st x = sx at *
          generalize st y = sy at *
          clear hR hT hS hix hjy hzu hzl HR2
          have htw : wrap64 ((t : Int) - 1) = (t : Int) - 1 := by unfold wrap64; omega
          by_cases hx0 : sx = 0
          · have b1 : ((sx : Int) == 0) = true := by simp [hx0]
            have c1 : (sx : Int) = 0 := by omega
            by_cases ht2 : t = 1
            · have b2 : ((t : Int) == 1) = true := by simp [ht2]
              have c2 : (t : Int) = 1 := by omega
              have c2' : ¬ (1 : Int) < (t : Int) := by omega
              by_cases hjk : j = kb
              · have b3 : ((j : Int) == (kb : Int)) = true := by simp [hjk]
                have c3 : (j : Int) = (kb : Int) := by omega
                have HY := Lib.hid (HYES.out ⟨hx0, hhit.2 (.inl ⟨ht2, hyb.1 hjk⟩)⟩)
                clear HYES HNO hhit hyb
                rw [c2] at HY
                go_wp2_with fail
                exact ⟨⟨k + 1, _, by omega, by go_num, HY⟩, by simp [intOf]; omega⟩
              · have b3 : ((j : Int) == (kb : Int)) = false := by simp; omega
                have c3 : ¬ (j : Int) = (kb : Int) := by omega
                have HY := Lib.hid (HNO.out (fun h => by rcases hhit.1 h.2 with h1 | h1; exact hjk (hyb.2 h1.2); omega))
                clear HYES HNO hhit hyb
                go_wp2_with fail
                exact ⟨⟨k + 1, _, by omega, by go_num, HY⟩, by simp [intOf]; omega⟩
            · have b2 : ((t : Int) == 1) = false := by simp; omega
              have c2 : ¬ (t : Int) = 1 := by omega
              have c2' : (1 : Int) < (t : Int) := by omega
              by_cases hsy2 : sy = t - 1
              · have b3 : ((sy : Int) == (t : Int) - 1) = true := by simp; omega
                have c3 : (sy : Int) = (t : Int) - 1 := by omega
                have HY := Lib.hid (HYES.out ⟨hx0, hhit.2 (.inr ⟨by omega, hsy2⟩)⟩)
                clear HYES HNO hhit hyb
                go_wp2_with fail
                exact ⟨⟨k + 1, _, by omega, by go_num, HY⟩, by simp [intOf]; omega⟩
              · have b3 : ((sy : Int) == (t : Int) - 1) = false := by simp; omega
                have c3 : ¬ (sy : Int) = (t : Int) - 1 := by omega
                have HY := Lib.hid (HNO.out (fun h => by rcases hhit.1 h.2 with h1 | h1; omega; exact hsy2 h1.2))
                clear HYES HNO hhit hyb
                go_wp2_with fail
                exact ⟨⟨k + 1, _, by omega, by go_num, HY⟩, by simp [intOf]; omega⟩
          · have b1 : ((sx : Int) == 0) = false := by simp; omega
            have c1 : ¬ (sx : Int) = 0 := by omega
            have HY := Lib.hid (HNO.out (fun h => hx0 h.1))
            clear HYES HNO hhit hyb
            go_wp2_with fail
            exact ⟨⟨k + 1, _, by omega, by go_num, HY⟩, by simp [intOf]; omega⟩
        · obtain rfl : k = n2 := by omega
          have hkn : ¬ (k : Int) < (k : Int) := by omega
          have HR2 : Hid (Row g W0 wr g n1 L ∧ ∃ st, TabS l L st ∧ Stp m b st (t + 1) 0) := by
            obtain ⟨hR, st, hT, hS⟩ := HR.out
            rw [← HL2.out] at hS
            exact ⟨hR, st, hT, hS.round⟩
          clear HR q2
          go_wp2_with fail
          exact ⟨⟨t + 1, L, by omega, by omega, by go_num, HR2⟩, by simp [intOf]; omega⟩
    · obtain rfl : t = n1 + 1 := by omega
      have htn : ¬ ((n1 + 1 : Nat) : Int) ≤ (n1 : Int) := by omega
      go_wp2_with fail
      go_ret
      obtain ⟨hR, st, hT, hS⟩ := HR.out
      exact ⟨g, L, st, rfl, by rw [← HGG.out]; exact HB.out.size, hR.holds, hT, Stp.done HG.out (by rw [HL1.out]; exact hS), HB.out.trans (by have := hR.2.2.2; rw [← HGG.out] at this; exact this.mono HB.out.size)⟩
end Go.Proofs.Ytlgfaabobpnflaa.StpS
