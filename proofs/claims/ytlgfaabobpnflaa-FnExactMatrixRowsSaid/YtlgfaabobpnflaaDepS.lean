/- The model's l5Depths: rounds over the relations. -/
import Derived.Test.YtlgfaabobpnflaaDepM
import Derived.Test.YtlgfaabobpnflaaRedS
import Derived.Test.YtlgfaabobpnflaaOrdN
namespace Go.Proofs.Ytlgfaabobpnflaa.DepS
open Go.RowKit Pairs Rec RecEq Chain Find2 GoodM Keep GivesI Lows Order Bit Table Idx That IsLater Consist OrdM DepM RedS
theorem l1Most_any (a b : Int) (W : World) : Calls Try.prog 125 #[.int .i64 a, .int .i64 b] W fun e w' => e = .returned (.int .i64 (max a b)) ∧ w' = W := by
  go_enter Try.func125, Try.ntmps125
  by_cases h : b < a
  · go_wp2_with fail
    go_ret
    exact ⟨by rw [show max a b = a by omega]; rfl, rfl⟩
  · go_wp2_with fail
    go_ret
    exact ⟨by rw [show max a b = b by omega]; rfl, rfl⟩
/-- The row holds what g says of the contexts. -/
def TabD (l : Ps) (L : List Nat) (g : Int → Int) : Prop := ∀ (i : Nat) (x y : Int), l[i]? = some (x, y) → ∃ v : Nat, L[i]? = some v ∧ (v : Int) = g x
theorem tabD_zero {l : Ps} {n : Nat} (hn : l.length = n) : TabD l (List.replicate n 0) (fun _ => 0) := fun i x y hx => ⟨0, by rw [List.getElem?_replicate, if_pos (by rw [← hn]; exact (List.getElem?_eq_some_iff.1 hx).1)], rfl⟩
theorem tabD_set {l m : Ps} {L : List Nat} {g : Int → Int} (h : TabD l L g) (hg : good l m = true) {j : Nat} {y t : Int} (hj : l[j]? = some (y, t)) {v : Nat} {z : Int} (hv : (v : Int) = z) (hl : j < L.length) : TabD l (L.set j v) (upd g y z) := by
  intro i x s hx
  unfold upd
  by_cases e : y = x
  · subst e
    have e1 := num_at hg hj
    have e2 := num_at hg hx
    rw [e1] at e2
    injection e2 with e2
    subst e2
    rw [if_pos rfl]
    exact ⟨v, by rw [List.getElem?_set_self hl], hv⟩
  · rw [if_neg e]
    have hij : j ≠ i := fun h2 => by
      subst h2
      rw [hj] at hx
      injection hx with hx
      injection hx with hx _
      exact e hx
    obtain ⟨v', h1, h2⟩ := h i x s hx
    exact ⟨v', by rw [List.getElem?_set_ne hij]; exact h1, h2⟩
def DepTab (l m : Ps) (n1 : Nat) (w : World) (e : Ending) (w' : World) : Prop :=
  ∃ (g : Nat) (L : List Nat), e = .returned (.slice (some ⟨g, 0, none⟩) n1 n1) ∧ w.heap.size ≤ g ∧ HoldsI w' (some ⟨g, 0, none⟩) n1 (intsN L) ∧ L.length = n1 ∧ TabD l L (depth l m) ∧ Below w.heap.size w w'
set_option maxRecDepth 100000 in
theorem depth_le {l m : Ps} (hg : good l m = true) (z : Int) : 0 ≤ depth l m z ∧ depth l m z ≤ 240 := by
  have h := depF_bd (m := m) (orderL l m) z
  have h1 : (orderL l m).length ≤ 10 := Nat.le_trans (ordD_len _ _) (Table.good_few hg).1
  have h2 := (Table.good_few hg).2
  have h3 : (orderL l m).length * m.length ≤ 240 := Nat.le_trans (Nat.mul_le_mul h1 h2) (by omega)
  have h3' : ((orderL l m).length : Int) * (m.length : Int) ≤ 240 := by exact_mod_cast h3
  unfold depth
  omega
set_option maxRecDepth 100000 in
set_option maxHeartbeats 8000000 in
theorem l5Depths_any (a1 a2 : Option Addr) (n1 c1 n2 c2 : Nat) (l m : List (Int × Int)) (w : World) (hgood : good l m = true) (hc : cyc l m = false) (h1 : Holds w a1 n1 l) (h2 : Holds w a2 n2 m) :
    Calls Try.prog 91 #[.agg #[.slice a1 n1 c1, .slice a2 n2 c2]] w (DepTab l m n1 w) := by
  have hn1 : n1 ≤ 10 := by rw [← h1.1]; exact (Table.good_few hgood).1
  have hn2 : n2 ≤ 24 := by rw [← h2.1]; exact (Table.good_few hgood).2
  have HE := Lib.hid (Table.good_ends hgood)
  have HL1 := Lib.hid h1.1
  have HL2 := Lib.hid h2.1
  have HDEP := Lib.hid (depth_dep hgood hc)
  have HAL := Lib.hid (along hgood hc)
  have HLE := Lib.hid (depth_le (m := m) hgood)
  have hmO : ∀ u x, (u, x) ∈ m → u ∈ orderL l m := fun u x hux => (order_topo hgood hc).all u (by obtain ⟨i, hi⟩ := (Table.good_ends hgood u x hux).1; exact isAt_keys.1 (by rw [hi]; rfl)) rfl
  have HMO := Lib.hid hmO
  have hlO : (orderL l m).length = n1 := by
    rw [(order_topo hgood hc).len, lft_all, OrdN.keys_len, h1.1]
  have HLO := Lib.hid hlO
  have HAO : Hid (∀ x ∈ keys l, x ∈ orderL l m) := fun x hx => (order_topo hgood hc).all x hx rfl
  have hb := below_alloc w (.cells #[.slice a1 n1 c1, .slice a2 n2 c2] 33)
  have hf := box_first w (.slice a1 n1 c1) (.slice a2 n2 c2) 33
  have hf2 := box_second w (.slice a1 n1 c1) (.slice a2 n2 c2) 33
  have hsz : w.heap.size < (w.alloc (.cells #[.slice a1 n1 c1, .slice a2 n2 c2] 33)).heap.size := by simp
  have H1 := Lib.hid (h1.below hb)
  have H2 := Lib.hid (h2.below hb)
  have HG := Lib.hid hgood
  clear h1 h2 hgood hc hmO hlO
  have hmk := fun W => run_make1 W n1 (by omega)
  have hWe : (w.alloc (.cells #[.slice a1 n1 c1, .slice a2 n2 c2] 33)).heap.size = w.heap.size + 1 := by simp
  have HWE := Lib.hid hWe
  clear hWe
  go_enter Try.func91, Try.ntmps91
  go_wp2_with fail
  generalize w.alloc (.cells #[.slice a1 n1 c1, .slice a2 n2 c2] 33) = W0 at *
  have HM3 : Hid (∀ wr, Below W0.heap.size W0 wr → (Holds wr a1 n1 l ∧ Holds wr a2 n2 m) ∧ wr.cell? ⟨w.heap.size, 0, none⟩ = some (.slice a1 n1 c1) ∧ wr.cell? ⟨w.heap.size, 1, none⟩ = some (.slice a2 n2 c2)) := fun wr hwr => ⟨⟨H1.out.below hwr, H2.out.below hwr⟩, (hwr.cell (p := ⟨w.heap.size, 0, none⟩) hsz).trans hf, (hwr.cell (p := ⟨w.heap.size, 1, none⟩) hsz).trans hf2⟩
  have HB := Lib.hid hb
  have hR0 := Row.start W0.heap.size W0 W0 n1 (Nat.le_refl _) (Below.refl _ _)
  clear hb hmk hf hf2
  generalize W0.alloc (.cells (cellsN (List.replicate n1 0)).toArray 3) = W1 at *
  obtain ⟨g, hg⟩ : ∃ g, W0.heap.size = g := ⟨_, rfl⟩
  have HGG := Lib.hid hg
  have hg2 : w.heap.size + 1 = g := by rw [← HWE.out]; exact hg
  rw [hg] at hR0
  rw [hg2]
  clear hg hg2
  have HR0 : Hid (Row g W0 W1 g n1 (List.replicate n1 0) ∧ ∃ gg, TabD l (List.replicate n1 0) gg ∧ Rnd m (orderL l m) (depth l m) gg 0 0) := ⟨hR0, _, tabD_zero HL1.out, rnd_start HDEP.out⟩
  clear hR0
  go_loopw [4] (fun s4 wr => ∃ (t : Nat) (L : List Nat), t ≤ n1 ∧ s4 = .int .i64 t ∧ Hid (Row g W0 wr g n1 L ∧ ∃ gg, TabD l L gg ∧ Rnd m (orderL l m) (depth l m) gg t 0)) (fun s4 _ => n1 - (intOf s4).toNat)
  case atStart => exact ⟨0, _, Nat.zero_le _, rfl, HR0⟩
  case round =>
    clear HR0
    obtain ⟨t, L, ht, rfl, HR⟩ := hrel
    by_cases hltt : t < n1
    · have htn : (t : Int) < (n1 : Int) := by omega
      go_wp2_with fail
      go_loopw [5] (fun s5 wr => ∃ (k : Nat) (L : List Nat), k ≤ n2 ∧ s5 = .int .i64 k ∧ Hid (Row g W0 wr g n1 L ∧ ∃ gg, TabD l L gg ∧ Rnd m (orderL l m) (depth l m) gg t k)) (fun s5 _ => n2 - (intOf s5).toNat)
      case atStart => exact ⟨0, _, Nat.zero_le _, rfl, HR⟩
      case round =>
        clear HR
        obtain ⟨k, L, hk, rfl, HR⟩ := hrel
        have hbel : Below W0.heap.size W0 wr := by rw [HGG.out]; exact HR.out.1.2.2.2
        obtain ⟨⟨q1, q2⟩, u1, u2⟩ := HM3.out wr hbel
        have Q1 := Lib.hid q1
        have HBL := Lib.hid hbel
        clear q1 hbel
        by_cases hlt : k < n2
        · obtain ⟨b, off, x, y, rfl, hx, e1, e2⟩ := q2.at k hlt
          have Q2 := Lib.hid q2
          clear q2
          have hkn : (k : Int) < (n2 : Int) := by omega
          have hk00 : (0 : Int) ≤ (k : Int) := by omega
          obtain ⟨⟨i, hi⟩, ⟨j, hj⟩⟩ := HE.out x y (List.mem_of_getElem? hx)
          have HXX := Lib.hid hx
          have HI := Lib.hid (isAt_num hi)
          have HJ := Lib.hid (isAt_num hj)
          have hil : i < n1 := by rw [← HL1.out]; exact isAt_lt hi
          have hjl : j < n1 := by rw [← HL1.out]; exact isAt_lt hj
          have k1 := cell_regrown u1
          have k2 := cell_regrown u2
          have k3 := cell_regrown e1
          have k4 := cell_regrown e2
          have cU : ∀ d os, Calls Try.prog 90 #[.agg #[.slice a1 n1 c1, .slice (some ⟨b, off, none⟩) n2 c2], .int .i64 x] (Sort.grow (redrawn wr d) os) fun e w'' => e = .returned (.int .i64 (i : Int)) ∧ ∃ p : Regrown, w'' = Sort.grow (redrawn wr p.d) p.os := fun d os => Calls.regrown_of (by rw [← find_some hi]; exact l2Find_any a1 _ n1 c1 n2 c2 l x _ (by omega) (Q1.out.below (below_regrown wr d os)))
          have cV : ∀ d os, Calls Try.prog 90 #[.agg #[.slice a1 n1 c1, .slice (some ⟨b, off, none⟩) n2 c2], .int .i64 y] (Sort.grow (redrawn wr d) os) fun e w'' => e = .returned (.int .i64 (j : Int)) ∧ ∃ p : Regrown, w'' = Sort.grow (redrawn wr p.d) p.os := fun d os => Calls.regrown_of (by rw [← find_some hj]; exact l2Find_any a1 _ n1 c1 n2 c2 l y _ (by omega) (Q1.out.below (below_regrown wr d os)))
          clear hx hi hj
          go_wp2_with fail
          refine wp_region_quiet_below (by kernel_rfl) (by kernel_rfl) ?_
          repeat (go_big_quiet_step (first | (go_at_call_of 90 x; exact cU _ _) | (go_at_call_of 90 y; exact cV _ _)))
          refine wpQuiet_nil ?_
          intro _ hw'
          obtain ⟨⟨dq, osq⟩, hw''⟩ := hw'
          subst hw''
          have hbq := below_regrown wr dq osq
          have HR2 : Hid (Row g W0 (Sort.grow (redrawn wr dq) osq) g n1 L ∧ ∃ gg, TabD l L gg ∧ Rnd m (orderL l m) (depth l m) gg t k) := ⟨HR.out.1.quiet (by rw [← HGG.out]; exact HBL.out.size) hbq, HR.out.2⟩
          clear k1 k2 k3 k4 cU cV u1 u2 e1 e2 Q1 Q2 HR HBL
          generalize Sort.grow (redrawn wr dq) osq = W5 at *
          clear hbq
          obtain ⟨hR, gg, hT, hRnd⟩ := HR2.out
          obtain ⟨tx, hix⟩ := HI.out
          obtain ⟨ty, hjy⟩ := HJ.out
          obtain ⟨zu, hzu, hgu⟩ := hT i x tx hix
          obtain ⟨zl, hzl, hgl⟩ := hT j y ty hjy
          have hlo1 := hRnd.lo x
          have hlo2 := hRnd.lo y
          have hle1 := HLE.out x
          have hle2 := HLE.out y
          have hRd := hR.quiet (wq := W5.drew) (by have := hR.2.2.2.size; rw [HGG.out] at this; exact this) (Below.refl W5.heap.size W5).drew
          have f1 := hRd.cell hzu
          have f2 := hRd.cell hzl
          have f3 := hRd.frozen j
          have hii : (i : Int) < (n1 : Int) := by omega
          have hjj : (j : Int) < (n1 : Int) := by omega
          have hi00 : (0 : Int) ≤ (i : Int) := by omega
          have hj00 : (0 : Int) ≤ (j : Int) := by omega
          have hLn : L.length = n1 := hR.2.1
          have HR3 : Hid (Row g W0 (W5.drew.setCell ⟨g, j, none⟩ (.int .i64 ((max zl (zu + 1) : Nat) : Int))) g n1 (L.set j (max zl (zu + 1))) ∧ ∃ gg, TabD l (L.set j (max zl (zu + 1))) gg ∧ Rnd m (orderL l m) (depth l m) gg t (k + 1)) :=
            ⟨hRd.set j _, upd gg y (max (gg y) (gg x + 1)), tabD_set hT HG.out hjy (by omega) (by rw [hLn]; exact hjl), hRnd.rel HDEP.out HMO.out HXX.out⟩
          have hmx : max (zl : Int) ((zu : Int) + 1) = ((max zl (zu + 1) : Nat) : Int) := by omega
          have hzs : (zu : Int) ≤ 240 := by omega
          have HMX := Lib.hid hmx
          clear hR hRd hT hRnd hix hjy hzu hzl hgu hgl HR2 hmx
          go_wp2_with fail
          go_region_with (first
            | (go_at_call 125; refine (l1Most_any _ _ _).mono ?_; rintro e wz ⟨rfl, hwz⟩; subst hwz)
            | fail)
          all_goals (have hwr : IntKind.i64.wrap ((zu : Int) + 1) = (zu : Int) + 1 := by rw [IntKind.wrap_i64]; omega)
          all_goals (try rw [hwr])
          all_goals rw [HMX.out]
          all_goals go_wp2_with fail
          all_goals exact ⟨⟨k + 1, _, by omega, by go_num, HR3⟩, by simp [intOf]; omega⟩
        · obtain rfl : k = n2 := by omega
          have hkn : ¬ (k : Int) < (k : Int) := by omega
          have HR2 : Hid (Row g W0 wr g n1 L ∧ ∃ gg, TabD l L gg ∧ Rnd m (orderL l m) (depth l m) gg (t + 1) 0) := by
            obtain ⟨hR, gg, hT, hRnd⟩ := HR.out
            rw [← HL2.out] at hRnd
            exact ⟨hR, gg, hT, hRnd.round HDEP.out HAL.out⟩
          clear HR q2
          go_wp2_with fail
          exact ⟨⟨t + 1, L, by omega, by go_num, HR2⟩, by simp [intOf]; omega⟩
    · obtain rfl : t = n1 := by omega
      have htn : ¬ (t : Int) < (t : Int) := by omega
      go_wp2_with fail
      go_ret
      obtain ⟨hR, gg, hT, hRnd⟩ := HR.out
      refine ⟨g, L, rfl, by rw [← HGG.out]; exact HB.out.size, hR.holds, hR.2.1, fun i x y hx => ?_, HB.out.trans (by have := hR.2.2.2; rw [← HGG.out] at this; exact this.mono HB.out.size)⟩
      obtain ⟨v, h1, h2⟩ := hT i x y hx
      exact ⟨v, h1, by rw [h2]; exact hRnd.done (by rw [HLO.out]; exact Nat.le_refl _) x (HAO.out x (List.mem_of_getElem? (OrdN.keys_at hx)))⟩
end Go.Proofs.Ytlgfaabobpnflaa.DepS
