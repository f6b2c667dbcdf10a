/- The model's l4Later: the table of what is later. -/
import Derived.Test.YtmjhgjlnpnkmkaaBit
import Derived.Lib.QuietBelow
import Derived.Deep.DeepCutAuto
import Derived.Deep.RegionHeld3
namespace Go.Proofs.Ytmjhgjlnpnkmkaa.Table
open Go.RowKit Pairs Chain Bit Find2 GoodM
theorem good_ends {l m : List (Int × Int)} (h : good l m = true) : EndsIn l m := by
  intro a b hm
  obtain ⟨k, hk, e⟩ := List.getElem_of_mem hm
  unfold good at h
  simp only [Bool.and_eq_true, decide_eq_true_eq] at h
  have := (List.all_eq_true.1 h.2) k (List.mem_range.2 hk)
  unfold okR at this
  rw [List.getElem?_eq_getElem hk, e] at this
  simp only [Bool.and_eq_true, Option.isSome_iff_exists] at this
  exact ⟨this.1.1.2, this.1.2⟩
theorem good_few {l m : List (Int × Int)} (h : good l m = true) : l.length ≤ 10 ∧ m.length ≤ 24 := by
  unfold good at h
  simp only [Bool.and_eq_true, decide_eq_true_eq] at h
  exact ⟨h.1.1.1, h.1.1.2⟩
theorem pow_lt {b n : Nat} (hb : b < n) (hn : n ≤ 10) : 2 ^ b < 1024 := by
  have : 2 ^ b < 2 ^ 10 := Nat.pow_lt_pow_right (by decide) (by omega)
  exact this
theorem shl_or (z j : Nat) (hz : z < 1024) (hj : 2 ^ j < 1024) : bits .or .i64 (z : Int) (wrap64 (2 ^ j)) = ((z ||| 2 ^ j : Nat) : Int) := by
  have e : (2 : Int) ^ j = ((2 ^ j : Nat) : Int) := by
    rw [Int.natCast_pow]
    rfl
  rw [e]
  generalize 2 ^ j = p at *
  rw [IntWalk.wrap64_in _ (by omega), i64_or z _ hz hj]
theorem bd {n x : Nat} (hn : n ≤ 10) (h : x < 2 ^ n) : x < 1024 := Nat.lt_of_lt_of_le h (Nat.pow_le_pow_right (by decide) hn)
/-- What l4Later leaves: a new row that holds the table. -/
def TblAt (l m : List (Int × Int)) (n1 : Nat) (w : World) (e : Ending) (w' : World) : Prop :=
  ∃ (g : Nat) (L : List Nat), e = .returned (.slice (some ⟨g, 0, none⟩) n1 n1) ∧ w.heap.size ≤ g ∧ GivesI.HoldsI w' (some ⟨g, 0, none⟩) n1 (intsN L) ∧ Tbl n1 L (W (Ed l m) n1) ∧ Below w.heap.size w w'
set_option maxRecDepth 100000 in
set_option maxHeartbeats 8000000 in
theorem later_any (a1 a2 : Option Addr) (n1 c1 n2 c2 : Nat) (l m : List (Int × Int)) (w : World) (hgood : good l m = true) (h1 : Holds w a1 n1 l) (h2 : Holds w a2 n2 m) :
    Calls Try.prog 58 #[.agg #[.slice a1 n1 c1, .slice a2 n2 c2]] w (TblAt l m n1 w) := by
  have hn1 : n1 ≤ 10 := by rw [← h1.1]; exact (good_few hgood).1
  have hn2 : n2 ≤ 24 := by rw [← h2.1]; exact (good_few hgood).2
  have HE := Lib.hid (good_ends hgood)
  have hl1 : l.length = n1 := h1.1
  have hl2 : m.length = n2 := h2.1
  have hb := below_alloc w (.cells #[.slice a1 n1 c1, .slice a2 n2 c2] 33)
  have hf := box_first w (.slice a1 n1 c1) (.slice a2 n2 c2) 33
  have hf2 := box_second w (.slice a1 n1 c1) (.slice a2 n2 c2) 33
  have hsz : w.heap.size < (w.alloc (.cells #[.slice a1 n1 c1, .slice a2 n2 c2] 33)).heap.size := by simp
  have H1 := Lib.hid (h1.below hb)
  have H2 := Lib.hid (h2.below hb)
  have HL1 := Lib.hid hl1
  have HL2 := Lib.hid hl2
  have HG := Lib.hid hgood
  clear h1 h2 hl1 hl2 hgood
  have hmk := fun W => run_make1 W n1 (by omega)
  have hWe : (w.alloc (.cells #[.slice a1 n1 c1, .slice a2 n2 c2] 33)).heap.size = w.heap.size + 1 := by simp
  have HWE := Lib.hid hWe
  clear hWe
  go_enter Try.func58, Try.ntmps58
  go_wp2_with fail
  generalize w.alloc (.cells #[.slice a1 n1 c1, .slice a2 n2 c2] 33) = W0 at *
  have HM3 : Hid (∀ wr, Below W0.heap.size W0 wr → (Holds wr a1 n1 l ∧ Holds wr a2 n2 m) ∧ wr.cell? ⟨w.heap.size, 0, none⟩ = some (.slice a1 n1 c1) ∧ wr.cell? ⟨w.heap.size, 1, none⟩ = some (.slice a2 n2 c2)) := fun wr hwr => ⟨⟨H1.out.below hwr, H2.out.below hwr⟩, (hwr.cell (p := ⟨w.heap.size, 0, none⟩) hsz).trans hf, (hwr.cell (p := ⟨w.heap.size, 1, none⟩) hsz).trans hf2⟩
  have HB := Lib.hid hb
  have hR0 := Row.start W0.heap.size W0 W0 n1 (Nat.le_refl _) (Below.refl _ _)
  clear hb hmk hf hf2
  generalize W0.alloc (.cells (cellsN (List.replicate n1 0)).toArray 3) = W1 at *
  obtain ⟨g, hg⟩ : ∃ g, W0.heap.size = g := ⟨_, rfl⟩
  have HGG := Lib.hid hg
  have hg2 : w.heap.size + 1 = g := by rw [← HWE.out]; exact hg
  rw [hg] at hR0
  rw [hg2]
  clear hg hg2
  go_loopw [4] (fun s4 wr => ∃ (k : Nat) (L : List Nat), k ≤ n2 ∧ s4 = .int .i64 k ∧ Row g W0 wr g n1 L ∧ Hid (Tbl n1 L (Ed l (m.take k)))) (fun s4 _ => n2 - (intOf s4).toNat)
  case atStart => exact ⟨0, _, Nat.zero_le _, rfl, hR0, (tbl_zero n1).imp (fun i j _ _ => ⟨False.elim, fun ⟨a, b, h, _⟩ => by simp at h⟩)⟩
  case round =>
    obtain ⟨k, L, hk, rfl, hR, HT⟩ := hrel
    clear hR0
    have hbel : Below W0.heap.size W0 wr := by rw [HGG.out]; exact hR.2.2.2
    obtain ⟨⟨q1, q2⟩, u1, u2⟩ := HM3.out wr hbel
    have Q1 := Lib.hid q1
    have HR := Lib.hid hR
    have HBL := Lib.hid hbel
    clear q1 hR hbel
    by_cases hlt : k < n2
    · obtain ⟨b, off, x, y, rfl, hx, e1, e2⟩ := q2.at k hlt
      have Q2 := Lib.hid q2
      clear q2
      have hkn : (k : Int) < (n2 : Int) := by omega
      have hk00 : (0 : Int) ≤ (k : Int) := by omega
      obtain ⟨⟨i, hi⟩, ⟨j, hj⟩⟩ := HE.out x y (List.mem_of_getElem? hx)
      have HX := Lib.hid (ed_next hx hi hj)
      have hil : i < n1 := by rw [← HL1.out]; exact isAt_lt hi
      have hjl : j < n1 := by rw [← HL1.out]; exact isAt_lt hj
      have k1 := cell_regrown u1
      have k2 := cell_regrown u2
      have k3 := cell_regrown e1
      have k4 := cell_regrown e2
      have cU : ∀ d os, Calls Try.prog 85 #[.agg #[.slice a1 n1 c1, .slice (some ⟨b, off, none⟩) n2 c2], .int .i64 x] (Sort.grow (redrawn wr d) os) fun e w'' => e = .returned (.int .i64 (i : Int)) ∧ ∃ p : Regrown, w'' = Sort.grow (redrawn wr p.d) p.os := fun d os => Calls.regrown_of (by rw [← find_some hi]; exact l2Find_any a1 _ n1 c1 n2 c2 l x _ (by omega) (Q1.out.below (below_regrown wr d os)))
      have cV : ∀ d os, Calls Try.prog 85 #[.agg #[.slice a1 n1 c1, .slice (some ⟨b, off, none⟩) n2 c2], .int .i64 y] (Sort.grow (redrawn wr d) os) fun e w'' => e = .returned (.int .i64 (j : Int)) ∧ ∃ p : Regrown, w'' = Sort.grow (redrawn wr p.d) p.os := fun d os => Calls.regrown_of (by rw [← find_some hj]; exact l2Find_any a1 _ n1 c1 n2 c2 l y _ (by omega) (Q1.out.below (below_regrown wr d os)))
      clear hx hi hj
      go_wp2_with fail
      refine wp_region_quiet_below (by kernel_rfl) (by kernel_rfl) ?_
      repeat (go_big_quiet_step (first | (go_at_call_of 85 x; exact cU _ _) | (go_at_call_of 85 y; exact cV _ _)))
      refine wpQuiet_nil ?_
      intro _ hw'
      obtain ⟨⟨dq, osq⟩, hw''⟩ := hw'
      subst hw''
      have hbq := below_regrown wr dq osq
      have hR2 := HR.out.quiet (by rw [← HGG.out]; exact HBL.out.size) hbq
      clear k1 k2 k3 k4 cU cV u1 u2 e1 e2 Q1 Q2 HR HBL
      generalize Sort.grow (redrawn wr dq) osq = W5 at *
      clear hbq
      obtain ⟨z, hz⟩ := hR2.at hil
      have hz10 := bd hn1 (HT.out.bd i z hz)
      have hp10 := pow_lt hjl hn1
      have f1 := hR2.cell hz
      have f2 := hR2.frozen i
      have hor := shl_or z j hz10 hp10
      have HOR := Lib.hid hor
      clear hor
      have hii : (i : Int) < (n1 : Int) := by omega
      have hi00 : (0 : Int) ≤ (i : Int) := by omega
      have hj00 : (0 : Int) ≤ (j : Int) := by omega
      have HT2 := Lib.hid ((HT.out.set hz (Nat.pow_lt_pow_right (by decide) hjl)).imp (fun r s _ _ => (HX.out r s).symm))
      have HR3 := Lib.hid (hR2.set i (z ||| 2 ^ j))
      clear hR2 hz HT HX
      go_wp2_with fail
      rw [HOR.out]
      exact ⟨⟨k + 1, _, by omega, by go_num, HR3.out, HT2⟩, by simp [intOf]; omega⟩
    · obtain rfl : k = n2 := by omega
      have hkn : ¬ (k : Int) < (k : Int) := by omega
      have HT2 : Hid (Tbl n1 L (W (Ed l m) 0)) := by
        have := HT.out
        rwa [List.take_of_length_le (by rw [HL2.out]; exact Nat.le_refl _)] at this
      clear HT q2
      go_wp2_with fail
      go_loopw [7] (fun s7 wr => ∃ (kk : Nat) (L : List Nat), kk ≤ n1 ∧ s7 = .int .i64 kk ∧ Row g W0 wr g n1 L ∧ Hid (Tbl n1 L (W (Ed l m) kk))) (fun s7 _ => n1 - (intOf s7).toNat)
      case atStart => exact ⟨0, L, Nat.zero_le _, rfl, HR.out, HT2⟩
      case round =>
        clear HT2 HR HBL
        obtain ⟨kk, L, hkk, rfl, hR, HT⟩ := hrel
        by_cases hlt2 : kk < n1
        · have hkkn : (kk : Int) < (n1 : Int) := by omega
          have hkk0 : (0 : Int) ≤ (kk : Int) := by omega
          have HT2 : Hid (Tbl n1 L (Mid (Ed l m) kk 0)) := HT.out.imp (fun r s _ _ => by unfold Mid; rw [if_neg (by omega)])
          have HR := Lib.hid hR
          clear HT hR
          go_wp2_with fail
          go_loopw [8] (fun s8 wr => ∃ (i : Nat) (L : List Nat), i ≤ n1 ∧ s8 = .int .i64 i ∧ Row g W0 wr g n1 L ∧ Hid (Tbl n1 L (Mid (Ed l m) kk i))) (fun s8 _ => n1 - (intOf s8).toNat)
          case atStart => exact ⟨0, L, Nat.zero_le _, rfl, HR.out, HT2⟩
          case round =>
            clear HT2 HR
            obtain ⟨i, L, hi, rfl, hR, HT⟩ := hrel
            by_cases hlt3 : i < n1
            · have hin : (i : Int) < (n1 : Int) := by omega
              have hi00 : (0 : Int) ≤ (i : Int) := by omega
              obtain ⟨x, hx⟩ := hR.at hlt3
              obtain ⟨y, hy⟩ := hR.at hlt2
              have hx10 := bd hn1 (HT.out.bd i x hx)
              have hy10 := bd hn1 (HT.out.bd kk y hy)
              have f1 := hR.cell hx
              have f2 := hR.cell hy
              have f3 := hR.frozen i
              have hbit := bit_eq x kk hx10
              have hxb : x.testBit kk = true ↔ W (Ed l m) kk i kk := (HT.out.bit i x kk hx hlt2).trans (by unfold Mid; rw [if_neg (by omega)])
              have HXB := Lib.hid hxb
              clear hxb
              cases hb : x.testBit kk with
              | true =>
                rw [hb] at hbit
                have hw := HXB.out.1 hb
                have HT2 : Hid (Tbl n1 (L.set i (x ||| y)) (Mid (Ed l m) kk (i + 1))) := (HT.out.set hx (HT.out.bd kk y hy)).imp (fun r s _ hs => by
                  rw [mid_hit hw, HT.out.bit kk y s hy hs, mid_row])
                have hor := i64_or x y hx10 hy10
                have hbd := (Below.refl wr.heap.size wr).drew
                have HR2 := Lib.hid ((hR.quiet (by have := hR.2.2.2.size; rw [HGG.out] at this; exact this) hbd).set i (x ||| y))
                clear hb hw hR hx hy hbd
                go_wp2_with fail
                go_region
                go_wp2_with fail
                exact ⟨⟨i + 1, _, by omega, by go_num, HR2.out, HT2⟩, by simp [intOf]; omega⟩
              | false =>
                rw [hb] at hbit
                have hw : ¬ W (Ed l m) kk i kk := fun h => by have := HXB.out.2 h; rw [hb] at this; cases this
                have HT2 : Hid (Tbl n1 L (Mid (Ed l m) kk (i + 1))) := HT.out.imp (fun r s _ _ => (mid_miss hw).symm)
                have HR2 := Lib.hid hR
                clear hb hw hR hx hy
                go_wp2_with fail
                exact ⟨⟨i + 1, L, by omega, by go_num, HR2.out, HT2⟩, by simp [intOf]; omega⟩
            · obtain rfl : i = n1 := by omega
              have hin : ¬ (i : Int) < (i : Int) := by omega
              have HT2 : Hid (Tbl i L (W (Ed l m) (kk + 1))) := HT.out.imp (fun r s hr _ => by unfold Mid; rw [if_pos hr])
              have HR2 := Lib.hid hR
              clear HT hR
              go_wp2_with fail
              exact ⟨⟨kk + 1, L, by omega, by go_num, HR2.out, HT2⟩, by simp [intOf]; omega⟩
        · obtain rfl : kk = n1 := by omega
          have hkkn : ¬ (kk : Int) < (kk : Int) := by omega
          have HR := Lib.hid hR
          clear hR
          go_wp2_with fail
          go_ret
          exact ⟨g, L, rfl, by rw [← HGG.out]; exact HB.out.size, HR.out.holds, HT.out, HB.out.trans (by have := HR.out.2.2.2; rw [← HGG.out] at this; exact this.mono HB.out.size)⟩
end Go.Proofs.Ytmjhgjlnpnkmkaa.Table
