/- The model's l7Order and OrderPhases. -/
import Derived.Test.YtbdplgcdnpcnfaaExactOrderPhasesSaidPartbg
import Derived.Deep.LoopGhost
namespace Go.Proofs.Ytbdplgcdnpcnfaa.OpO
open Go.RowKit Pairs Rec RecEq Keep GivesI Chain Find2 GoodM Lows Order Bit Table Idx IsLater OrdM OrdN Ph GpM GpB GpC GpI GpS GpP OpM OpR OpI OpA
theorem k0_at {n k : Nat} (h : k < n) : (K0 n)[k]? = some (k : Int) := by
  unfold K0
  rw [List.getElem?_map, List.getElem?_range h]
  rfl
theorem k0_len (n : Nat) : (K0 n).length = n := by unfold K0; simp
theorem in_snoc (O : List Int) (f : Int) : (fun x => inM (O ++ [f]) x) = fun x => (fun y => inM O y) x || x == f := by
  funext x
  rw [Bool.eq_iff_iff, inM_iff, Bool.or_eq_true, inM_iff, List.mem_append]
  simp
theorem bit_is {e : Nat → Nat → Bool} {n : Nat} {T : List Nat} (TT : Tbl n T (fun i j => e i j = true)) {k i t : Nat} (ht : T[k]? = some t) (hi : i < n) : t.testBit i = e k i := by
  rw [Bool.eq_iff_iff]
  exact TT.bit k t i ht hi
/-- The search for the next phase: none so far, or found. -/
def Sr (e : Nat → Nat → Bool) (n : Nat) (O : List Int) (i : Nat) (nx : Int) : Prop :=
  (nx = -1 ∧ ∀ j : Nat, j < i → rdy (rel0 e) (K0 n) (fun x => inM O x) (j : Int) = false) ∨ ∃ f : Nat, nx = (f : Int) ∧ f < n ∧ (K0 n).find? (rdy (rel0 e) (K0 n) (fun x => inM O x)) = some (f : Int)
set_option maxRecDepth 100000 in
set_option maxHeartbeats 16000000 in
theorem order_any (gA n c : Nat) (T : List Nat) (e : Nat → Nat → Bool) (w : World) (hn : n ≤ 6) (hT : HoldsI w (some ⟨gA, 0, none⟩) n (intsN T)) (TT : Tbl n T (fun i j => e i j = true)) :
    Calls Try.prog 50 #[.slice (some ⟨gA, 0, none⟩) n c] w (That.ResL (outP e n) w) := by
  obtain ⟨i0, hi0, hy0, hy1, hy2⟩ := info_parts That.infoInt
  have hb0 := below_alloc w (.cells #[] 3)
  have ho0 := That.empty_own (T := 3) w
  have HT := Lib.hid hT
  have HTT := Lib.hid TT
  have HG0 : Hid (That.G1 w.heap.size w (w.alloc (.cells #[] 3)) (.slice (some ⟨w.heap.size, 0, none⟩) 0 0) []) := ⟨ho0, hb0⟩
  clear hT TT hb0 ho0
  go_enter Try.func50, Try.ntmps50
  go_wp2_with fail
  generalize w.alloc (.cells #[] 3) = W1 at *
  go_loopg [3] n (fun kx s3 wr => ∃ O : List Int, n - O.length ≤ kx ∧ O.length ≤ n ∧ Hid (That.G1 w.heap.size w wr s3 O) ∧ Hid (O ++ ordD (rel0 e) (K0 n) (n - O.length) (fun x => inM O x) = outP e n))
  case atStart => exact ⟨[], by simp, Nat.zero_le _, HG0, rfl⟩
  case round =>
    clear HG0
    rename World => wo
    obtain ⟨O, hgk, hO, HG, HE⟩ := hrel
    obtain ⟨p, d, hv⟩ := From.own_form HG.out.1
    subst hv
    have HR := Lib.hid (holds_own HG.out.1)
    have HTo := Lib.hid (HT.out.below HG.out.2)
    by_cases hlt : O.length < n
    · have hlti : (O.length : Int) < (n : Int) := by omega
      go_wp2_with fail
      go_loop [4, 5] (fun s4 s5 => ∃ (i : Nat) (nx : Int), i ≤ n ∧ s5 = .int .i64 i ∧ s4 = .int .i64 nx ∧ Hid (Sr e n O i nx)) (fun _ s5 => n - (intOf s5).toNat)
      case atStart => exact ⟨0, -1, Nat.zero_le _, rfl, rfl, .inl ⟨rfl, fun j hj => by omega⟩⟩
      case round =>
        obtain ⟨i, nx, hi, rfl, rfl, HSr⟩ := hrel
        rcases HSr.out with ⟨rfl, hall⟩ | ⟨f, rfl, hfn, hfind⟩
        · have HALL := Lib.hid hall
          clear hall HSr
          by_cases hit : i < n
          · have hii : (i : Int) < (n : Int) := by omega
            have hi00 : (0 : Int) ≤ (i : Int) := by omega
            have cI := l1Has_any p O.length d O (i : Int) (by omega) wo HR.out
            have hz0 := rdk_zero (rel0 e) (K0 n) (fun x => inM O x) (i : Int)
            have HZ0 : Hid (rdk (rel0 e) (K0 n) (fun x => inM O x) (i : Int) 0 = !inM O (i : Int)) := hz0
            generalize inM O (i : Int) = bI at *
            have CI := Lib.hid cI
            clear cI hz0
            go_wp2_with fail
            refine CI.out.mono ?_
            rintro e' w' ⟨rfl, hw⟩
            have hw2 := hw.symm
            subst hw2
            clear hw CI
            go_wp2_with fail
            go_loop [6, 7] (fun s6 s7 => ∃ (k : Nat) (r : Bool), k ≤ n ∧ s7 = .int .i64 k ∧ s6 = .bool r ∧ Hid (r = rdk (rel0 e) (K0 n) (fun x => inM O x) (i : Int) k)) (fun _ s7 => n - (intOf s7).toNat)
            case atStart => exact ⟨0, !bI, Nat.zero_le _, rfl, rfl, HZ0.out.symm⟩
            case round =>
              obtain ⟨k, r, hk, rfl, rfl, HRr⟩ := hrel
              by_cases hkt : k < n
              · have hki : (k : Int) < (n : Int) := by omega
                have hk0 : (0 : Int) ≤ (k : Int) := by omega
                obtain ⟨bb, oo, zz, hp, hzz, f6⟩ := HTo.out.at k hkt
                obtain ⟨t, ht, rfl⟩ := row_at hzz
                injection hp with hp
                injection hp with hp1 hp2
                subst hp1 hp2
                rw [Nat.zero_add] at f6
                have ht10 := bd (by omega : n ≤ 10) (HTT.out.bd k t ht)
                have hl4 := l4Bit_any t i ht10 (by omega)
                rw [bit_is HTT.out ht hit] at hl4
                have HNX := Lib.hid (rdk_next (rel := rel0 e) (D := fun x => inM O x) (n := (i : Int)) (k0_at hkt))
                have HRL : Hid (rel0 e (k : Int) (i : Int) = e k i) := by unfold Hid rel0; simp
                have cK := l1Has_any p O.length d O (k : Int) (by omega) wo HR.out
                clear hzz ht
                cases hek : e k i with
                | false =>
                  simp only [hek] at hl4
                  have CL := Lib.hid hl4
                  have HR2 : Hid (r = rdk (rel0 e) (K0 n) (fun x => inM O x) (i : Int) (k + 1)) := by unfold Hid; rw [HNX.out, ← HRr.out, HRL.out, hek]; simp
                  clear hl4 hek cK HNX HRr
                  go_wp2_with fail
                  refine (CL.out _).mono ?_
                  rintro e' w' ⟨rfl, hw⟩
                  have hw2 := hw.symm
                  subst hw2
                  clear hw CL
                  go_wp2_with fail
                  go_round
                  case rel => exact ⟨k + 1, r, by omega, by go_num, rfl, HR2⟩
                  case measure => simp [intOf]; omega
                | true =>
                  simp only [hek] at hl4
                  have CL := Lib.hid hl4
                  cases hik : inM O (k : Int) with
                  | true =>
                    rw [hik] at cK
                    have CK := Lib.hid cK
                    have HR2 : Hid (r = rdk (rel0 e) (K0 n) (fun x => inM O x) (i : Int) (k + 1)) := by unfold Hid; rw [HNX.out, ← HRr.out, HRL.out, hek]; simp [hik]
                    clear hl4 hek hik cK HNX HRr
                    go_wp2_with fail
                    refine (CL.out _).mono ?_
                    rintro e' w' ⟨rfl, hw⟩
                    have hw2 := hw.symm
                    subst hw2
                    clear hw CL
                    go_wp2_with fail
                    refine CK.out.mono ?_
                    rintro e' w' ⟨rfl, hw⟩
                    have hw2 := hw.symm
                    subst hw2
                    clear hw CK
                    go_wp2_with fail
                    go_round
                    case rel => exact ⟨k + 1, r, by omega, by go_num, rfl, HR2⟩
                    case measure => simp [intOf]; omega
                  | false =>
                    rw [hik] at cK
                    have CK := Lib.hid cK
                    have HR2 : Hid (false = rdk (rel0 e) (K0 n) (fun x => inM O x) (i : Int) (k + 1)) := by unfold Hid; rw [HNX.out, HRL.out, hek]; simp [hik]
                    clear hl4 hek hik cK HNX HRr
                    go_wp2_with fail
                    refine (CL.out _).mono ?_
                    rintro e' w' ⟨rfl, hw⟩
                    have hw2 := hw.symm
                    subst hw2
                    clear hw CL
                    go_wp2_with fail
                    refine CK.out.mono ?_
                    rintro e' w' ⟨rfl, hw⟩
                    have hw2 := hw.symm
                    subst hw2
                    clear hw CK
                    go_wp2_with fail
                    go_round
                    case rel => exact ⟨k + 1, false, by omega, by go_num, rfl, HR2⟩
                    case measure => simp [intOf]; omega
              · obtain rfl : k = n := by omega
                have hki : ¬ (k : Int) < (k : Int) := by omega
                have HRD : Hid (r = rdy (rel0 e) (K0 k) (fun x => inM O x) (i : Int)) := by
                  unfold Hid
                  rw [HRr.out, ← rdk_end, k0_len]
                cases r with
                | true =>
                  have HS2 : Hid (Sr e k O (i + 1) (i : Int)) := .inr ⟨i, rfl, hit, find_at (fun j y hj hy => by rw [k0_at (by omega)] at hy; injection hy with hy; rw [← hy]; exact HALL.out j hj) (k0_at hit) HRD.out.symm⟩
                  go_wp2_with fail
                  go_round
                  case rel => exact ⟨i + 1, (i : Int), by omega, by go_num, rfl, HS2⟩
                  case measure => simp [intOf]; omega
                | false =>
                  have HS2 : Hid (Sr e k O (i + 1) (-1)) := .inl ⟨rfl, fun j hj => by
                    by_cases ej : j = i
                    · rw [ej]; exact HRD.out.symm
                    · exact HALL.out j (by omega)⟩
                  go_wp2_with fail
                  go_round
                  case rel => exact ⟨i + 1, -1, by omega, by go_num, rfl, HS2⟩
                  case measure => simp [intOf]; omega
          · obtain rfl : i = n := by omega
            have hii : ¬ (i : Int) < (i : Int) := by omega
            have HOUT : Hid (O = outP e i) := by
              unfold Hid
              rw [← HE.out, ordD_none (find_no (fun j y hj hy => by rw [k0_len] at hj; rw [k0_at hj] at hy; injection hy with hy; rw [← hy]; exact HALL.out j hj)), List.append_nil]
            go_wp2_with fail
            go_ret
            rw [← HOUT.out]
            exact ⟨p, _, d, rfl, HG.out.1, by omega, HG.out.2⟩
        · have HEN : Hid ((O ++ [(f : Int)]) ++ ordD (rel0 e) (K0 n) (n - (O ++ [(f : Int)]).length) (fun x => inM (O ++ [(f : Int)]) x) = outP e n) := by
            unfold Hid
            have h1 := HE.out
            obtain ⟨q, hq⟩ : ∃ q, n - O.length = q + 1 := ⟨n - O.length - 1, by omega⟩
            rw [hq, ordD_next hfind] at h1
            rw [List.length_append, List.length_singleton, show n - (O.length + 1) = q by omega, in_snoc, List.append_assoc]
            exact h1
          have hf0 : (0 : Int) ≤ (f : Int) := by omega
          have hf0n : ¬ (f : Int) < 0 := by omega
          have HEX := Lib.hid hfind
          clear hfind HSr
          by_cases hit : i < n
          · have hii : (i : Int) < (n : Int) := by omega
            obtain ⟨i0', hi0'⟩ : ∃ q : Nat, q = i := ⟨i, rfl⟩
            clear hi0'
            clear HEX
            have hown := HG.out.1
            have hge := HG.out.2.size
            go_wp2_with (at_builtin; refine wpList_append_own _ rfl _ _ 43 rfl w.heap.size 3 i0 (.int .i64 0) 1 8 Try.underlying43 hi0 hy0 hy1 hy2 rfl (by decide) _ _ _ rfl (hown.alloc _) ⟨wo.heap.size, 0, none⟩ 1 1 [.int .i64 (f : Int)] rfl rfl (cell_one_new _ _ _) (by simp [Value.oneCell']) (by unfold maxLen; omega) (by omega) (by simp; omega) ?_; intro v' w9 hown' hgrow hnil)
            have hG : That.G1 w.heap.size w w9 v' (O ++ [(f : Int)]) := by
              unfold That.G1
              rw [List.length_append, That.ints_append]
              exact ⟨hown', (HG.out.2.alloc hge _).grown hgrow (by simp; omega) (fun j hj => (hown.lt j hj).1)⟩
            have HG2 := Lib.hid hG
            clear hG hown' hgrow hown hnil
            go_roundg (n - (O.length + 1))
            case measure => omega
            case rel => exact ⟨O ++ [(f : Int)], by rw [List.length_append]; simp, by rw [List.length_append]; simp; omega, HG2, HEN⟩
          · have hii : ¬ (i : Int) < (n : Int) := by omega
            clear HEX
            have hown := HG.out.1
            have hge := HG.out.2.size
            go_wp2_with (at_builtin; refine wpList_append_own _ rfl _ _ 43 rfl w.heap.size 3 i0 (.int .i64 0) 1 8 Try.underlying43 hi0 hy0 hy1 hy2 rfl (by decide) _ _ _ rfl (hown.alloc _) ⟨wo.heap.size, 0, none⟩ 1 1 [.int .i64 (f : Int)] rfl rfl (cell_one_new _ _ _) (by simp [Value.oneCell']) (by unfold maxLen; omega) (by omega) (by simp; omega) ?_; intro v' w9 hown' hgrow hnil)
            have hG : That.G1 w.heap.size w w9 v' (O ++ [(f : Int)]) := by
              unfold That.G1
              rw [List.length_append, That.ints_append]
              exact ⟨hown', (HG.out.2.alloc hge _).grown hgrow (by simp; omega) (fun j hj => (hown.lt j hj).1)⟩
            have HG2 := Lib.hid hG
            clear hG hown' hgrow hown hnil
            go_roundg (n - (O.length + 1))
            case measure => omega
            case rel => exact ⟨O ++ [(f : Int)], by rw [List.length_append]; simp, by rw [List.length_append]; simp; omega, HG2, HEN⟩
    · have hlti : ¬ (O.length : Int) < (n : Int) := by omega
      have HOUT : Hid (O = outP e n) := by
        unfold Hid
        rw [← HE.out, show n - O.length = 0 by omega]
        exact (List.append_nil _).symm
      go_wp2_with fail
      go_ret
      rw [← HOUT.out]
      exact ⟨p, _, d, rfl, HG.out.1, by omega, HG.out.2⟩
end Go.Proofs.Ytbdplgcdnpcnfaa.OpO
/- The model's OrderPhases. -/
namespace Go.Proofs.Ytbdplgcdnpcnfaa.OpS
open Go.RowKit Pairs Rec RecEq Keep GivesI Chain Find2 GoodM OrdM Ph GpM GpI GpS GpP OpM OpR OpI OpA OpO
set_option maxRecDepth 100000 in
set_option maxHeartbeats 8000000 in
theorem spec_any (a1 a2 : Option Addr) (n1 c1 n2 c2 : Nat) (l m : Ps) (p : Option Addr) (n : Nat) (L : List Pt) (w : World) (hz1 : n1 ≤ 1048576) (_hz2 : n2 ≤ 1048576) (h1 : Holds w a1 n1 l) (h2 : Holds w a2 n2 m) (hn : n ≤ 1048576) (h : HoldsP w p n L) (hS : Sm L 1048576) :
    Calls Try.prog 25 #[.agg #[.slice a1 n1 c1, .slice a2 n2 c2], .slice p n n] w (GivesI.Res (opP l m L).isSome ((opP l m L).getD []) w) := by
  have hb := below_alloc w (.cells #[.slice a1 n1 c1, .slice a2 n2 c2] 33)
  have hf := box_first w (.slice a1 n1 c1) (.slice a2 n2 c2) 33
  have hf2 := box_second w (.slice a1 n1 c1) (.slice a2 n2 c2) 33
  have hsz : w.heap.size < (w.alloc (.cells #[.slice a1 n1 c1, .slice a2 n2 c2] 33)).heap.size := by simp
  have H1 := Lib.hid (h1.below hb)
  have H2 := Lib.hid (h2.below hb)
  have HH := Lib.hid (h.below hb)
  have HL := Lib.hid h.1
  have HS := Lib.hid hS
  have HB := Lib.hid hb
  clear h h1 h2 hS hb
  go_enter Try.func25, Try.ntmps25
  go_wp2_with fail
  generalize w.alloc (.cells #[.slice a1 n1 c1, .slice a2 n2 c2] 33) = W at *
  refine (l7Good_any a1 a2 n1 c1 n2 c2 l m p n n L W hz1 hn HS.out H1.out H2.out HH.out).mono ?_
  rintro e w1 ⟨rfl, b1⟩
  have g1 := (b1.cell (p := ⟨w.heap.size, 0, none⟩) hsz).trans hf
  have g2 := (b1.cell (p := ⟨w.heap.size, 1, none⟩) hsz).trans hf2
  have HB1 := Lib.hid (HB.out.trans (b1.mono HB.out.size))
  have K1 := Lib.hid (H1.out.below b1)
  have K2 := Lib.hid (H2.out.below b1)
  have KH := Lib.hid (HH.out.below b1)
  clear b1 hf hf2 H1 H2 HH
  cases hg : grp l m L with
  | false =>
    have HE := Lib.hid (op_no hg)
    have HO := Lib.hid (That.empty_own (T := 3) w1)
    have HBE := Lib.hid (HB1.out.trans ((below_alloc w1 (.cells #[] 3)).mono HB1.out.size))
    clear hg
    go_wp2_with fail
    go_ret2
    exact ⟨_, 0, 0, by rw [HE.out]; rfl, by rw [HE.out]; exact ownsRow_base HO.out HB1.out.size, by omega, HBE.out⟩
  | true =>
    have HG := Lib.hid hg
    have hn6 : n ≤ 6 := by
      have hg2 := hg
      unfold grp at hg2
      rw [Bool.and_eq_true] at hg2
      rw [← HL.out]
      exact (gp_iff.1 hg2.2).1
    clear hg
    go_wp2_with fail
    refine (above_any a1 a2 n1 c1 n2 c2 l m p n n L w1 HG.out K1.out K2.out KH.out HS.out).mono ?_
    rintro e w2 ⟨g, T, rfl, hgg, hT, TT, b2⟩
    have HB2 := Lib.hid (HB1.out.trans (b2.mono HB1.out.size))
    have HT := Lib.hid hT
    have HTT := Lib.hid TT
    clear b2 g1 g2 hT TT hgg
    go_wp2_with fail
    refine (order_any g n n T (ePh m L) w2 hn6 HT.out HTT.out).mono ?_
    rintro e w3 ⟨pr, k, d, rfl, hown, hk, b3⟩
    have HB3 := Lib.hid (HB2.out.trans (b3.mono HB2.out.size))
    have HK : Hid ((outP (ePh m L) n).length = k) := by have := hown.1; rw [ints_len] at this; unfold Hid; omega
    have HO := Lib.hid hown
    have HLE := HL.out
    clear hown b3
    by_cases hfull : k < n
    · have hki : (k : Int) < (n : Int) := by omega
      have HE : Hid (opP l m L = none) := by
        refine op_cyc (fun h => ?_)
        rw [HLE, HK.out] at h
        omega
      have HOE := Lib.hid (That.empty_own (T := 3) w3)
      have HBE := Lib.hid (HB3.out.trans ((below_alloc w3 (.cells #[] 3)).mono HB3.out.size))
      clear HLE
      go_wp2_with fail
      go_ret2
      exact ⟨_, 0, 0, by rw [HE.out]; rfl, by rw [HE.out]; exact ownsRow_base HOE.out HB3.out.size, by omega, HBE.out⟩
    · have hki : ¬ (k : Int) < (n : Int) := by omega
      have hkn : (outP (ePh m L) n).length = n := by
        have := ordD_len (rel := rel0 (ePh m L)) (K := K0 n) n (fun _ => false)
        have h2 := HK.out
        unfold outP at h2 ⊢
        omega
      have HE : Hid (opP l m L = some (outP (ePh m L) n)) := by
        unfold Hid
        rw [← HLE] at hkn ⊢
        exact op_yes HG.out hkn
      clear HLE hkn
      generalize outP (ePh m L) n = OO at *
      go_wp2_with fail
      go_ret2
      exact ⟨pr, k, d, by rw [HE.out]; rfl, by rw [HE.out]; exact ownsRow_base HO.out HB2.out.size, hk, HB3.out⟩
end Go.Proofs.Ytbdplgcdnpcnfaa.OpS
