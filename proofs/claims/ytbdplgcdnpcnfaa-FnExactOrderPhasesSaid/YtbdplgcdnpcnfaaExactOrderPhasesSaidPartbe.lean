/- The program's ContextOrder. -/
import Derived.Test.YtbdplgcdnpcnfaaExactOrderPhasesSaidPartbd
import Derived.Test.YtbdplgcdnpcnfaaExactOrderPhasesSaidPartas
import Derived.Test.YtbdplgcdnpcnfaaExactOrderPhasesSaidPartao
import Derived.Test.YtbdplgcdnpcnfaaExactOrderPhasesSaidPartar
namespace Go.Proofs.Ytbdplgcdnpcnfaa.CtxOrd
open Go.RowKit Pairs Rec Chain Find2 GoodM Keep GivesI Lows Order Idx That IsLater Consist OrdM CtxRd
theorem true_any (args : Array Value) (hs : args.size = 1) (W : World) : Calls Try.prog 82 args W fun e w' => e = .returned (.bool true) ∧ Below W.heap.size W w' := by
  obtain ⟨x, rfl⟩ : ∃ x, args = #[x] := by
    match args, hs with
    | ⟨[x]⟩, _ => exact ⟨x, rfl⟩
  go_enter Try.func82, Try.ntmps82
  go_wp2_with fail
  go_ret
  exact ⟨rfl, Below.refl _ _⟩
theorem clos1_any (x n : Int) (bo bn bx : Nat) (l m : Ps) (W : World) (c1 : W.cell? ⟨bo, 0, none⟩ = some (.func (.func 90) #[] #[.pointer (some ⟨bx, 0, none⟩)])) (c2 : W.cell? ⟨bn, 0, none⟩ = some (.int .i64 n)) (h : IsOrd W l m bx) (hx : x ∈ keys l) (hrx : -1000000 ≤ x ∧ x ≤ 1000000) (hrn : -1000000 ≤ n ∧ n ≤ 1000000) :
    Calls Try.prog 86 #[.int .i64 x, .pointer (some ⟨bo, 0, none⟩), .pointer (some ⟨bn, 0, none⟩)] W fun e w' => e = .returned (.bool (later m x n)) ∧ Below W.heap.size W w' := by
  have HI := Lib.hid h
  have HX := Lib.hid hx
  clear h hx
  go_enter Try.func86, Try.ntmps86
  go_wp2_with fail
  refine (isLater_any bx l m x n W HI.out HX.out (by omega) (by omega)).mono ?_
  rintro e w' ⟨rfl, rfl⟩
  go_wp2_with fail
  go_ret
  exact ⟨rfl, Below.refl _ _⟩
def InL (l : Ps) (L : List Int) : Prop := ∀ x ∈ L, x ∈ keys l ∧ (1 ≤ x ∧ x ≤ 999)
theorem clos2_any (n : Int) (bl bo bx : Nat) (l m : Ps) (p : Option Addr) (k d : Nat) (L : List Int) (W : World) (hk : k ≤ 1048576) (c0 : W.cell? ⟨bl, 0, none⟩ = some (.slice p k d)) (hL : HoldsI W p k L) (hin : InL l L)
    (c1 : W.cell? ⟨bo, 0, none⟩ = some (.func (.func 90) #[] #[.pointer (some ⟨bx, 0, none⟩)])) (h : IsOrd W l m bx) (hrn : -1000000 ≤ n ∧ n ≤ 1000000) :
    Calls Try.prog 84 #[.int .i64 n, .pointer (some ⟨bl, 0, none⟩), .pointer (some ⟨bo, 0, none⟩)] W fun e w' => e = .returned (.bool (!L.any (fun x => later m x n))) ∧ Below W.heap.size W w' := by
  have hb := below_alloc W (.cells #[.int .i64 n] 3)
  have hlo := World.block_lt_of_cell? W _ c1
  have d0 := (hb.cell (p := ⟨bl, 0, none⟩) (World.block_lt_of_cell? W _ c0)).trans c0
  have d1 := (hb.cell (p := ⟨bo, 0, none⟩) hlo).trans c1
  have d2 : (W.alloc (.cells #[.int .i64 n] 3)).cell? ⟨W.heap.size, 0, none⟩ = some (.int .i64 n) := by
    rw [World.cell?_alloc_mark]
    rfl
  have hsn : W.heap.size < (W.alloc (.cells #[.int .i64 n] 3)).heap.size := by simp
  have HI := Lib.hid (h.below hb)
  have HL := Lib.hid (hL.below hb)
  have HN := Lib.hid hin
  have HB := Lib.hid hb
  have D1 := Lib.hid d1
  have D2 := Lib.hid d2
  have hlo2 := Nat.lt_trans hlo hsn
  clear h hL hin hb c0 c1
  go_enter Try.func84, Try.ntmps84
  go_wp2_with fail
  generalize W.alloc (.cells #[.int .i64 n] 3) = Z at *
  refine (FuncI.contains_any 86 #[.pointer (some ⟨bo, 0, none⟩), .pointer (some ⟨W.heap.size, 0, none⟩)] (fun x => later m x n) p k d L Z hk HL.out (fun args W => FuncI.call_enter Try.func86 (by kernel_rfl) rfl args W) (fun x wr hx hwr => ?_)).mono ?_
  · have hq := HN.out x hx
    exact clos1_any x n bo W.heap.size bx l m wr ((hwr.cell (p := ⟨bo, 0, none⟩) hlo2).trans D1.out) ((hwr.cell (p := ⟨W.heap.size, 0, none⟩) hsn).trans D2.out) (HI.out.below hwr) hq.1 (by omega) hrn
  rintro e w' ⟨rfl, b2⟩
  have HB2 := Lib.hid (HB.out.trans (b2.mono HB.out.size))
  generalize hA : L.any (fun x => later m x n) = bb
  have HA := Lib.hid hA
  clear b2 hA
  go_wp2_with fail
  go_ret
  exact ⟨by rw [HA.out]; rfl, HB2.out⟩
def lenOf : Value → Nat
  | .slice _ n _ => n
  | _ => 0
theorem own_slice {w : World} {B n : Nat} {e : TypeId} {s : Nat} {v : Value} {xs : List Value} (h : w.ownsRow B e s v n xs) : ∃ p d, v = .slice p n d := by
  rcases h.2 with ⟨hv, hn⟩ | ⟨g, cap, cur, hv, _⟩
  · subst hn
    exact ⟨none, 0, hv⟩
  · exact ⟨_, cap, hv⟩
theorem own_block {w : World} {B n : Nat} {e : TypeId} {s : Nat} {v : Value} {xs : List Value} (h : w.ownsRow B e s v n xs) (hn : 0 < n) : ∃ g d, v = .slice (some ⟨g, 0, none⟩) n d := by
  rcases h.2 with ⟨hv, h0⟩ | ⟨g, cap, cur, hv, _⟩
  · omega
  · exact ⟨g, cap, hv⟩
theorem sel_all (l : Ps) : sel (fun _ => true) l = keys l := by
  unfold sel keys
  rw [List.filter_eq_self.2 (fun _ _ => rfl)]
theorem lft_in {l m : Ps} (hg : good l m = true) (D : Int → Bool) : InL l (lft (keys l) D) := by
  intro x hx
  have hk := (List.mem_filter.1 hx).1
  refine ⟨hk, ?_⟩
  obtain ⟨i, hi⟩ := Option.isSome_iff_exists.1 (isAt_keys.2 hk)
  exact rng_at hg hi
/-- Behind some rounds: O is done, and D says so. -/
def St (l m : Ps) (n1 : Nat) (O : List Int) (D : Int → Bool) : Prop := O ++ ordD (later m) (keys l) (lft (keys l) D).length D = orderL l m ∧ O.length + (lft (keys l) D).length = n1
theorem st_start {l m : Ps} : St l m l.length [] (fun _ => false) := by
  unfold St orderL
  rw [lft_all]
  unfold keys
  simp
theorem st_next {l m : Ps} {n1 : Nat} {O : List Int} {D : Int → Bool} (hg : good l m = true) (hc : (l.any fun p => later m p.1 p.1) = false) (h : St l m n1 O D) (hpos : 0 < (lft (keys l) D).length) :
    ∃ (n : Int) (i : Nat), FuncI.ix (fun n => !(lft (keys l) D).any (fun x => later m x n)) (lft (keys l) D) = (i : Int) ∧ i < (lft (keys l) D).length ∧ (lft (keys l) D)[i]? = some n ∧
      (lft (keys l) D).eraseIdx i = lft (keys l) (fun x => D x || x == n) ∧ St l m n1 (O ++ [n]) (fun x => D x || x == n) := by
  have hK := keys_nodup hg
  obtain ⟨x, hx⟩ : ∃ x, x ∈ lft (keys l) D := by
    cases e : lft (keys l) D with
    | nil => rw [e] at hpos; exact absurd hpos (Nat.lt_irrefl _)
    | cons a t => exact ⟨a, List.mem_cons_self ..⟩
  obtain ⟨hxK, hxD⟩ := List.mem_filter.1 hx
  obtain ⟨n, hn⟩ := find_some (rel := later m) (fun a b c h1 h2 => later_trans a b c h1 h2) (irrefl hc) _ x hxK (by simpa using hxD) (Nat.le_refl _)
  have hf := hn
  rw [← left_find] at hf
  obtain ⟨i, h1, h2, h3⟩ := ix_find hf
  obtain ⟨f, hff⟩ : ∃ f, (lft (keys l) D).length = f + 1 := ⟨(lft (keys l) D).length - 1, by omega⟩
  have hlen := len_pred hK h3 hff
  refine ⟨n, i, h1, h2, h3, lft_next hK h3, ?_, ?_⟩
  · have h4 := h.1
    rw [hff, ordD_next hn] at h4
    rw [hlen, List.append_assoc]
    exact h4
  · have h5 := h.2
    rw [hlen, List.length_append, List.length_singleton]
    omega
theorem rd_start {W3 W4 w5 : World} {p : Option Addr} {k d : Nat} {K : List Int} (hE : Below W3.heap.size W3 W4) (hs : W3.heap.size < W4.heap.size) (ho : W4.ownsRow W3.heap.size 3 1 (.slice (some ⟨W3.heap.size, 0, none⟩) 0 0) 0 []) (b5 : Below W4.heap.size W4 w5)
    (hown : w5.ownsRow W4.heap.size 3 1 (.slice p k d) k (ints K)) : Rd W3.heap.size W3 (w5.alloc (.cells #[.slice p k d] 43)) w5.heap.size (.slice (some ⟨W3.heap.size, 0, none⟩) 0 0) (.slice p k d) [] K := by
  have ha := below_alloc w5 (.cells #[.slice p k d] 43)
  have hs5 := b5.size
  have hK : K.length = k := by have := hown.1; rw [ints_len] at this; omega
  have h35 := hE.trans (b5.mono hE.size)
  subst hK
  refine ⟨ownsRow_below (ownsRow_below ho b5) ha, ownsRow_base (ownsRow_below hown ha) (Nat.le_of_lt hs), ?_, fun b hb hl => ?_, fun e => ?_, fun e => ?_, by omega, h35.trans (ha.mono h35.size), by simp; omega⟩
  · show (w5.heap.push _)[w5.heap.size]? = _
    simp
  · have e : W3.heap.size = b := Option.some.inj hb
    have := (hown.lt b hl).1
    omega
  · have e' : W3.heap.size = w5.heap.size := Option.some.inj e
    omega
  · have := (hown.lt _ e).2
    omega
set_option maxRecDepth 100000 in
set_option maxHeartbeats 8000000 in
theorem impl_any : GivesO.Gives 52 orderP := by
  intro a1 a2 n1 n2 l m w hz1 hz2 h1 h2
  obtain ⟨i0, hi, hy0, hy1, hy2⟩ := Rec.info_parts That.infoInt
  have hb := below_alloc w (.cells #[.slice a1 n1 n1, .slice a2 n2 n2] 33)
  have hf := box_first w (.slice a1 n1 n1) (.slice a2 n2 n2) 33
  have hf2 := box_second w (.slice a1 n1 n1) (.slice a2 n2 n2) 33
  have H1 := Lib.hid (h1.below hb)
  have H2 := Lib.hid (h2.below hb)
  have HL1 := Lib.hid h1.1
  have hsz : w.heap.size < (w.alloc (.cells #[.slice a1 n1 n1, .slice a2 n2 n2] 33)).heap.size := by simp
  clear h1 h2
  go_enter Try.func52, Try.ntmps52
  go_wp2_with fail
  generalize w.alloc (.cells #[.slice a1 n1 n1, .slice a2 n2 n2] 33) = W at *
  refine (Consist.impl_any a1 a2 n1 n1 n2 n2 l m W hz1 hz2 H1.out H2.out).mono ?_
  rintro e w1 ⟨rfl, b1⟩
  have r1 := (b1.cell (p := ⟨w.heap.size, 0, none⟩) hsz).trans hf
  have r2 := (b1.cell (p := ⟨w.heap.size, 1, none⟩) hsz).trans hf2
  have hsz1 := Nat.lt_of_lt_of_le hsz b1.size
  have HB1 := Lib.hid (hb.trans (b1.mono hb.size))
  have K1 := Lib.hid (H1.out.below b1)
  have K2 := Lib.hid (H2.out.below b1)
  clear hf hf2 b1 hb
  cases hg : good l m with
  | false =>
    have HE := Lib.hid (ord_bad hg)
    rw [cons_no hg]
    clear hg
    go_wp2_with fail
    go_ret2
    rw [HE.out]
    exact ⟨_, _, _, rfl, ownsRow_base (empty_own w1) HB1.out.size, by omega, HB1.out.trans ((below_alloc _ _).mono HB1.out.size)⟩
  | true =>
    cases hc : (l.any fun p => later m p.1 p.1) with
    | true =>
      have HE := Lib.hid (ord_cyc hg hc)
      rw [cons_yes hg, hc]
      clear hg hc
      go_wp2_with fail
      go_ret2
      rw [HE.out]
      exact ⟨_, _, _, rfl, ownsRow_base (empty_own w1) HB1.out.size, by omega, HB1.out.trans ((below_alloc _ _).mono HB1.out.size)⟩
    | false =>
      have HE := Lib.hid (ord_yes hg hc)
      have HG := Lib.hid hg
      have HC := Lib.hid hc
      have hn1 : n1 ≤ 10 := by rw [← HL1.out]; exact (Table.good_few hg).1
      rw [cons_yes hg, hc]
      clear hg hc
      go_wp2_with fail
      refine (orderOf_any a1 a2 n1 n1 n2 n2 l m w1 HG.out K1.out K2.out).mono ?_
      rintro e w2 ⟨bx, rfl, ho, b2⟩
      have ha := below_alloc w2 (.cells #[.func (.func 90) #[] #[.pointer (some ⟨bx, 0, none⟩)]] 78)
      have b23 := b2.trans (ha.mono b2.size)
      have q1 := (b23.cell (p := ⟨w.heap.size, 0, none⟩) hsz1).trans r1
      have q2 := (b23.cell (p := ⟨w.heap.size, 1, none⟩) hsz1).trans r2
      have q4 : (w2.alloc (.cells #[.func (.func 90) #[] #[.pointer (some ⟨bx, 0, none⟩)]] 78)).cell? ⟨w2.heap.size, 0, none⟩ = some (.func (.func 90) #[] #[.pointer (some ⟨bx, 0, none⟩)]) := by
        rw [World.cell?_alloc_mark]
        rfl
      have s4 : w2.heap.size < (w2.alloc (.cells #[.func (.func 90) #[] #[.pointer (some ⟨bx, 0, none⟩)]] 78)).heap.size := by simp
      have HO := Lib.hid (ho.below ha)
      have HB3 := Lib.hid (HB1.out.trans (b23.mono HB1.out.size))
      have K13 := Lib.hid (K1.out.below b23)
      have Q4 := Lib.hid q4
      have s1 := Nat.lt_of_lt_of_le hsz1 b23.size
      clear ho ha b2 b23 r1 r2
      have hbE := below_alloc (w2.alloc (.cells #[.func (.func 90) #[] #[.pointer (some ⟨bx, 0, none⟩)]] 78)) (.cells #[] 3)
      have hoE := empty_own (T := 3) (w2.alloc (.cells #[.func (.func 90) #[] #[.pointer (some ⟨bx, 0, none⟩)]] 78))
      have HSW : Hid ((w2.alloc (.cells #[.func (.func 90) #[] #[.pointer (some ⟨bx, 0, none⟩)]] 78)).heap.size = w2.heap.size + 1) := by unfold Hid; simp
      have HE0 := Lib.hid hbE
      have HOE := Lib.hid hoE
      have q2' := (hbE.cell (p := ⟨w.heap.size, 0, none⟩) s1).trans q1
      have q3' := (hbE.cell (p := ⟨w.heap.size, 1, none⟩) s1).trans q2
      have K14 := Lib.hid (K13.out.below hbE)
      clear hbE hoE q1 q2
      go_wp2_with fail
      generalize w2.alloc (.cells #[.func (.func 90) #[] #[.pointer (some ⟨bx, 0, none⟩)]] 78) = W3 at *
      have HS34 : Hid (W3.heap.size < (W3.alloc (.cells #[] 3)).heap.size) := by unfold Hid; simp
      generalize W3.alloc (.cells #[] 3) = W4 at *
      refine (that_any 82 #[] (fun _ => true) a1 a2 n1 n1 n2 n2 l W4 hn1 K14.out (fun args W => FuncI.call_enter Try.func82 (by kernel_rfl) rfl args W) (fun x wr hx hwr => true_any _ rfl wr)).mono ?_
      rintro e w5 ⟨p, k, d, rfl, hown, hk, b5⟩
      rw [sel_all] at hown
      have hr0 := rd_start HE0.out HS34.out HOE.out b5 hown
      rw [HSW.out] at hr0
      have HR0 := Lib.hid hr0
      have hn : k ≤ 10 := by
        have h := hown.1
        rw [ints_len] at h
        have e : (keys l).length = l.length := by unfold keys; simp
        rw [e, HL1.out] at h
        omega
      have HST0 : Hid (St l m n1 [] (fun _ => false)) := by
        have h := st_start (l := l) (m := m)
        rw [HL1.out] at h
        exact h
      have hsW := HSW.out
      clear hown b5 hr0
      go_wp2_with fail
      generalize w5.alloc (.cells #[.slice p k d] 43) = W6 at *
      go_loopw [7] (fun s7 wr => ∃ (O : List Int) (D : Int → Bool) (vl : Value), lenOf s7 = O.length ∧ Hid (St l m n1 O D) ∧ Hid (Rd (w2.heap.size + 1) W3 wr w5.heap.size s7 vl O (lft (keys l) D))) (fun s7 _ => n1 - lenOf s7)
      case atStart => exact ⟨[], fun _ => false, _, rfl, HST0, by unfold Hid; rw [lft_all]; exact HR0.out⟩
      case round =>
        clear HR0 HST0
        obtain ⟨O, D, vl, hlen, HT, HD⟩ := hrel
        obtain ⟨p', d', rfl⟩ := own_slice HD.out.lf
        have hcell := HD.out.cell
        have hT2 := HT.out.2
        by_cases hpos : 0 < (lft (keys l) D).length
        · have hposI : (0 : Int) < (((lft (keys l) D).length : Nat) : Int) := by omega
          obtain ⟨n, i, hix, hil, hin, her, hst⟩ := st_next HG.out HC.out HT.out hpos
          obtain ⟨g, d2, hpg⟩ := own_block HD.out.lf hpos
          injection hpg with hpg1 hpg2 hpg3
          subst hpg1 hpg3
          have HIX := Lib.hid hix
          have HIN := Lib.hid hin
          have HER := Lib.hid her
          have HST := Lib.hid hst
          have HRN := Lib.hid ((lft_in HG.out D) n (List.mem_of_getElem? hin))
          have HW3 := Lib.hid HD.out.bel
          have hlo : w2.heap.size < W3.heap.size := by omega
          have HCL : Hid (∀ x wr', x ∈ lft (keys l) D → Below wr.heap.size wr wr' → Calls Try.prog 84 (#[.int .i64 x] ++ #[.pointer (some ⟨w5.heap.size, 0, none⟩), .pointer (some ⟨w2.heap.size, 0, none⟩)]) wr' fun e w' => e = .returned (.bool (!(lft (keys l) D).any (fun y => later m y x))) ∧ Below wr'.heap.size wr' w') := fun x wr' hx hb => by
            have hd := HD.out.below hb
            have hr := (lft_in HG.out D) x hx
            have hbw := hd.bel
            rw [← HSW.out] at hbw
            exact clos2_any x w5.heap.size w2.heap.size bx l m _ _ _ (lft (keys l) D) wr' (by omega) hd.cell (GivesI.holds_own hd.lf) (lft_in HG.out D) ((hbw.cell (p := ⟨w2.heap.size, 0, none⟩) hlo).trans Q4.out) (HO.out.below hbw) (by omega)
          clear hix hin her hst
          go_wp2_with fail
          refine (FuncI.index_any 84 #[.pointer (some ⟨w5.heap.size, 0, none⟩), .pointer (some ⟨w2.heap.size, 0, none⟩)] (fun x => !(lft (keys l) D).any (fun y => later m y x)) (some ⟨g, 0, none⟩) (lft (keys l) D).length d' (lft (keys l) D) wr (by omega) (GivesI.holds_own HD.out.lf) (fun args W => FuncI.call_enter Try.func84 (by kernel_rfl) rfl args W) HCL.out).mono ?_
          rintro e w8 ⟨rfl, b8⟩
          rw [HIX.out]
          have hd8 := HD.out.below b8
          have hord := hd8.ord
          have hcell8 := hd8.cell
          obtain ⟨gb, off, y, hp, hy, hel⟩ := (GivesI.holds_own hd8.lf).at i hil
          injection hp with hp
          injection hp with hp1 hp2
          subst hp1 hp2
          obtain rfl : y = n := by have h := HIN.out; rw [hy] at h; exact Option.some.inj h
          rw [Nat.zero_add] at hel
          have hii : (i : Int) < (((lft (keys l) D).length : Nat) : Int) := by omega
          have hi00 : (0 : Int) ≤ (i : Int) := by omega
          have HD8 := Lib.hid hd8
          have hsz8 := hd8.sz
          have hol := hlen
          clear hy b8 HCL hcell hd8
          go_wp2_with (at_builtin; refine wpList_append_lies _ rfl _ _ 43 rfl (w2.heap.size + 1) 3 i0 (.int .i64 0) 1 8 Try.underlying43 hi hy0 hy1 hy2 rfl (by decide) _ _ _ rfl (hord.alloc _) ⟨w8.heap.size, 0, none⟩ 1 1 [.int .i64 y] rfl rfl (cell_one_new _ _ _) (by simp [Value.oneCell']) (by decide) (by unfold maxLen; omega) (by omega) (by simp; omega) _ rfl ?_; intro g9 cap9 w9 hown9 hgrow9 hat9 hlt9; have HD9 := Lib.hid (HD8.out.app (below_alloc _ _) hown9 hgrow9 hat9 (by simp)); have hcell9 := HD9.out.cell; clear hown9 hgrow9 hat9 hlt9)
          have hl9 : (lft (keys l) D).length - 1 = (lft (keys l) (fun x => D x || x == y)).length := by rw [← HER.out, List.length_eraseIdx, if_pos hil]
          have hdel := DelI.del_any (w2.heap.size + 1) g i _ d' (lft (keys l) D) y w9 (by omega) HD9.out.lf HIN.out
          rw [HER.out, hl9, show ((i + 1 : Nat) : Int) = (i : Int) + 1 from rfl] at hdel
          have HDEL := Lib.hid hdel
          have hcell10 : ∀ w10, Kept (fun b => b = g) w9 w10 → w10.cell? ⟨w5.heap.size, 0, none⟩ = some (.slice (some ⟨g, 0, none⟩) (lft (keys l) D).length d') ∧ w10.frozen? ⟨w5.heap.size, 0, none⟩ = false := fun w10 hk => by
            have hne : ¬ w5.heap.size = g := fun e => HD9.out.ne3 (by rw [e]; rfl)
            exact ⟨hk.cell hcell9 hne, (World.frozen?_of_block (hk.block w5.heap.size HD9.out.blt hne)).trans HD9.out.frozen⟩
          have HC10 := Lib.hid hcell10
          clear hdel hl9 hcell10
          have hnw : (i : Int) + 1 ≤ 10 := by omega
          have hwr : IntKind.i64.wrap ((i : Int) + 1) = (i : Int) + 1 := by rw [IntKind.wrap_i64]; omega
          go_wp2_with fail
          refine HDEL.out.mono ?_
          rintro e w10 ⟨rfl, hown10, hk10⟩
          obtain ⟨z1, z2⟩ := HC10.out w10 hk10
          have HD11 := Lib.hid (HD9.out.del hown10 hk10)
          clear hown10 hk10 HC10 HDEL hcell9
          go_wp2_with fail
          exact ⟨⟨O ++ [y], _, _, by simp [lenOf], HST.out, HD11.out⟩, by simp [lenOf] at *; omega⟩
        · have hposI : ¬ (0 : Int) < (((lft (keys l) D).length : Nat) : Int) := by omega
          have hO : O = orderL l m := by
            have h := HT.out.1
            rw [show (lft (keys l) D).length = 0 by omega] at h
            simpa [ordD] using h
          have HEO : Hid (orderP l m = some O) := by unfold Hid; rw [hO]; exact HE.out
          have HOW := Lib.hid HD.out.ord
          have HBD := Lib.hid (HB3.out.trans ((HSW.out ▸ HD.out.bel : Below W3.heap.size W3 wr).mono HB3.out.size))
          obtain ⟨p2, d2, rfl⟩ := own_slice HD.out.ord
          clear hO HD
          go_wp2_with fail
          go_ret2
          rw [HEO.out]
          exact ⟨_, _, _, rfl, ownsRow_base HOW.out (by omega), by show O.length ≤ _; omega, HBD.out⟩
end Go.Proofs.Ytbdplgcdnpcnfaa.CtxOrd
/- The program's ContextOrder at rows with room to spare. -/
namespace Go.Proofs.Ytbdplgcdnpcnfaa.CtxOrdK
open CtxOrd Go.RowKit Pairs Rec Chain Find2 GoodM Keep GivesI Lows Order Idx That IsLater Consist OrdM CtxRd
set_option maxRecDepth 100000 in
set_option maxHeartbeats 8000000 in
theorem implK_any (a1 a2 : Option Addr) (n1 c1 n2 c2 : Nat) (l m : List (Int × Int)) (w : World) (hz1 : n1 ≤ 1048576) (hz2 : n2 ≤ 1048576) (h1 : Holds w a1 n1 l) (h2 : Holds w a2 n2 m) :
    Calls Try.prog 52 #[.agg #[.slice a1 n1 c1, .slice a2 n2 c2]] w (GivesI.Res (orderP l m).isSome ((orderP l m).getD []) w) := by
  obtain ⟨i0, hi, hy0, hy1, hy2⟩ := Rec.info_parts That.infoInt
  have hb := below_alloc w (.cells #[.slice a1 n1 c1, .slice a2 n2 c2] 33)
  have hf := box_first w (.slice a1 n1 c1) (.slice a2 n2 c2) 33
  have hf2 := box_second w (.slice a1 n1 c1) (.slice a2 n2 c2) 33
  have H1 := Lib.hid (h1.below hb)
  have H2 := Lib.hid (h2.below hb)
  have HL1 := Lib.hid h1.1
  have hsz : w.heap.size < (w.alloc (.cells #[.slice a1 n1 c1, .slice a2 n2 c2] 33)).heap.size := by simp
  clear h1 h2
  go_enter Try.func52, Try.ntmps52
  go_wp2_with fail
  generalize w.alloc (.cells #[.slice a1 n1 c1, .slice a2 n2 c2] 33) = W at *
  refine (Consist.impl_any a1 a2 n1 c1 n2 c2 l m W hz1 hz2 H1.out H2.out).mono ?_
  rintro e w1 ⟨rfl, b1⟩
  have r1 := (b1.cell (p := ⟨w.heap.size, 0, none⟩) hsz).trans hf
  have r2 := (b1.cell (p := ⟨w.heap.size, 1, none⟩) hsz).trans hf2
  have hsz1 := Nat.lt_of_lt_of_le hsz b1.size
  have HB1 := Lib.hid (hb.trans (b1.mono hb.size))
  have K1 := Lib.hid (H1.out.below b1)
  have K2 := Lib.hid (H2.out.below b1)
  clear hf hf2 b1 hb
  cases hg : good l m with
  | false =>
    have HE := Lib.hid (ord_bad hg)
    rw [cons_no hg]
    clear hg
    go_wp2_with fail
    go_ret2
    rw [HE.out]
    exact ⟨_, _, _, rfl, ownsRow_base (empty_own w1) HB1.out.size, by omega, HB1.out.trans ((below_alloc _ _).mono HB1.out.size)⟩
  | true =>
    cases hc : (l.any fun p => later m p.1 p.1) with
    | true =>
      have HE := Lib.hid (ord_cyc hg hc)
      rw [cons_yes hg, hc]
      clear hg hc
      go_wp2_with fail
      go_ret2
      rw [HE.out]
      exact ⟨_, _, _, rfl, ownsRow_base (empty_own w1) HB1.out.size, by omega, HB1.out.trans ((below_alloc _ _).mono HB1.out.size)⟩
    | false =>
      have HE := Lib.hid (ord_yes hg hc)
      have HG := Lib.hid hg
      have HC := Lib.hid hc
      have hn1 : n1 ≤ 10 := by rw [← HL1.out]; exact (Table.good_few hg).1
      rw [cons_yes hg, hc]
      clear hg hc
      go_wp2_with fail
      refine (orderOf_any a1 a2 n1 c1 n2 c2 l m w1 HG.out K1.out K2.out).mono ?_
      rintro e w2 ⟨bx, rfl, ho, b2⟩
      have ha := below_alloc w2 (.cells #[.func (.func 90) #[] #[.pointer (some ⟨bx, 0, none⟩)]] 78)
      have b23 := b2.trans (ha.mono b2.size)
      have q1 := (b23.cell (p := ⟨w.heap.size, 0, none⟩) hsz1).trans r1
      have q2 := (b23.cell (p := ⟨w.heap.size, 1, none⟩) hsz1).trans r2
      have q4 : (w2.alloc (.cells #[.func (.func 90) #[] #[.pointer (some ⟨bx, 0, none⟩)]] 78)).cell? ⟨w2.heap.size, 0, none⟩ = some (.func (.func 90) #[] #[.pointer (some ⟨bx, 0, none⟩)]) := by
        rw [World.cell?_alloc_mark]
        rfl
      have s4 : w2.heap.size < (w2.alloc (.cells #[.func (.func 90) #[] #[.pointer (some ⟨bx, 0, none⟩)]] 78)).heap.size := by simp
      have HO := Lib.hid (ho.below ha)
      have HB3 := Lib.hid (HB1.out.trans (b23.mono HB1.out.size))
      have K13 := Lib.hid (K1.out.below b23)
      have Q4 := Lib.hid q4
      have s1 := Nat.lt_of_lt_of_le hsz1 b23.size
      clear ho ha b2 b23 r1 r2
      have hbE := below_alloc (w2.alloc (.cells #[.func (.func 90) #[] #[.pointer (some ⟨bx, 0, none⟩)]] 78)) (.cells #[] 3)
      have hoE := empty_own (T := 3) (w2.alloc (.cells #[.func (.func 90) #[] #[.pointer (some ⟨bx, 0, none⟩)]] 78))
      have HSW : Hid ((w2.alloc (.cells #[.func (.func 90) #[] #[.pointer (some ⟨bx, 0, none⟩)]] 78)).heap.size = w2.heap.size + 1) := by unfold Hid; simp
      have HE0 := Lib.hid hbE
      have HOE := Lib.hid hoE
      have q2' := (hbE.cell (p := ⟨w.heap.size, 0, none⟩) s1).trans q1
      have q3' := (hbE.cell (p := ⟨w.heap.size, 1, none⟩) s1).trans q2
      have K14 := Lib.hid (K13.out.below hbE)
      clear hbE hoE q1 q2
      go_wp2_with fail
      generalize w2.alloc (.cells #[.func (.func 90) #[] #[.pointer (some ⟨bx, 0, none⟩)]] 78) = W3 at *
      have HS34 : Hid (W3.heap.size < (W3.alloc (.cells #[] 3)).heap.size) := by unfold Hid; simp
      generalize W3.alloc (.cells #[] 3) = W4 at *
      refine (that_any 82 #[] (fun _ => true) a1 a2 n1 c1 n2 c2 l W4 hn1 K14.out (fun args W => FuncI.call_enter Try.func82 (by kernel_rfl) rfl args W) (fun x wr hx hwr => true_any _ rfl wr)).mono ?_
      rintro e w5 ⟨p, k, d, rfl, hown, hk, b5⟩
      rw [sel_all] at hown
      have hr0 := rd_start HE0.out HS34.out HOE.out b5 hown
      rw [HSW.out] at hr0
      have HR0 := Lib.hid hr0
      have hn : k ≤ 10 := by
        have h := hown.1
        rw [ints_len] at h
        have e : (keys l).length = l.length := by unfold keys; simp
        rw [e, HL1.out] at h
        omega
      have HST0 : Hid (St l m n1 [] (fun _ => false)) := by
        have h := st_start (l := l) (m := m)
        rw [HL1.out] at h
        exact h
      have hsW := HSW.out
      clear hown b5 hr0
      go_wp2_with fail
      generalize w5.alloc (.cells #[.slice p k d] 43) = W6 at *
      go_loopw [7] (fun s7 wr => ∃ (O : List Int) (D : Int → Bool) (vl : Value), lenOf s7 = O.length ∧ Hid (St l m n1 O D) ∧ Hid (Rd (w2.heap.size + 1) W3 wr w5.heap.size s7 vl O (lft (keys l) D))) (fun s7 _ => n1 - lenOf s7)
      case atStart => exact ⟨[], fun _ => false, _, rfl, HST0, by unfold Hid; rw [lft_all]; exact HR0.out⟩
      case round =>
        clear HR0 HST0
        obtain ⟨O, D, vl, hlen, HT, HD⟩ := hrel
        obtain ⟨p', d', rfl⟩ := own_slice HD.out.lf
        have hcell := HD.out.cell
        have hT2 := HT.out.2
        by_cases hpos : 0 < (lft (keys l) D).length
        · have hposI : (0 : Int) < (((lft (keys l) D).length : Nat) : Int) := by omega
          obtain ⟨n, i, hix, hil, hin, her, hst⟩ := st_next HG.out HC.out HT.out hpos
          obtain ⟨g, d2, hpg⟩ := own_block HD.out.lf hpos
          injection hpg with hpg1 hpg2 hpg3
          subst hpg1 hpg3
          have HIX := Lib.hid hix
          have HIN := Lib.hid hin
          have HER := Lib.hid her
          have HST := Lib.hid hst
          have HRN := Lib.hid ((lft_in HG.out D) n (List.mem_of_getElem? hin))
          have HW3 := Lib.hid HD.out.bel
          have hlo : w2.heap.size < W3.heap.size := by omega
          have HCL : Hid (∀ x wr', x ∈ lft (keys l) D → Below wr.heap.size wr wr' → Calls Try.prog 84 (#[.int .i64 x] ++ #[.pointer (some ⟨w5.heap.size, 0, none⟩), .pointer (some ⟨w2.heap.size, 0, none⟩)]) wr' fun e w' => e = .returned (.bool (!(lft (keys l) D).any (fun y => later m y x))) ∧ Below wr'.heap.size wr' w') := fun x wr' hx hb => by
            have hd := HD.out.below hb
            have hr := (lft_in HG.out D) x hx
            have hbw := hd.bel
            rw [← HSW.out] at hbw
            exact clos2_any x w5.heap.size w2.heap.size bx l m _ _ _ (lft (keys l) D) wr' (by omega) hd.cell (GivesI.holds_own hd.lf) (lft_in HG.out D) ((hbw.cell (p := ⟨w2.heap.size, 0, none⟩) hlo).trans Q4.out) (HO.out.below hbw) (by omega)
          clear hix hin her hst
          go_wp2_with fail
          refine (FuncI.index_any 84 #[.pointer (some ⟨w5.heap.size, 0, none⟩), .pointer (some ⟨w2.heap.size, 0, none⟩)] (fun x => !(lft (keys l) D).any (fun y => later m y x)) (some ⟨g, 0, none⟩) (lft (keys l) D).length d' (lft (keys l) D) wr (by omega) (GivesI.holds_own HD.out.lf) (fun args W => FuncI.call_enter Try.func84 (by kernel_rfl) rfl args W) HCL.out).mono ?_
          rintro e w8 ⟨rfl, b8⟩
          rw [HIX.out]
          have hd8 := HD.out.below b8
          have hord := hd8.ord
          have hcell8 := hd8.cell
          obtain ⟨gb, off, y, hp, hy, hel⟩ := (GivesI.holds_own hd8.lf).at i hil
          injection hp with hp
          injection hp with hp1 hp2
          subst hp1 hp2
          obtain rfl : y = n := by have h := HIN.out; rw [hy] at h; exact Option.some.inj h
          rw [Nat.zero_add] at hel
          have hii : (i : Int) < (((lft (keys l) D).length : Nat) : Int) := by omega
          have hi00 : (0 : Int) ≤ (i : Int) := by omega
          have HD8 := Lib.hid hd8
          have hsz8 := hd8.sz
          have hol := hlen
          clear hy b8 HCL hcell hd8
          go_wp2_with (at_builtin; refine wpList_append_lies _ rfl _ _ 43 rfl (w2.heap.size + 1) 3 i0 (.int .i64 0) 1 8 Try.underlying43 hi hy0 hy1 hy2 rfl (by decide) _ _ _ rfl (hord.alloc _) ⟨w8.heap.size, 0, none⟩ 1 1 [.int .i64 y] rfl rfl (cell_one_new _ _ _) (by simp [Value.oneCell']) (by decide) (by unfold maxLen; omega) (by omega) (by simp; omega) _ rfl ?_; intro g9 cap9 w9 hown9 hgrow9 hat9 hlt9; have HD9 := Lib.hid (HD8.out.app (below_alloc _ _) hown9 hgrow9 hat9 (by simp)); have hcell9 := HD9.out.cell; clear hown9 hgrow9 hat9 hlt9)
          have hl9 : (lft (keys l) D).length - 1 = (lft (keys l) (fun x => D x || x == y)).length := by rw [← HER.out, List.length_eraseIdx, if_pos hil]
          have hdel := DelI.del_any (w2.heap.size + 1) g i _ d' (lft (keys l) D) y w9 (by omega) HD9.out.lf HIN.out
          rw [HER.out, hl9, show ((i + 1 : Nat) : Int) = (i : Int) + 1 from rfl] at hdel
          have HDEL := Lib.hid hdel
          have hcell10 : ∀ w10, Kept (fun b => b = g) w9 w10 → w10.cell? ⟨w5.heap.size, 0, none⟩ = some (.slice (some ⟨g, 0, none⟩) (lft (keys l) D).length d') ∧ w10.frozen? ⟨w5.heap.size, 0, none⟩ = false := fun w10 hk => by
            have hne : ¬ w5.heap.size = g := fun e => HD9.out.ne3 (by rw [e]; rfl)
            exact ⟨hk.cell hcell9 hne, (World.frozen?_of_block (hk.block w5.heap.size HD9.out.blt hne)).trans HD9.out.frozen⟩
          have HC10 := Lib.hid hcell10
          clear hdel hl9 hcell10
          have hnw : (i : Int) + 1 ≤ 10 := by omega
          have hwr : IntKind.i64.wrap ((i : Int) + 1) = (i : Int) + 1 := by rw [IntKind.wrap_i64]; omega
          go_wp2_with fail
          refine HDEL.out.mono ?_
          rintro e w10 ⟨rfl, hown10, hk10⟩
          obtain ⟨z1, z2⟩ := HC10.out w10 hk10
          have HD11 := Lib.hid (HD9.out.del hown10 hk10)
          clear hown10 hk10 HC10 HDEL hcell9
          go_wp2_with fail
          exact ⟨⟨O ++ [y], _, _, by simp [lenOf], HST.out, HD11.out⟩, by simp [lenOf] at *; omega⟩
        · have hposI : ¬ (0 : Int) < (((lft (keys l) D).length : Nat) : Int) := by omega
          have hO : O = orderL l m := by
            have h := HT.out.1
            rw [show (lft (keys l) D).length = 0 by omega] at h
            simpa [ordD] using h
          have HEO : Hid (orderP l m = some O) := by unfold Hid; rw [hO]; exact HE.out
          have HOW := Lib.hid HD.out.ord
          have HBD := Lib.hid (HB3.out.trans ((HSW.out ▸ HD.out.bel : Below W3.heap.size W3 wr).mono HB3.out.size))
          obtain ⟨p2, d2, rfl⟩ := own_slice HD.out.ord
          clear hO HD
          go_wp2_with fail
          go_ret2
          rw [HEO.out]
          exact ⟨_, _, _, rfl, ownsRow_base HOW.out (by omega), by show O.length ≤ _; omega, HBD.out⟩
end Go.Proofs.Ytbdplgcdnpcnfaa.CtxOrdK
