/- The program's IsConsistent and the model's l4Consistent. -/
import Derived.Test.YtmjhgjlnpnkmkaaThat
import Derived.Test.YtmjhgjlnpnkmkaaIsLater
import Derived.Laws.EntriesVeiled
namespace Go.Proofs.Ytmjhgjlnpnkmkaa.Consist
open Go.RowKit Pairs Rec Chain Find2 GoodM Keep GivesI Lows Order Bit Table Idx That IsLater
theorem num_at {l m : List (Int × Int)} (hg : good l m = true) {x y : Int} {i : Nat} (hx : l[i]? = some (x, y)) : isAt l x = some i := by
  have hA := (good_asc hg).1
  have hil := (List.getElem?_eq_some_iff.1 hx).1
  have e : (isAt l x).isSome = true := isAt_keys.2 (List.mem_map.2 ⟨(x, y), List.mem_of_getElem? hx, rfl⟩)
  obtain ⟨j, hj⟩ := Option.isSome_iff_exists.1 e
  obtain ⟨y2, hy2⟩ := isAt_num hj
  rcases Nat.lt_trichotomy j i with h | h | h
  · have := hA.lt (i - j - 1) j (x, y2) (x, y) hy2 (by rw [show j + (i - j - 1) + 1 = i by omega]; exact hx)
    simp at this
  · rw [hj, h]
  · have := hA.lt (j - i - 1) i (x, y) (x, y2) hx (by rw [show i + (j - i - 1) + 1 = j by omega]; exact hy2)
    simp at this
theorem tk_any (q : Int × Int → Bool) {l : List (Int × Int)} {k : Nat} {p : Int × Int} (hx : l[k]? = some p) (h : (l.take k).any q = false) : (l.take (k + 1)).any q = q p := by
  rw [List.take_add_one, hx, List.any_append, h]
  simp
theorem any_hit (q : Int × Int → Bool) {l : List (Int × Int)} {k : Nat} {p : Int × Int} (hx : l[k]? = some p) (h : q p = true) : l.any q = true :=
  List.any_eq_true.2 ⟨p, List.mem_of_getElem? hx, h⟩
def IxAns (b : Bool) (w : World) (e : Ending) (w' : World) : Prop := ∃ i : Int, e = .returned (.int .i64 i) ∧ (b = false → i = -1) ∧ (b = true → 0 ≤ i) ∧ Below w.heap.size w w'
set_option maxRecDepth 100000 in
set_option maxHeartbeats 4000000 in
theorem index_any (f : FuncId) (bs : Array Value) (q : Int × Int → Bool) (a1 : Option Addr) (n1 c1 : Nat) (l : List (Int × Int)) (w : World) (hn : n1 ≤ 10) (h1 : Holds w a1 n1 l)
    (hcall : ∀ (args : Array Value) (W : World), (callFunc f args).run Try.prog W = .ok (.enter f args) W)
    (hf : ∀ x y wr, (x, y) ∈ l → Below w.heap.size w wr → Calls Try.prog f (#[.agg #[.int .i64 x, .int .i64 y]] ++ bs) wr fun e w' => e = .returned (.bool (q (x, y))) ∧ Below wr.heap.size wr w') :
    Calls Try.prog 114 #[.slice a1 n1 c1, .func (.func f) #[] bs] w (IxAns (l.any q) w) := by
  have H1 := Lib.hid h1
  have HL1 := Lib.hid h1.1
  have HF := Lib.hid hf
  have HC := Lib.hid hcall
  clear h1 hf hcall
  go_enter Try.func114, Try.ntmps114
  go_wp2_with fail
  go_loopw [8] (fun s8 wr => ∃ k : Nat, k ≤ n1 ∧ s8 = .int .i64 k ∧ Hid ((l.take k).any q = false) ∧ Hid (Below w.heap.size w wr)) (fun s8 _ => n1 - (intOf s8).toNat)
  case atStart => exact ⟨0, Nat.zero_le _, rfl, rfl, Below.refl _ _⟩
  case round =>
    obtain ⟨k, hk, rfl, HP, HR⟩ := hrel
    by_cases hlt : k < n1
    · obtain ⟨b, off, x, y, rfl, hx, e1, e2⟩ := (H1.out.below HR.out).at k hlt
      have HX := Lib.hid hx
      have hkn : (k : Int) < (n1 : Int) := by omega
      have hk0 : (0 : Int) ≤ (k : Int) := by omega
      clear hx
      go_wp2_with fail
      rw [HC.out, Oper.upon_enter]
      refine (HF.out x y _ (List.mem_of_getElem? HX.out) HR.out).mono ?_
      rintro e w8 ⟨rfl, b8⟩
      have HR8 := Lib.hid (HR.out.trans (b8.mono HR.out.size))
      clear b8 e1 e2
      cases hq : q (x, y) with
      | true =>
        have HA := Lib.hid (any_hit q HX.out hq)
        clear hq
        go_wp2_with fail
        go_ret
        exact ⟨_, rfl, fun h => (by rw [HA.out] at h; cases h), fun _ => hk0, HR8.out⟩
      | false =>
        have HP2 : Hid ((l.take (k + 1)).any q = false) := by unfold Hid; rw [tk_any q HX.out HP.out, hq]
        clear hq
        go_wp2_with fail
        exact ⟨⟨k + 1, by omega, by go_num, HP2, HR8⟩, by simp [intOf]; omega⟩
    · obtain rfl : k = n1 := by omega
      have hkn : ¬ (k : Int) < (k : Int) := by omega
      have hp := HP.out
      rw [List.take_of_length_le (by rw [HL1.out]; exact Nat.le_refl _)] at hp
      have HQ := Lib.hid hp
      clear hp
      go_wp2_with fail
      go_ret
      exact ⟨_, rfl, fun _ => rfl, fun h => (by rw [HQ.out] at h; cases h), HR.out⟩
set_option maxRecDepth 100000 in
set_option maxHeartbeats 4000000 in
theorem contains_any (f : FuncId) (bs : Array Value) (q : Int × Int → Bool) (a1 : Option Addr) (n1 c1 : Nat) (l : List (Int × Int)) (w : World) (hn : n1 ≤ 10) (h1 : Holds w a1 n1 l)
    (hcall : ∀ (args : Array Value) (W : World), (callFunc f args).run Try.prog W = .ok (.enter f args) W)
    (hf : ∀ x y wr, (x, y) ∈ l → Below w.heap.size w wr → Calls Try.prog f (#[.agg #[.int .i64 x, .int .i64 y]] ++ bs) wr fun e w' => e = .returned (.bool (q (x, y))) ∧ Below wr.heap.size wr w') :
    Calls Try.prog 91 #[.slice a1 n1 c1, .func (.func f) #[] bs] w fun e w' => e = .returned (.bool (l.any q)) ∧ Below w.heap.size w w' := by
  have HI := Lib.hid (index_any f bs q a1 n1 c1 l w hn h1 hcall hf)
  clear hcall hf h1
  go_enter Try.func91, Try.ntmps91
  go_wp2_with fail
  refine HI.out.mono ?_
  rintro e w1 ⟨i, rfl, hi, hi0, b1⟩
  have HB := Lib.hid b1
  clear b1
  cases ha : l.any q with
  | true =>
    have h0 : (0 : Int) ≤ i := hi0 ha
    have HA := Lib.hid ha
    clear hi hi0 ha
    go_wp2_with fail
    go_ret
    exact ⟨by rw [HA.out]; rfl, HB.out⟩
  | false =>
    obtain rfl : i = -1 := hi ha
    have HA := Lib.hid ha
    clear hi hi0 ha
    go_wp2_with fail
    go_ret
    exact ⟨by rw [HA.out]; rfl, HB.out⟩
noncomputable def consP (l m : List (Int × Int)) : Bool × Bool := if good l m = true then (!(l.any fun p => later m p.1 p.1), true) else (false, false)
theorem cons_no {l m : List (Int × Int)} (h : good l m = false) : consP l m = (false, false) := by unfold consP; rw [if_neg (by rw [h]; simp)]
theorem cons_yes {l m : List (Int × Int)} (h : good l m = true) : consP l m = (!(l.any fun p => later m p.1 p.1), true) := by unfold consP; rw [if_pos h]
theorem clos_any (x y : Int) (bo bx : Nat) (l m : Ps) (W : World) (c1 : W.cell? ⟨bo, 0, none⟩ = some (.func (.func 113) #[] #[.pointer (some ⟨bx, 0, none⟩)])) (hbo : bo < W.heap.size) (h : IsOrd W l m bx) (hx : x ∈ keys l) (hrx : -1000000 ≤ x ∧ x ≤ 1000000) :
    Calls Try.prog 92 #[.agg #[.int .i64 x, .int .i64 y], .pointer (some ⟨bo, 0, none⟩)] W fun e w' => e = .returned (.bool (later m x x)) ∧ Below W.heap.size W w' := by
  have hb := below_alloc W (.cells #[.int .i64 x, .int .i64 y] 89)
  have u1 := box_first W (.int .i64 x) (.int .i64 y) 89
  have d1 := (hb.cell (p := ⟨bo, 0, none⟩) hbo).trans c1
  have HI := Lib.hid (h.below hb)
  have HX := Lib.hid hx
  have HB := Lib.hid hb
  clear h hx hb c1
  go_enter Try.func92, Try.ntmps92
  go_wp2_with fail
  generalize W.alloc (.cells #[.int .i64 x, .int .i64 y] 89) = Z at *
  refine (isLater_any bx l m x x Z HI.out HX.out (by omega) (by omega)).mono ?_
  rintro e w' ⟨rfl, rfl⟩
  go_wp2_with fail
  go_ret
  exact ⟨rfl, HB.out⟩
set_option maxRecDepth 100000 in
set_option maxHeartbeats 4000000 in
theorem impl_any (a1 a2 : Option Addr) (n1 c1 n2 c2 : Nat) (l m : List (Int × Int)) (w : World) (hz1 : n1 ≤ 1048576) (hz2 : n2 ≤ 1048576) (h1 : Holds w a1 n1 l) (h2 : Holds w a2 n2 m) :
    Calls Try.prog 52 #[.agg #[.slice a1 n1 c1, .slice a2 n2 c2]] w fun e w' => e = .returned (.tuple #[.bool (consP l m).1, .bool (consP l m).2]) ∧ Below w.heap.size w w' := by
  have hb := below_alloc w (.cells #[.slice a1 n1 c1, .slice a2 n2 c2] 33)
  have hf := box_first w (.slice a1 n1 c1) (.slice a2 n2 c2) 33
  have hf2 := box_second w (.slice a1 n1 c1) (.slice a2 n2 c2) 33
  have H1 := Lib.hid (h1.below hb)
  have H2 := Lib.hid (h2.below hb)
  have HL1 := Lib.hid h1.1
  have hsz : w.heap.size < (w.alloc (.cells #[.slice a1 n1 c1, .slice a2 n2 c2] 33)).heap.size := by simp
  clear h1 h2
  go_enter Try.func52, Try.ntmps52
  go_wp2_with fail
  generalize w.alloc (.cells #[.slice a1 n1 c1, .slice a2 n2 c2] 33) = W at *
  refine (Avr.impl_any a1 a2 n1 c1 n2 c2 l m W hz1 hz2 H1.out H2.out).mono ?_
  rintro e w1 ⟨rfl, b1⟩
  have r1 := (b1.cell (p := ⟨w.heap.size, 0, none⟩) hsz).trans hf
  have r2 := (b1.cell (p := ⟨w.heap.size, 1, none⟩) hsz).trans hf2
  have hsz1 := Nat.lt_of_lt_of_le hsz b1.size
  have HB1 := Lib.hid (hb.trans (b1.mono hb.size))
  have K1 := Lib.hid (H1.out.below b1)
  have K2 := Lib.hid (H2.out.below b1)
  clear hf hf2 b1 hb
  cases hg : good l m with
  | false =>
    have HE := Lib.hid (cons_no hg)
    clear hg
    go_wp2_with fail
    go_ret2
    exact ⟨by rw [HE.out]; rfl, HB1.out⟩
  | true =>
    have HE := Lib.hid (cons_yes hg)
    have HG := Lib.hid hg
    have hn1 : n1 ≤ 10 := by rw [← HL1.out]; exact (Table.good_few hg).1
    clear hg
    go_wp2_with fail
    refine (orderOf_any a1 a2 n1 c1 n2 c2 l m w1 HG.out K1.out K2.out).mono ?_
    rintro e w2 ⟨bx, rfl, ho, b2⟩
    have ha := below_alloc w2 (.cells #[.func (.func 113) #[] #[.pointer (some ⟨bx, 0, none⟩)]] 83)
    have b23 := b2.trans (ha.mono b2.size)
    have q1 := (b23.cell (p := ⟨w.heap.size, 0, none⟩) hsz1).trans r1
    have q4 : (w2.alloc (.cells #[.func (.func 113) #[] #[.pointer (some ⟨bx, 0, none⟩)]] 83)).cell? ⟨w2.heap.size, 0, none⟩ = some (.func (.func 113) #[] #[.pointer (some ⟨bx, 0, none⟩)]) := by
      rw [World.cell?_alloc_mark]
      rfl
    have s4 : w2.heap.size < (w2.alloc (.cells #[.func (.func 113) #[] #[.pointer (some ⟨bx, 0, none⟩)]] 83)).heap.size := by simp
    have HO := Lib.hid (ho.below ha)
    have HB3 := Lib.hid (HB1.out.trans (b23.mono HB1.out.size))
    have K13 := Lib.hid (K1.out.below b23)
    have Q4 := Lib.hid q4
    clear ho ha b2 b23 r1 r2 q4
    go_wp2_with fail
    generalize w2.alloc (.cells #[.func (.func 113) #[] #[.pointer (some ⟨bx, 0, none⟩)]] 83) = W3 at *
    refine (contains_any 92 #[.pointer (some ⟨w2.heap.size, 0, none⟩)] (fun p => later m p.1 p.1) a1 n1 c1 l W3 hn1 K13.out (fun args W => call_enter Try.func92 (by kernel_rfl) rfl args W) (fun x y wr hx hwr => ?_)).mono ?_
    · have hxk : x ∈ keys l := List.mem_map.2 ⟨(x, y), hx, rfl⟩
      have hxr : 1 ≤ x ∧ x ≤ 999 := by
        obtain ⟨i, hi⟩ := Option.isSome_iff_exists.1 (isAt_keys.2 hxk)
        exact rng_at HG.out hi
      exact clos_any x y w2.heap.size bx l m wr ((hwr.cell (p := ⟨w2.heap.size, 0, none⟩) s4).trans Q4.out) (Nat.lt_of_lt_of_le s4 hwr.size) (HO.out.below hwr) hxk (by omega)
    rintro e w4 ⟨rfl, b4⟩
    have HB4 := Lib.hid (HB3.out.trans (b4.mono HB3.out.size))
    clear b4
    generalize hA : (l.any fun p => later m p.1 p.1) = bb
    have HA := Lib.hid hA
    clear hA
    go_wp2_with fail
    go_ret2
    exact ⟨by rw [HE.out, HA.out]; rfl, HB4.out⟩
end Go.Proofs.Ytmjhgjlnpnkmkaa.Consist
