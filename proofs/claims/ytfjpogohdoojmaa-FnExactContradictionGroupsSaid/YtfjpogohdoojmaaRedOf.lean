/- The program's redundancyOf. -/
import Derived.Test.YtfjpogohdoojmaaDelG
import Derived.Test.YtfjpogohdoojmaaElems
import Derived.Test.YtfjpogohdoojmaaRedM
import Derived.Test.YtfjpogohdoojmaaConsistA
namespace Go.Proofs.Ytfjpogohdoojmaa.RedOf
open Go.RowKit Pairs Rec Chain Find2 GoodM Keep GivesI Lows Order Idx That IsLater Consist OrdM RedM
noncomputable def keptBy (m : Ps) (p y : Int × Int) : Bool := !(y.1 == p.1 && later m y.2 p.2)
theorem any_kept (m : Ps) (p : Int × Int) : m.any (fun y => !keptBy m p y) = red m p := by
  unfold keptBy red
  simp
theorem key_rng {l m : Ps} (hg : good l m = true) {x : Int} (hk : x ∈ keys l) : 1 ≤ x ∧ x ≤ 999 := by
  obtain ⟨i, hi⟩ := Option.isSome_iff_exists.1 (isAt_keys.2 hk)
  exact rng_at hg hi
theorem clos11_any (x1 x2 y1 y2 : Int) (xb bo bx : Nat) (l m : Ps) (W : World) (d1 : W.cell? ⟨xb, 0, none⟩ = some (.int .i64 x1)) (d2 : W.cell? ⟨xb, 1, none⟩ = some (.int .i64 x2)) (c1 : W.cell? ⟨bo, 0, none⟩ = some (.func (.func 158) #[] #[.pointer (some ⟨bx, 0, none⟩)])) (h : IsOrd W l m bx) (hx : y2 ∈ keys l) (hrx : -1000000 ≤ y2 ∧ y2 ≤ 1000000) (hrn : -1000000 ≤ x2 ∧ x2 ≤ 1000000) :
    Calls Try.prog 190 #[.agg #[.int .i64 y1, .int .i64 y2], .pointer (some ⟨xb, 0, none⟩), .pointer (some ⟨bo, 0, none⟩)] W fun e w' => e = .returned (.bool (!keptBy m (x1, x2) (y1, y2))) ∧ Below W.heap.size W w' := by
  have hb := below_alloc W (.cells #[.int .i64 y1, .int .i64 y2] 39)
  have u1 := box_first W (.int .i64 y1) (.int .i64 y2) 39
  have u2 := box_second W (.int .i64 y1) (.int .i64 y2) 39
  have e1 := (hb.cell (p := ⟨xb, 0, none⟩) (World.block_lt_of_cell? W _ d1)).trans d1
  have e2 := (hb.cell (p := ⟨xb, 1, none⟩) (World.block_lt_of_cell? W _ d2)).trans d2
  have e3 := (hb.cell (p := ⟨bo, 0, none⟩) (World.block_lt_of_cell? W _ c1)).trans c1
  have HI := Lib.hid (h.below hb)
  have HX := Lib.hid hx
  have HB := Lib.hid hb
  clear h hx d1 d2 c1 hb
  go_enter Try.func190, Try.ntmps190
  by_cases hq : y1 = x1
  · have hqb : (y1 == x1) = true := by rw [beq_iff_eq]; exact hq
    have HQ := Lib.hid hqb
    subst hq
    go_wp2_with fail
    refine (isLater_any bx l m y2 x2 _ HI.out HX.out (by omega) (by omega)).mono ?_
    rintro e w' ⟨rfl, rfl⟩
    generalize hA : later m y2 x2 = bb
    have HA := Lib.hid hA
    clear hA
    go_wp2_with fail
    go_ret
    exact ⟨by unfold keptBy; rw [HQ.out]; simp [HA.out], HB.out⟩
  · have hqb : (y1 == x1) = false := by rw [beq_eq_false_iff_ne]; exact hq
    have HQ := Lib.hid hqb
    clear hqb
    go_wp2_with fail
    go_ret
    exact ⟨by unfold keptBy; rw [HQ.out]; simp, HB.out⟩
/-- What redundancyOf's closure holds. -/
structure IsRed (W : World) (l m : Ps) (br bo bx : Nat) (a2 : Option Addr) (n2 c2 : Nat) : Prop where
  cr : W.cell? ⟨br, 1, none⟩ = some (.slice a2 n2 c2)
  co : W.cell? ⟨bo, 0, none⟩ = some (.func (.func 158) #[] #[.pointer (some ⟨bx, 0, none⟩)])
  ord : IsOrd W l m bx
  rel : Holds W a2 n2 m
theorem IsRed.below {W w' : World} {l m : Ps} {br bo bx n2 c2 : Nat} {a2 : Option Addr} (h : IsRed W l m br bo bx a2 n2 c2) (hb : Below W.heap.size W w') : IsRed w' l m br bo bx a2 n2 c2 :=
  ⟨(hb.cell (World.block_lt_of_cell? W _ h.cr)).trans h.cr, (hb.cell (World.block_lt_of_cell? W _ h.co)).trans h.co, h.ord.below hb, h.rel.below hb⟩
set_option maxRecDepth 100000 in
set_option maxHeartbeats 2000000 in
theorem clos1_any (x1 x2 : Int) (br bo bx : Nat) (a2 : Option Addr) (n2 c2 : Nat) (l m : Ps) (W : World) (hg : good l m = true) (hz : n2 ≤ 1048576) (h : IsRed W l m br bo bx a2 n2 c2) (hrx : 1 ≤ x2 ∧ x2 ≤ 999) :
    Calls Try.prog 188 #[.agg #[.int .i64 x1, .int .i64 x2], .pointer (some ⟨br, 0, none⟩), .pointer (some ⟨bo, 0, none⟩)] W fun e w' => e = .returned (.bool (red m (x1, x2))) ∧ Below W.heap.size W w' := by
  have hb := below_alloc W (.cells #[.int .i64 x1, .int .i64 x2] 39)
  have u1 := box_first W (.int .i64 x1) (.int .i64 x2) 39
  have u2 := box_second W (.int .i64 x1) (.int .i64 x2) 39
  have hsn : W.heap.size < (W.alloc (.cells #[.int .i64 x1, .int .i64 x2] 39)).heap.size := by simp
  have HR := Lib.hid (h.below hb)
  have cr := HR.out.cr
  have co := HR.out.co
  have HU1 := Lib.hid u1
  have HU2 := Lib.hid u2
  have HB := Lib.hid hb
  have HG := Lib.hid hg
  clear h hb hg u1 u2
  go_enter Try.func188, Try.ntmps188
  go_wp2_with fail
  generalize W.alloc (.cells #[.int .i64 x1, .int .i64 x2] 39) = Z at *
  refine (DelG.contains_any 190 #[.pointer (some ⟨W.heap.size, 0, none⟩), .pointer (some ⟨bo, 0, none⟩)] (keptBy m (x1, x2)) a2 n2 c2 m hz Z HR.out.rel (fun args W => FuncI.call_enter Try.func190 (by kernel_rfl) rfl args W) (fun x y wr hm hwr => ?_)).mono ?_
  · have hk := (ends_key HG.out hm).2
    have hq := key_rng HG.out hk
    have hr := HR.out.below hwr
    exact clos11_any x1 x2 x y W.heap.size bo bx l m wr ((hwr.cell (p := ⟨W.heap.size, 0, none⟩) hsn).trans HU1.out) ((hwr.cell (p := ⟨W.heap.size, 1, none⟩) hsn).trans HU2.out) hr.co hr.ord hk (by omega) (by omega)
  rintro e w' ⟨rfl, b2⟩
  have HB2 := Lib.hid (HB.out.trans (b2.mono HB.out.size))
  rw [any_kept]
  generalize hA : red m (x1, x2) = bb
  have HA := Lib.hid hA
  clear b2 hA cr co
  go_wp2_with fail
  go_ret
  exact ⟨by rw [HA.out]; rfl, HB2.out⟩
set_option maxRecDepth 100000 in
set_option maxHeartbeats 2000000 in
theorem redundancyOf_any (a1 a2 : Option Addr) (n1 c1 n2 c2 : Nat) (l m : Ps) (w : World) (hg : good l m = true) (h1 : Holds w a1 n1 l) (h2 : Holds w a2 n2 m) :
    Calls Try.prog 138 #[.agg #[.slice a1 n1 c1, .slice a2 n2 c2]] w fun e w' => ∃ br bo bx, e = .returned (.func (.func 188) #[] #[.pointer (some ⟨br, 0, none⟩), .pointer (some ⟨bo, 0, none⟩)]) ∧ IsRed w' l m br bo bx a2 n2 c2 ∧ Below w.heap.size w w' := by
  have hb := below_alloc w (.cells #[.slice a1 n1 c1, .slice a2 n2 c2] 27)
  have hf := box_first w (.slice a1 n1 c1) (.slice a2 n2 c2) 27
  have hf2 := box_second w (.slice a1 n1 c1) (.slice a2 n2 c2) 27
  have H1 := Lib.hid (h1.below hb)
  have H2 := Lib.hid (h2.below hb)
  have HG := Lib.hid hg
  have hsz : w.heap.size < (w.alloc (.cells #[.slice a1 n1 c1, .slice a2 n2 c2] 27)).heap.size := by simp
  clear h1 h2 hg
  go_enter Try.func138, Try.ntmps138
  go_wp2_with fail
  generalize w.alloc (.cells #[.slice a1 n1 c1, .slice a2 n2 c2] 27) = W at *
  refine (orderOf_any a1 a2 n1 c1 n2 c2 l m W HG.out H1.out H2.out).mono ?_
  rintro e w2 ⟨bx, rfl, ho, b2⟩
  have ha := below_alloc w2 (.cells #[.func (.func 158) #[] #[.pointer (some ⟨bx, 0, none⟩)]] 95)
  have b23 := b2.trans (ha.mono b2.size)
  have HR : Hid (IsRed (w2.alloc (.cells #[.func (.func 158) #[] #[.pointer (some ⟨bx, 0, none⟩)]] 95)) l m w.heap.size w2.heap.size bx a2 n2 c2) :=
    ⟨(b23.cell (p := ⟨w.heap.size, 1, none⟩) hsz).trans hf2, by rw [World.cell?_alloc_mark]; rfl, ho.below ha, H2.out.below b23⟩
  have HB := Lib.hid (hb.trans (b23.mono hb.size))
  clear b2 b23 ha ho hb hf hf2
  go_wp2_with fail
  go_ret
  exact ⟨_, _, _, rfl, HR.out, HB.out⟩
theorem flat_int {m : List (Int × Int)} {j : Nat} {v : Value} (h : (flat m)[j]? = some v) : ∃ x, v = .int .i64 x := by
  obtain ⟨x, _, h | h⟩ := Copy.flat_at h
  · exact ⟨_, h.2⟩
  · exact ⟨_, h.2⟩
theorem not_row {W : World} {g b j : Nat} {m : List (Int × Int)} {T : TypeId} {v : Value} (hg : W.heap[g]? = some (.cells (flat m).toArray T)) (h : W.cell? ⟨b, j, none⟩ = some v) (hv : ∀ x, v ≠ .int .i64 x) : ¬ b = g := by
  rintro rfl
  simp only [World.cell?, hg, List.getElem?_toArray] at h
  cases hh : (flat m)[j]? with
  | none => rw [hh] at h; cases h
  | some u =>
    obtain ⟨x, rfl⟩ := flat_int hh
    rw [hh] at h
    injection h with h
    exact hv x h.symm
theorem kept_grown {g : Nat} {W W' : World} (hk : Kept (fun b => b = g) W W') : W.grownBy W' (some g) := ⟨hk.os, hk.tape, hk.output, hk.size, fun k hk1 hne => hk.block k hk1 (fun e => hne (by rw [e]))⟩
theorem map_ne {W : World} {g b n : Nat} {D : Dat} {cs : Array Value} {T : TypeId} {k : TypeId} {R : Value → Option (Dat × List MemPlace)} (hg : W.heap[g]? = some (.cells cs T)) (h : W.ownsMap Try.prog k R b n D) : some b ≠ some g := by
  obtain ⟨es, clock, hb, _⟩ := h
  intro e
  injection e with e
  subst e
  rw [hg] at hb
  injection hb with hb
  cases hb
theorem ord_keptG {W W' : World} {l m : Ps} {bx g : Nat} {m' : List (Int × Int)} {T : TypeId} (h : IsOrd W l m bx) (hg : W.heap[g]? = some (.cells (flat m').toArray T)) (hk : Kept (fun b => b = g) W W') : IsOrd W' l m bx := by
  obtain ⟨bc, h1, D, ho, h2⟩ := h
  refine ⟨bc, hk.cell h1 (not_row hg h1 (fun x e => by cases e)), D, ho.kept (kept_grown hk) (map_ne hg ho), fun x hx => ?_⟩
  obtain ⟨g', t, pv, e1, e2, e3, e4⟩ := h2 x hx
  exact ⟨g', t, pv, e1, e2, e3.kept (kept_grown hk) (map_ne hg e3), e4⟩
theorem IsRed.keptG {W W' : World} {l m : Ps} {br bo bx n2 c2 g : Nat} {a2 : Option Addr} {m' : List (Int × Int)} {T : TypeId} (h : IsRed W l m br bo bx a2 n2 c2) (hg : W.heap[g]? = some (.cells (flat m').toArray T)) (hk : Kept (fun b => b = g) W W') (hr : Holds W' a2 n2 m) : IsRed W' l m br bo bx a2 n2 c2 :=
  ⟨hk.cell h.cr (not_row hg h.cr (fun x e => by cases e)), hk.cell h.co (not_row hg h.co (fun x e => by cases e)), ord_keptG h.ord hg hk, hr⟩
end Go.Proofs.Ytfjpogohdoojmaa.RedOf
