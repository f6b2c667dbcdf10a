/- laterPairs: the iterator over the pairs of a context and one that it is later than: its contract. -/
import Derived.Test.YtmjhgjlnpnkmkaaLpM
import Derived.Test.YtmjhgjlnpnkmkaaOrder
import Derived.RangeFuncNested
import Derived.RangeFuncLeaves
import Derived.Shelf.Abstract
import Derived.Shelf.RegionOpen
import Derived.OwnWalkIn
import Derived.TacticsInMore
import Derived.LoopNIn
import Derived.LoopIn
namespace Go.Proofs.Ytmjhgjlnpnkmkaa.LpI
open Go.RowKit Go.Shelf Pairs Rec RecEq Chain Find2 GoodM Keep GivesI Lows Order Bit Table Idx LpM Queue From
attribute [local go_sem] Oper.semAt_some
set_option linter.unusedVariables false
/-- What a round keeps: every block but B of what lay there: the blocks below n₀, and all cells. -/
structure KpB (n₀ B : Nat) (W W' : World) : Prop where
  size : W.heap.size ≤ W'.heap.size
  block : ∀ (k : Nat) (o : Obj), W.heap[k]? = some o → k ≠ B → (k < n₀ ∨ o.isCells = true) → W'.heap[k]? = some o
theorem KpB.refl (n₀ B : Nat) (W : World) : KpB n₀ B W W := ⟨Nat.le_refl _, fun _ _ h _ _ => h⟩
theorem KpB.trans {n₀ B : Nat} {W W' W'' : World} (h : KpB n₀ B W W') (k : KpB n₀ B W' W'') : KpB n₀ B W W'' :=
  ⟨Nat.le_trans h.size k.size, fun i o h1 h2 h3 => k.block i o (h.block i o h1 h2 h3) h2 h3⟩
theorem KpB.alloc {n₀ B : Nat} {W W' : World} (h : KpB n₀ B W W') (o : Obj) : KpB n₀ B W (W'.alloc o) :=
  ⟨by have := h.size; simp; omega, fun i o' h1 h2 h3 => by
    have e := h.block i o' h1 h2 h3
    exact (Below.heap_alloc W' o i (Array.getElem?_eq_some_iff.1 e).1).trans e⟩
theorem KpB.of_below {n₀ B : Nat} {W W' : World} (h : Below W.heap.size W W') : KpB n₀ B W W' := ⟨h.size, fun i o h1 _ _ => (h.block i (Array.getElem?_eq_some_iff.1 h1).1).trans h1⟩
theorem kpB_b {n₀ B : Nat} (W : World) (l : Nat) (o o' : Obj) (h : n₀ ≤ l) (ho : W.heap[l]? = some o) (hc : o.isCells = false) : KpB n₀ B W (W.putObj l o') :=
  ⟨by simp, fun i o2 h1 _ h3 => by
    refine (World.putObj_heap_other (fun e => ?_)).trans h1
    subst e
    rw [ho] at h1
    injection h1 with h1
    subst h1
    rcases h3 with h3 | h3
    · omega
    · rw [hc] at h3
      cases h3⟩
theorem KpB.cell {n₀ B : Nat} {W W' : World} (h : KpB n₀ B W W') {p : Addr} {v : Value} (hv : W.cell? p = some v) (h2 : p.block ≠ B) : W'.cell? p = some v := by
  obtain ⟨o, ho, hc⟩ := cells_of_cell hv
  have e := h.block _ o ho h2 (.inr hc)
  exact (World.cell?_of_block (e.trans ho.symm)).trans hv
/-- The block B holds ints: neither a map nor a reference to one. -/
def Ints (W : World) (B : Nat) : Prop := (∀ es c, W.heap[B]? ≠ some (.map es c)) ∧ ∀ r, W.cell? ⟨B, 0, none⟩ ≠ some (.map r)
theorem prev_kpb {n₀ B g : Nat} {W W' : World} {pv : Ps} (h : Prev W g pv) (hB : Ints W B) (hk : KpB n₀ B W W') (hn : W.heap.size ≤ n₀) : Prev W' g pv := by
  have hlt := World.ownsMap.lt h
  obtain ⟨es, clock, hb, F⟩ := h
  refine ⟨es, clock, hk.block g _ hb (fun e => ?_) (.inl (by omega)), F⟩
  subst e
  exact hB.1 _ _ hb
theorem ord_kpb {n₀ B bx : Nat} {W W' : World} {l m : Ps} (h : IsOrd W l m bx) (hB : Ints W B) (hk : KpB n₀ B W W') (hn : W.heap.size ≤ n₀) : IsOrd W' l m bx := by
  obtain ⟨bc, h1, D, ho, hkk⟩ := h
  have hlt := World.ownsMap.lt ho
  refine ⟨bc, hk.cell h1 (fun e => ?_), D, ?_, fun x hx => ?_⟩
  · have e' : bx = B := e
    subst e'
    exact hB.2 _ h1
  · obtain ⟨es, clock, hb, F⟩ := ho
    refine ⟨es, clock, hk.block bc _ hb (fun e => ?_) (.inl (by omega)), F⟩
    subst e
    exact hB.1 _ _ hb
  · obtain ⟨g, t, pv, a1, a2, a3, a4⟩ := hkk x hx
    exact ⟨g, t, pv, a1, a2, prev_kpb a3 hB hk hn, a4⟩
theorem holds_kpb {n₀ B : Nat} {W W' : World} {a : Option Addr} {n : Nat} {l : List (Int × Int)} (h : Holds W a n l) (hk : KpB n₀ B W W') (ha : 0 < n → ∀ b off, a = some ⟨b, off, none⟩ → b ≠ B) : Holds W' a n l := by
  obtain ⟨h1, h2⟩ := h
  refine ⟨h1, ?_⟩
  rcases h2 with h2 | ⟨b, off, e, hb, hc⟩
  · exact .inl h2
  · exact .inr ⟨b, off, e, Nat.lt_of_lt_of_le hb hk.size, fun i x hi => by
      have hp : 0 < n := by have := (List.getElem?_eq_some_iff.1 hi).1; omega
      exact ⟨hk.cell (hc i x hi).1 (ha hp b off e), hk.cell (hc i x hi).2 (ha hp b off e)⟩⟩
/-- A pair that comes. -/
abbrev Px (l m : Ps) := { x : Nat × Nat // x ∈ prs l m }
abbrev encs {l m : Ps} (x : Px l m) : Array Value := #[.int .i64 (x.1.1 : Int), .int .i64 (x.1.2 : Int)]
structure Env (W : World) (l m : Ps) (a1 : Option Addr) (n1 c1 br bo bx B : Nat) : Prop where
  good : good l m = true
  rcd : W.cell? ⟨br, 0, none⟩ = some (.slice a1 n1 c1)
  fn : W.cell? ⟨bo, 0, none⟩ = some (.func (.func 113) #[] #[.pointer (some ⟨bx, 0, none⟩)])
  ord : IsOrd W l m bx
  ctx : Holds W a1 n1 l
  ne1 : br ≠ B
  ne2 : bo ≠ B
  ne3 : 0 < n1 → ∀ b off, a1 = some ⟨b, off, none⟩ → b ≠ B
  ints : Ints W B
  lt : B < W.heap.size
structure Env2 (W : World) (l m : Ps) (a1 : Option Addr) (n1 c1 br bo bx : Nat) : Prop where
  rcd : W.cell? ⟨br, 0, none⟩ = some (.slice a1 n1 c1)
  fn : W.cell? ⟨bo, 0, none⟩ = some (.func (.func 113) #[] #[.pointer (some ⟨bx, 0, none⟩)])
  ord : IsOrd W l m bx
  ctx : Holds W a1 n1 l
theorem Env.kpb {n₀ B : Nat} {W W' : World} {l m : Ps} {a1 : Option Addr} {n1 c1 br bo bx : Nat} (h : Env W l m a1 n1 c1 br bo bx B) (hk : KpB n₀ B W W') (hn : W.heap.size = n₀) : Env2 W' l m a1 n1 c1 br bo bx :=
  ⟨hk.cell h.rcd h.ne1, hk.cell h.fn h.ne2, ord_kpb h.ord h.ints hk (by omega), holds_kpb h.ctx hk h.ne3⟩
theorem abides_alloc {β : Type} {B : Nat} {J : β → World → Prop} (h : AbidesFrom B J) {s : β} {W : World} (o : Obj) (hs : J s W) : J s (W.alloc o) :=
  h s W _ none hs (World.grownBy_alloc W o none) (fun r e => by cases e)
set_option maxRecDepth 100000 in
set_option maxHeartbeats 4000000 in
theorem lp_stops (n : Nat) (hn : 2 ≤ n) (l m : Ps) (a1 : Option Addr) (n1 c1 br bo bx B n₀ : Nat) (w : World) (hn0 : w.heap.size = n₀) (hE : Env w l m a1 n1 c1 br bo bx B) :
    SeqStopsK Fence.wide n Try.prog 100 #[.pointer (some ⟨br, 0, none⟩), .pointer (some ⟨bo, 0, none⟩)] (encs (l := l) (m := m)) (KpB n₀ B) (fun xs => xs.map (·.1) = prs l m) (fun pre => pre.map (·.1) <+: prs l m) (prs l m).length w := by
  intro l0 J Jx W hW hJ hJx hY h0
  have hl10 : l.length ≤ 10 := (Table.good_few hE.good).1
  have hln : l.length = n1 := hE.ctx.1
  have HE := Lib.hid hE
  have HW : Hid (KpB n₀ B w W) := KpB.of_below hW
  have HN0 := Lib.hid hn0
  have HWS : Hid (n₀ ≤ W.heap.size) := by unfold Hid; have := hW.size; omega
  have HLN := Lib.hid hln
  have hn10 : n1 ≤ 10 := by omega
  clear hE hW hn0 hln
  show CallsIn Fence.wide n Try.prog 100 #[.func (.yield l0) #[] #[], .pointer (some ⟨br, 0, none⟩), .pointer (some ⟨bo, 0, none⟩)] W _
  refine callsIn_of_wp Try.func100 rfl trivial ?_ rfl
  simp only [Try.ntmps100, List.size_toArray, List.length_cons, List.length_nil, Nat.reduceAdd, Nat.reduceSub, Array.replicate_succ, Array.replicate_zero, List.push_toArray, List.append_toArray, List.nil_append, List.cons_append]
  have e0 := (HE.out.kpb HW.out HN0.out).rcd
  gi_wp2
  gi_loopw [11] (fun s11 wr => ∃ (i : Nat) (pre : List (Px l m)), i ≤ n1 ∧ s11 = .int .i64 (i : Int) ∧ Hid (pre.map (·.1) = upto l m i 0) ∧ Hid (J pre wr) ∧ Hid (KpB n₀ B w wr) ∧ Hid (W.heap.size ≤ wr.heap.size)) (fun s11 _ => n1 - (intOf s11).toNat)
  case atStart => exact ⟨0, [], Nat.zero_le _, rfl, rfl, h0, HW.out, Nat.le_refl _⟩
  case round =>
    obtain ⟨i, pre, hi, rfl, HP, HJ, HK, HS⟩ := hrel
    clear e0
    by_cases hlt : i < n1
    · obtain ⟨b, off, x, y, rfl, hx, e1, e2⟩ := (HE.out.kpb HK.out HN0.out).ctx.at i hlt
      have hii : (i : Int) < (n1 : Int) := by omega
      have HX := Lib.hid hx
      clear hx
      have e3 := (HE.out.kpb HK.out HN0.out).rcd
      have hbl := Below.heap_alloc wr (.cells #[.int .i64 x, .int .i64 y] 89)
      have u1 := box_first wr (.int .i64 x) (.int .i64 y) 89
      have HK2 : Hid (KpB n₀ B w (wr.alloc (.cells #[.int .i64 x, .int .i64 y] 89))) := HK.out.alloc _
      have q3 := (HE.out.kpb HK2.out HN0.out).rcd
      have HJ2 : Hid (J pre (wr.alloc (.cells #[.int .i64 x, .int .i64 y] 89))) := abides_alloc (fun s A C row hs hg hr => hJ s A C row hs hg hr) _ HJ.out
      have HS2 : Hid (W.heap.size ≤ (wr.alloc (.cells #[.int .i64 x, .int .i64 y] 89)).heap.size) := by unfold Hid; have := HS.out; simp; omega
      have HBA : Hid (wr.heap.size ≠ B) := by
        intro e
        have a1 := HS.out
        have a2 := HWS.out
        have a3 := HE.out.lt
        have a4 := HN0.out
        omega
      have HNX : Hid (num l i = x) := num_at HX.out
      have HXK : Hid (x ∈ keys l) := List.mem_map.2 ⟨(x, y), List.mem_of_getElem? HX.out, rfl⟩
      have HXR := Lib.hid (Lows.nums HE.out.good HX.out)
      obtain ⟨ba, hba⟩ : ∃ ba, wr.heap.size = ba := ⟨_, rfl⟩
      gi_wp2
      generalize wr.alloc (.cells #[.int .i64 x, .int .i64 y] 89) = Y at *
      rw [hba] at u1 HBA
      gi_loopw [19] (fun s19 wr2 => ∃ (j : Nat) (pre : List (Px l m)), j ≤ n1 ∧ s19 = .int .i64 (j : Int) ∧ Hid (pre.map (·.1) = upto l m i j) ∧ Hid (J pre wr2) ∧ Hid (KpB n₀ B w wr2) ∧ Hid (W.heap.size ≤ wr2.heap.size) ∧ Hid (wr2.cell? ⟨ba, 0, none⟩ = some (.int .i64 x))) (fun s19 _ => n1 - (intOf s19).toNat)
      case atStart => exact ⟨0, pre, Nat.zero_le _, rfl, HP, HJ2, HK2, HS2, u1⟩
      case round =>
        rename World => wr2
        obtain ⟨j, pre2, hj, rfl, HP3, HJ3, HK3, HS3, HC3⟩ := hrel
        clear u1 q3 e3 e1 e2
        by_cases hlj : j < n1
        · obtain ⟨b', off', x', y', hbe, hx', d1, d2⟩ := (HE.out.kpb HK3.out HN0.out).ctx.at j hlj
          injection hbe with hbe
          injection hbe with hb1 hb2 hb3
          subst hb1 hb2
          have hjj : (j : Int) < (n1 : Int) := by omega
          have HX' := Lib.hid hx'
          have HNX' : Hid (num l j = x') := num_at hx'
          have HXR' := Lib.hid (Lows.nums HE.out.good hx')
          clear hx'
          have u1 := box_first wr2 (.int .i64 x') (.int .i64 y') 89
          have HK4 : Hid (KpB n₀ B w (wr2.alloc (.cells #[.int .i64 x', .int .i64 y'] 89))) := HK3.out.alloc _
          have q4 := (HE.out.kpb HK4.out HN0.out).fn
          have HO4 := Lib.hid (HE.out.kpb HK4.out HN0.out).ord
          have HJ4 : Hid (J pre2 (wr2.alloc (.cells #[.int .i64 x', .int .i64 y'] 89))) := abides_alloc (fun s A C row hs hg hr => hJ s A C row hs hg hr) _ HJ3.out
          have HS4 : Hid (W.heap.size ≤ (wr2.alloc (.cells #[.int .i64 x', .int .i64 y'] 89)).heap.size) := by unfold Hid; have := HS3.out; simp; omega
          have c4 := ((KpB.refl n₀ B wr2).alloc (.cells #[.int .i64 x', .int .i64 y'] 89)).cell HC3.out HBA.out
          have hlm : lt l m i j = later m x x' := by unfold lt; rw [HNX.out, HNX'.out]
          have HCI := Lib.hid (isLater_any bx l m x x' (wr2.alloc (.cells #[.int .i64 x', .int .i64 y'] 89)) HO4.out HXK.out (by have := HXR.out; omega) (by have := HXR'.out; omega))
          rw [← hlm] at HCI
          clear hlm
          cases hlt2 : lt l m i j with
          | true =>
            rw [hlt2] at HCI
            have hpx := upto_pre (l := l) (m := m) (i := i) (j := j + 1) (by rw [HLN.out]; exact hlt) (by rw [HLN.out]; omega)
            rw [upto_hit hlt2] at hpx
            have hmem : (i, j) ∈ prs l m := hpx.subset (by simp)
            have hlen : pre2.length < (prs l m).length := by
              have a := hpx.length_le
              rw [← HP3.out, List.length_append, List.length_map] at a
              simp at a
              omega
            obtain ⟨fn, tmps, assign, body, hy, hR⟩ := hY pre2 ⟨(i, j), hmem⟩ (wr2.alloc (.cells #[.int .i64 x', .int .i64 y'] 89)) HJ4.out hlen
            dsimp only [encs] at hy
            have HPX := Lib.hid hpx
            have HUP : Hid ((pre2 ++ [(⟨(i, j), hmem⟩ : Px l m)]).map (fun x => x.1) = upto l m i (j + 1)) := by
              unfold Hid
              rw [List.map_append, HP3.out, upto_hit hlt2]
              rfl
            have HLT := Lib.hid hlt2
            clear hpx hlen hlt2
            gi_wp2
            refine ⟨trivial, (fun h => by cases h), ?_⟩
            refine (callsIn_wide.2 HCI.out).mono ?_
            rintro e w' ⟨rfl, rfl⟩
            gi_wp2
            refine ⟨(fun h => by cases h), ?_⟩
            refine hR.mono ?_
            rintro e W3 (⟨rfl, hJ3, hk3⟩ | ⟨rfl, hJx3⟩)
            · have HK5 : Hid (KpB n₀ B w W3) := HK4.out.trans hk3
              have HC5 : Hid (W3.cell? ⟨ba, 0, none⟩ = some (.int .i64 x)) := hk3.cell c4 HBA.out
              have HS5 : Hid (W.heap.size ≤ W3.heap.size) := Nat.le_trans HS4.out hk3.size
              have HJ5 := Lib.hid hJ3
              clear hJ3 hk3
              gi_wp2
              go_roundw
              case rel => exact ⟨j + 1, _, by omega, by go_num, HUP, HJ5, HK5, HS5, HC5⟩
              case measure => simp [intOf]; omega
            · have HJ5 := Lib.hid hJx3
              clear hJx3
              gi_wp2
              refine bodyPost_ret (results_none rfl _ _ _) rfl ?_
              exact ⟨⟨_, rfl⟩, .inr ⟨_, by rw [HUP.out, upto_hit HLT.out]; exact HPX.out, HJ5.out⟩⟩
          | false =>
            rw [hlt2] at HCI
            have HUP : Hid (pre2.map (·.1) = upto l m i (j + 1)) := by unfold Hid; rw [HP3.out, upto_miss hlt2]
            clear hlt2
            gi_wp2
            refine ⟨trivial, (fun h => by cases h), ?_⟩
            refine (callsIn_wide.2 HCI.out).mono ?_
            rintro e w' ⟨rfl, rfl⟩
            gi_wp2
            refine ⟨(fun _ h => by cases h), ?_⟩
            gi_wp2
            go_roundw
            case rel => exact ⟨j + 1, _, by omega, by go_num, HUP, HJ4, HK4, HS4, c4⟩
            case measure => simp [intOf]; omega
        · obtain rfl : j = n1 := by omega
          have hjj : ¬ (j : Int) < (j : Int) := by omega
          gi_wp2
          go_roundw
          case rel => exact ⟨i + 1, pre2, by omega, by go_num, by unfold Hid; rw [HP3.out, upto_next, HLN.out], HJ3, HK3, HS3⟩
          case measure => simp [intOf]; omega
    · obtain rfl : i = n1 := by omega
      have hii : ¬ (i : Int) < (i : Int) := by omega
      gi_wp2
      go_end0
      refine ⟨⟨_, rfl⟩, .inl ⟨pre, ?_, HJ.out⟩⟩
      rw [HP.out, ← HLN.out, upto_all]
end Go.Proofs.Ytmjhgjlnpnkmkaa.LpI
