/- Contracts of the law file's helpers on records: size, copy, equality. -/
import Derived.Test.YtfbgekhkbbhggaaPairs
import Derived.Deep.QuietTactic
import Derived.BigQuiet
import Derived.StillTailTactics
namespace Go.Proofs.Ytfbgekhkbbhggaa.Rec
open Go.RowKit Pairs

theorem info_parts {t : TypeId} {z : Option Value} {a b : Nat} (h : (Try.prog.info? t).map (fun i => (i.zero, i.size, i.bytes)) = some (z, a, b)) : ∃ i0, Try.prog.info? t = some i0 ∧ i0.zero = z ∧ i0.size = a ∧ i0.bytes = b := by
  cases hi : Try.prog.info? t with
  | none => rw [hi] at h; cases h
  | some i0 =>
    rw [hi] at h
    simp only [Option.map_some, Option.some.injEq, Prod.mk.injEq] at h
    exact ⟨i0, rfl, h.1, h.2.1, h.2.2⟩
theorem below_alloc2 (w : World) (o1 o2 : Obj) : Below w.heap.size w ((w.alloc o1).alloc o2) := ((Below.refl _ _).alloc (Nat.le_refl _) o1).alloc (by simp) o2
theorem boxes3 (w : World) (u1 v1 u2 v2 u3 v3 : Value) (t1 t2 t3 : TypeId) :
    (((w.alloc (.cells #[u1, v1] t1)).alloc (.cells #[u2, v2] t2)).alloc (.cells #[u3, v3] t3)).heap.size = w.heap.size + 3 ∧
    (((w.alloc (.cells #[u1, v1] t1)).alloc (.cells #[u2, v2] t2)).alloc (.cells #[u3, v3] t3)).cell? ⟨w.heap.size, 0, none⟩ = some u1 ∧
    (((w.alloc (.cells #[u1, v1] t1)).alloc (.cells #[u2, v2] t2)).alloc (.cells #[u3, v3] t3)).cell? ⟨w.heap.size, 1, none⟩ = some v1 ∧
    (((w.alloc (.cells #[u1, v1] t1)).alloc (.cells #[u2, v2] t2)).alloc (.cells #[u3, v3] t3)).cell? ⟨w.heap.size + 1, 0, none⟩ = some u2 ∧
    (((w.alloc (.cells #[u1, v1] t1)).alloc (.cells #[u2, v2] t2)).alloc (.cells #[u3, v3] t3)).cell? ⟨w.heap.size + 1, 1, none⟩ = some v2 ∧
    (((w.alloc (.cells #[u1, v1] t1)).alloc (.cells #[u2, v2] t2)).alloc (.cells #[u3, v3] t3)).cell? ⟨w.heap.size + 2, 0, none⟩ = some u3 ∧
    (((w.alloc (.cells #[u1, v1] t1)).alloc (.cells #[u2, v2] t2)).alloc (.cells #[u3, v3] t3)).cell? ⟨w.heap.size + 2, 1, none⟩ = some v3 ∧
    (((w.alloc (.cells #[u1, v1] t1)).alloc (.cells #[u2, v2] t2)).alloc (.cells #[u3, v3] t3)).frozen? ⟨w.heap.size + 1, 0, none⟩ = false ∧
    (((w.alloc (.cells #[u1, v1] t1)).alloc (.cells #[u2, v2] t2)).alloc (.cells #[u3, v3] t3)).frozen? ⟨w.heap.size + 1, 1, none⟩ = false ∧
    (((w.alloc (.cells #[u1, v1] t1)).alloc (.cells #[u2, v2] t2)).alloc (.cells #[u3, v3] t3)).frozen? ⟨w.heap.size + 2, 0, none⟩ = false ∧
    (((w.alloc (.cells #[u1, v1] t1)).alloc (.cells #[u2, v2] t2)).alloc (.cells #[u3, v3] t3)).frozen? ⟨w.heap.size + 2, 1, none⟩ = false ∧
    Below w.heap.size w (((w.alloc (.cells #[u1, v1] t1)).alloc (.cells #[u2, v2] t2)).alloc (.cells #[u3, v3] t3)) := by
  have e : ∀ (w : World) (o : Obj), (w.alloc o).heap = w.heap.push o := fun _ _ => rfl
  have i0 : (((w.alloc (.cells #[u1, v1] t1)).alloc (.cells #[u2, v2] t2)).alloc (.cells #[u3, v3] t3)).heap[w.heap.size]? = some (.cells #[u1, v1] t1) := by
    rw [e, e, e, Array.getElem?_push, if_neg (by simp; omega), Array.getElem?_push, if_neg (by simp), Array.getElem?_push, if_pos rfl]
  have i1 : (((w.alloc (.cells #[u1, v1] t1)).alloc (.cells #[u2, v2] t2)).alloc (.cells #[u3, v3] t3)).heap[w.heap.size + 1]? = some (.cells #[u2, v2] t2) := by
    rw [e, e, e, Array.getElem?_push, if_neg (by simp), Array.getElem?_push, if_pos (by simp)]
  have i2 : (((w.alloc (.cells #[u1, v1] t1)).alloc (.cells #[u2, v2] t2)).alloc (.cells #[u3, v3] t3)).heap[w.heap.size + 2]? = some (.cells #[u3, v3] t3) := by
    rw [e, e, e, Array.getElem?_push, if_pos (by simp)]
  refine ⟨by rw [e, e, e]; simp, ?_, ?_, ?_, ?_, ?_, ?_, ?_, ?_, ?_, ?_, below_alloc3 _ _ _ _⟩
  · unfold World.cell?; rw [i0]; rfl
  · unfold World.cell?; rw [i0]; rfl
  · unfold World.cell?; rw [i1]; rfl
  · unfold World.cell?; rw [i1]; rfl
  · unfold World.cell?; rw [i2]; rfl
  · unfold World.cell?; rw [i2]; rfl
  · unfold World.frozen?; rw [i1]; rfl
  · unfold World.frozen?; rw [i1]; rfl
  · unfold World.frozen?; rw [i2]; rfl
  · unfold World.frozen?; rw [i2]; rfl
/-- What a copy leaves: a new slice with the same pairs. -/
def Copied (T : TypeId) (B : Nat) (w : World) (n : Nat) (l : List (Int × Int)) (e : Ending) (w' : World) : Prop :=
  ∃ g : Nat, e = .returned (.slice (some ⟨g, 0, none⟩) n n) ∧ w'.ownsRow B T 2 (.slice (some ⟨g, 0, none⟩) n n) n (flat l) ∧ Below B w w'

theorem szContextS_any (a : Option Addr) (n c : Nat) (z : Int) (hz0 : 0 ≤ z) (hz1 : z ≤ 1048576) (hn : n ≤ 9223372036854775807) (w : World) :
    Calls Try.prog 94 #[.slice a n c, .int .i64 z] w fun e w' => e = .returned (.int .i64 (if z < n then -1 else z - n)) ∧ w = w' := by
  go_enter Try.func94, Try.ntmps94
  by_cases h : z < n
  · rw [if_pos h]
    have hh : z - n < 0 := by omega
    go_wp2
    go_ret
    exact ⟨rfl, rfl⟩
  · rw [if_neg h]
    have hh : ¬ z - n < 0 := by omega
    go_wp2
    go_ret
    exact ⟨rfl, rfl⟩
theorem toContext_any (x y : Int) (w : World) :
    Calls Try.prog 122 #[.agg #[.int .i64 x, .int .i64 y]] w fun e w' => e = .returned (.agg #[.int .i64 x, .int .i64 y]) ∧ Below w.heap.size w w' := by
  go_enter Try.func122, Try.ntmps122
  go_wp2
  try simp only [Exit.inBlock, Exit.then]
  refine bodyPost_ret (v := .agg #[.int .i64 x, .int .i64 y]) (by simp [results, Try.results122, go_sem]) rfl ⟨rfl, below_alloc3 _ _ _ _⟩
theorem infoContext : (Try.prog.info? 123).map (fun i => (i.zero, i.size, i.bytes)) = some (some (.agg #[.int .i64 0, .int .i64 0]), 2, 16) := by kernel_rfl

set_option maxRecDepth 100000 in
set_option maxHeartbeats 1000000 in
theorem toContextS_any (a : Option Addr) (n c : Nat) (l : List (Int × Int)) (hz : n ≤ 1048576) (w : World) (h : Holds w a n l) :
    Calls Try.prog 97 #[.slice a n c] w (Copied 123 w.heap.size w n l) := by
  obtain ⟨i0, hi, hz0, hz1, hz2⟩ := info_parts infoContext
  obtain ⟨B, hB⟩ : ∃ B, w.heap.size = B := ⟨_, rfl⟩
  have HB := Lib.hid hB
  have HH := Lib.hid h
  rw [hB]
  clear hB h
  go_enter Try.func97, Try.ntmps97
  go_wp2_with (at_make; refine wpList_make_full _ rfl _ _ 31 rfl B 123 i0 (.agg #[.int .i64 0, .int .i64 0]) 2 Try.underlying31 hi hz0 hz1 .i64 .i64 _ _ n rfl rfl (by omega) (by omega) (by rw [hz2]; omega) (by unfold maxLen; omega) (by rw [HB.out]; omega) ?_; intro w1 hown hgrow)
  have hU : Upto 123 B w w1 B n l 0 := by
    rw [HB.out] at hown
    exact ⟨_, hown, fun i hi => absurd hi (by omega), (Below.refl _ _).grown hgrow (by rw [HB.out]; omega) (fun k hk => by cases hk)⟩
  clear hown hgrow
  rw [HB.out]
  go_loopw [4] (fun i wr => ∃ k : Nat, k ≤ n ∧ i = .int .i64 k ∧ Upto 123 B w wr B n l k) (fun i _ => n - (intOf i).toNat)
  case atStart => exact ⟨0, Nat.zero_le _, rfl, hU⟩
  case round =>
    obtain ⟨k, hk, rfl, hR⟩ := hrel
    clear hU
    by_cases hlt : k < n
    · have hbel := hR.bel
      have hsz := hR.size
      rw [← HB.out] at hbel
      rw [HB.out] at hsz
      obtain ⟨b, off, x, y, rfl, hx, e1, e2⟩ := (HH.out.below hbel).at k hlt
      have HX := Lib.hid hx
      have HR := Lib.hid hR
      clear hx hbel hR
      have hi : (k : Int) < (n : Int) := by omega
      go_wp2_with fail
      refine (toContext_any x y _).mono ?_
      rintro e wq ⟨rfl, hq⟩
      have hQ := upto_quiet HR.out hsz hq
      obtain ⟨⟨v0, hv0⟩, hf0⟩ := upto_facts hQ (k * 2) (by omega)
      obtain ⟨⟨v1, hv1⟩, hf1⟩ := upto_facts hQ (k * 2 + 1) (by omega)
      have hR' := upto_step hQ (Nat.le_refl _) hlt HX.out
      have HR2 := Lib.hid hR'
      clear hR' hQ hq e1 e2
      go_wp2_with fail
      exact ⟨⟨k + 1, by omega, by go_num, HR2.out⟩, by simp [intOf]; omega⟩
    · obtain rfl : k = n := by omega
      have hE := upto_end hR HH.out.1
      go_wp2
      go_ret
      exact ⟨B, rfl, hE.1, hE.2⟩
theorem eqContext_same (x y : Int) (w : World) :
    Calls Try.prog 129 #[.agg #[.int .i64 x, .int .i64 y], .agg #[.int .i64 x, .int .i64 y]] w fun e w' => e = .returned (.bool true) ∧ Below w.heap.size w w' := by
  go_enter Try.func129, Try.ntmps129
  go_wp2
  go_ret
  exact ⟨rfl, below_alloc2 _ _ _⟩
set_option maxRecDepth 100000 in
set_option maxHeartbeats 1000000 in
theorem eqContextS_same (a1 a2 : Option Addr) (n c1 c2 : Nat) (l : List (Int × Int)) (hz : n ≤ 1048576) (w : World) (h1 : Holds w a1 n l) (h2 : Holds w a2 n l) :
    Calls Try.prog 104 #[.slice a1 n c1, .slice a2 n c2] w fun e w' => e = .returned (.bool true) ∧ Below w.heap.size w w' := by
  have H1 := Lib.hid h1
  have H2 := Lib.hid h2
  clear h1 h2
  go_enter Try.func104, Try.ntmps104
  go_wp2
  go_loopw [5] (fun i wr => ∃ k : Nat, k ≤ n ∧ i = .int .i64 k ∧ Below w.heap.size w wr) (fun i _ => n - (intOf i).toNat)
  case atStart => exact ⟨0, Nat.zero_le _, rfl, Below.refl _ _⟩
  case round =>
    obtain ⟨k, hk, rfl, hb⟩ := hrel
    by_cases hlt : k < n
    · obtain ⟨b, off, x, y, rfl, hx, e1, e2⟩ := (H1.out.below hb).at k hlt
      obtain ⟨b', off', x', y', rfl, hx', e1', e2'⟩ := (H2.out.below hb).at k hlt
      obtain ⟨rfl, rfl⟩ : x' = x ∧ y' = y := by
        rw [hx] at hx'
        injection hx' with hx'
        injection hx' with ha hb
        exact ⟨ha.symm, hb.symm⟩
      have HX := Lib.hid hx
      clear hx hx'
      have hi : (k : Int) < (n : Int) := by omega
      go_wp2_with fail
      refine wp_region_still_tail 8 (by kernel_rfl) (by kernel_rfl) ?_
      simp only [List.take_succ_cons, List.take_zero, List.drop_succ_cons, List.drop_zero]
      repeat still_step
      refine wpStill_nil ?_
      go_wp2_with fail
      refine (eqContext_same x' y' _).mono ?_
      rintro e wq ⟨rfl, hq⟩
      have hb' := hb.drew.trans (hq.mono hb.drew.size)
      clear hb e1 e2 e1' e2' hq
      go_wp2_with fail
      exact ⟨⟨k + 1, by omega, by go_num, hb'⟩, by simp [intOf]; omega⟩
    · go_wp2
      go_ret
      exact ⟨rfl, hb⟩

theorem szRelationS_any (a : Option Addr) (n c : Nat) (z : Int) (hz0 : 0 ≤ z) (hz1 : z ≤ 1048576) (hn : n ≤ 9223372036854775807) (w : World) :
    Calls Try.prog 95 #[.slice a n c, .int .i64 z] w fun e w' => e = .returned (.int .i64 (if z < n then -1 else z - n)) ∧ w = w' := by
  go_enter Try.func95, Try.ntmps95
  by_cases h : z < n
  · rw [if_pos h]
    have hh : z - n < 0 := by omega
    go_wp2
    go_ret
    exact ⟨rfl, rfl⟩
  · rw [if_neg h]
    have hh : ¬ z - n < 0 := by omega
    go_wp2
    go_ret
    exact ⟨rfl, rfl⟩
theorem toRelation_any (x y : Int) (w : World) :
    Calls Try.prog 123 #[.agg #[.int .i64 x, .int .i64 y]] w fun e w' => e = .returned (.agg #[.int .i64 x, .int .i64 y]) ∧ Below w.heap.size w w' := by
  go_enter Try.func123, Try.ntmps123
  go_wp2
  try simp only [Exit.inBlock, Exit.then]
  refine bodyPost_ret (v := .agg #[.int .i64 x, .int .i64 y]) (by simp [results, Try.results123, go_sem]) rfl ⟨rfl, below_alloc3 _ _ _ _⟩
theorem infoRelation : (Try.prog.info? 125).map (fun i => (i.zero, i.size, i.bytes)) = some (some (.agg #[.int .i64 0, .int .i64 0]), 2, 16) := by kernel_rfl

set_option maxRecDepth 100000 in
set_option maxHeartbeats 1000000 in
theorem toRelationS_any (a : Option Addr) (n c : Nat) (l : List (Int × Int)) (hz : n ≤ 1048576) (w : World) (h : Holds w a n l) :
    Calls Try.prog 98 #[.slice a n c] w (Copied 125 w.heap.size w n l) := by
  obtain ⟨i0, hi, hz0, hz1, hz2⟩ := info_parts infoRelation
  obtain ⟨B, hB⟩ : ∃ B, w.heap.size = B := ⟨_, rfl⟩
  have HB := Lib.hid hB
  have HH := Lib.hid h
  rw [hB]
  clear hB h
  go_enter Try.func98, Try.ntmps98
  go_wp2_with (at_make; refine wpList_make_full _ rfl _ _ 32 rfl B 125 i0 (.agg #[.int .i64 0, .int .i64 0]) 2 Try.underlying32 hi hz0 hz1 .i64 .i64 _ _ n rfl rfl (by omega) (by omega) (by rw [hz2]; omega) (by unfold maxLen; omega) (by rw [HB.out]; omega) ?_; intro w1 hown hgrow)
  have hU : Upto 125 B w w1 B n l 0 := by
    rw [HB.out] at hown
    exact ⟨_, hown, fun i hi => absurd hi (by omega), (Below.refl _ _).grown hgrow (by rw [HB.out]; omega) (fun k hk => by cases hk)⟩
  clear hown hgrow
  rw [HB.out]
  go_loopw [4] (fun i wr => ∃ k : Nat, k ≤ n ∧ i = .int .i64 k ∧ Upto 125 B w wr B n l k) (fun i _ => n - (intOf i).toNat)
  case atStart => exact ⟨0, Nat.zero_le _, rfl, hU⟩
  case round =>
    obtain ⟨k, hk, rfl, hR⟩ := hrel
    clear hU
    by_cases hlt : k < n
    · have hbel := hR.bel
      have hsz := hR.size
      rw [← HB.out] at hbel
      rw [HB.out] at hsz
      obtain ⟨b, off, x, y, rfl, hx, e1, e2⟩ := (HH.out.below hbel).at k hlt
      have HX := Lib.hid hx
      have HR := Lib.hid hR
      clear hx hbel hR
      have hi : (k : Int) < (n : Int) := by omega
      go_wp2_with fail
      refine (toRelation_any x y _).mono ?_
      rintro e wq ⟨rfl, hq⟩
      have hQ := upto_quiet HR.out hsz hq
      obtain ⟨⟨v0, hv0⟩, hf0⟩ := upto_facts hQ (k * 2) (by omega)
      obtain ⟨⟨v1, hv1⟩, hf1⟩ := upto_facts hQ (k * 2 + 1) (by omega)
      have hR' := upto_step hQ (Nat.le_refl _) hlt HX.out
      have HR2 := Lib.hid hR'
      clear hR' hQ hq e1 e2
      go_wp2_with fail
      exact ⟨⟨k + 1, by omega, by go_num, HR2.out⟩, by simp [intOf]; omega⟩
    · obtain rfl : k = n := by omega
      have hE := upto_end hR HH.out.1
      go_wp2
      go_ret
      exact ⟨B, rfl, hE.1, hE.2⟩
theorem eqRelation_same (x y : Int) (w : World) :
    Calls Try.prog 130 #[.agg #[.int .i64 x, .int .i64 y], .agg #[.int .i64 x, .int .i64 y]] w fun e w' => e = .returned (.bool true) ∧ Below w.heap.size w w' := by
  go_enter Try.func130, Try.ntmps130
  go_wp2
  go_ret
  exact ⟨rfl, below_alloc2 _ _ _⟩
set_option maxRecDepth 100000 in
set_option maxHeartbeats 1000000 in
theorem eqRelationS_same (a1 a2 : Option Addr) (n c1 c2 : Nat) (l : List (Int × Int)) (hz : n ≤ 1048576) (w : World) (h1 : Holds w a1 n l) (h2 : Holds w a2 n l) :
    Calls Try.prog 105 #[.slice a1 n c1, .slice a2 n c2] w fun e w' => e = .returned (.bool true) ∧ Below w.heap.size w w' := by
  have H1 := Lib.hid h1
  have H2 := Lib.hid h2
  clear h1 h2
  go_enter Try.func105, Try.ntmps105
  go_wp2
  go_loopw [5] (fun i wr => ∃ k : Nat, k ≤ n ∧ i = .int .i64 k ∧ Below w.heap.size w wr) (fun i _ => n - (intOf i).toNat)
  case atStart => exact ⟨0, Nat.zero_le _, rfl, Below.refl _ _⟩
  case round =>
    obtain ⟨k, hk, rfl, hb⟩ := hrel
    by_cases hlt : k < n
    · obtain ⟨b, off, x, y, rfl, hx, e1, e2⟩ := (H1.out.below hb).at k hlt
      obtain ⟨b', off', x', y', rfl, hx', e1', e2'⟩ := (H2.out.below hb).at k hlt
      obtain ⟨rfl, rfl⟩ : x' = x ∧ y' = y := by
        rw [hx] at hx'
        injection hx' with hx'
        injection hx' with ha hb
        exact ⟨ha.symm, hb.symm⟩
      have HX := Lib.hid hx
      clear hx hx'
      have hi : (k : Int) < (n : Int) := by omega
      go_wp2_with fail
      refine wp_region_still_tail 8 (by kernel_rfl) (by kernel_rfl) ?_
      simp only [List.take_succ_cons, List.take_zero, List.drop_succ_cons, List.drop_zero]
      repeat still_step
      refine wpStill_nil ?_
      go_wp2_with fail
      refine (eqRelation_same x' y' _).mono ?_
      rintro e wq ⟨rfl, hq⟩
      have hb' := hb.drew.trans (hq.mono hb.drew.size)
      clear hb e1 e2 e1' e2' hq
      go_wp2_with fail
      exact ⟨⟨k + 1, by omega, by go_num, hb'⟩, by simp [intOf]; omega⟩
    · go_wp2
      go_ret
      exact ⟨rfl, hb⟩

def left (n1 n2 : Nat) : Int := if 1048576 < (n1 : Int) + n2 then -1 else 1048576 - n1 - n2
set_option maxRecDepth 100000 in
set_option maxHeartbeats 1000000 in
theorem szRecord_any (a1 a2 : Option Addr) (n1 c1 n2 c2 : Nat) (h1 : n1 ≤ 9223372036854775807) (h2 : n2 ≤ 9223372036854775807) (w : World) :
    Calls Try.prog 50 #[.agg #[.slice a1 n1 c1, .slice a2 n2 c2], .int .i64 1048576] w fun e w' => e = .returned (.int .i64 (left n1 n2)) ∧ Below w.heap.size w w' := by
  have hb := below_alloc w (.cells #[.slice a1 n1 c1, .slice a2 n2 c2] 25)
  have hf := box_first w (.slice a1 n1 c1) (.slice a2 n2 c2) 25
  have hf2 := box_second w (.slice a1 n1 c1) (.slice a2 n2 c2) 25
  go_enter Try.func50, Try.ntmps50
  go_wp2_with fail
  generalize w.alloc (.cells #[.slice a1 n1 c1, .slice a2 n2 c2] 25) = W at *
  refine (szContextS_any a1 n1 c1 1048576 (by omega) (by omega) h1 _).mono ?_
  rintro e w' ⟨rfl, rfl⟩
  by_cases g1 : (1048576 : Int) < n1
  · rw [if_pos g1]
    go_wp2_with fail
    go_ret
    exact ⟨by unfold left; rw [if_pos (by omega)]; rfl, hb⟩
  · rw [if_neg g1]
    have g1' : ¬ 1048576 - (n1 : Int) < 0 := by omega
    go_wp2_with fail
    refine (szRelationS_any a2 n2 c2 (1048576 - n1) (by omega) (by omega) h2 _).mono ?_
    rintro e w' ⟨rfl, rfl⟩
    by_cases g2 : (1048576 : Int) - n1 < n2
    · rw [if_pos g2]
      go_wp2_with fail
      go_ret
      exact ⟨by unfold left; rw [if_pos (by omega)]; rfl, hb⟩
    · rw [if_neg g2]
      have g2' : ¬ 1048576 - (n1 : Int) - n2 < 0 := by omega
      go_wp2_with fail
      go_ret
      exact ⟨by unfold left; rw [if_neg (by omega)]; rfl, hb⟩
/-- A record of its own: two new rows. -/
structure Own (w : World) (B g1 n1 c1 g2 n2 c2 : Nat) (l1 l2 : List (Int × Int)) : Prop where
  ctx : w.ownsRow B 123 2 (.slice (some ⟨g1, 0, none⟩) n1 c1) n1 (flat l1)
  rel : w.ownsRow B 125 2 (.slice (some ⟨g2, 0, none⟩) n2 c2) n2 (flat l2)
  ne : g1 ≠ g2
set_option maxRecDepth 100000 in
set_option maxHeartbeats 1000000 in
theorem toRecord_any (a1 a2 : Option Addr) (n1 c1 n2 c2 : Nat) (l1 l2 : List (Int × Int)) (h1 : n1 ≤ 1048576) (h2 : n2 ≤ 1048576) (w : World) (H1 : Holds w a1 n1 l1) (H2 : Holds w a2 n2 l2) :
    Calls Try.prog 53 #[.agg #[.slice a1 n1 c1, .slice a2 n2 c2]] w fun e w' => ∃ g1 g2 : Nat, e = .returned (.agg #[.slice (some ⟨g1, 0, none⟩) n1 n1, .slice (some ⟨g2, 0, none⟩) n2 n2]) ∧ Own w' w.heap.size g1 n1 n1 g2 n2 n2 l1 l2 ∧ Below w.heap.size w w' := by
  have HH1 := Lib.hid H1
  have HH2 := Lib.hid H2
  clear H1 H2
  go_enter Try.func53, Try.ntmps53
  go_wp2_with fail
  obtain ⟨hs, x1, x2, y1, y2, z1, z2, fy1, fy2, fz1, fz2, hb0⟩ := boxes3 w (.slice a1 n1 c1) (.slice a2 n2 c2) (.slice none 0 0) (.slice none 0 0) (.slice none 0 0) (.slice none 0 0) 25 34 34
  generalize ((w.alloc (.cells #[.slice a1 n1 c1, .slice a2 n2 c2] 25)).alloc (.cells #[.slice none 0 0, .slice none 0 0] 34)).alloc (.cells #[.slice none 0 0, .slice none 0 0] 34) = W at *
  refine (toContextS_any a1 n1 c1 l1 h1 W (HH1.out.below hb0)).mono ?_
  rintro e w2 ⟨g1, rfl, o1, b2⟩
  have k1 := (b2.cell (p := ⟨w.heap.size, 1, none⟩) (by show w.heap.size < _; omega)).trans x2
  have k2 := (b2.cell (p := ⟨w.heap.size + 1, 0, none⟩) (by show w.heap.size + 1 < _; omega)).trans y1
  have k3 := (b2.cell (p := ⟨w.heap.size + 1, 1, none⟩) (by show w.heap.size + 1 < _; omega)).trans y2
  have k4 := (b2.cell (p := ⟨w.heap.size + 2, 0, none⟩) (by show w.heap.size + 2 < _; omega)).trans z1
  have k5 := (b2.cell (p := ⟨w.heap.size + 2, 1, none⟩) (by show w.heap.size + 2 < _; omega)).trans z2
  have m2 := (b2.frozen (p := ⟨w.heap.size + 1, 0, none⟩) (by show w.heap.size + 1 < _; omega)).trans fy1
  have m3 := (b2.frozen (p := ⟨w.heap.size + 1, 1, none⟩) (by show w.heap.size + 1 < _; omega)).trans fy2
  have m4 := (b2.frozen (p := ⟨w.heap.size + 2, 0, none⟩) (by show w.heap.size + 2 < _; omega)).trans fz1
  have m5 := (b2.frozen (p := ⟨w.heap.size + 2, 1, none⟩) (by show w.heap.size + 2 < _; omega)).trans fz2
  have O1 := Lib.hid o1
  have B0 := Lib.hid (hb0.trans (b2.mono (by omega : w.heap.size ≤ W.heap.size)))
  have B2 := Lib.hid b2
  have HS := Lib.hid hs
  clear x1 x2 y1 y2 z1 z2 fy1 fy2 fz1 fz2 hb0 b2 o1 hs
  go_wp2_with fail
  have B3 := B0.out.setCell (p := ⟨w.heap.size + 1 + 1, 0, none⟩) (by show w.heap.size ≤ w.heap.size + 1 + 1; omega) (.slice (some ⟨g1, 0, none⟩) n1 n1)
  have hz3 : w2.heap.size = (w2.setCell ⟨w.heap.size + 1 + 1, 0, none⟩ (.slice (some ⟨g1, 0, none⟩) n1 n1)).heap.size := by simp [World.setCell]
  have hs2 : w.heap.size + 3 ≤ w2.heap.size := by have := B2.out.size; rw [HS.out] at this; exact this
  have j4 := World.cell?_setCell_same (w := w2) (a := ⟨w.heap.size + 1 + 1, 0, none⟩) (v := .slice (some ⟨g1, 0, none⟩) n1 n1) (h := k4)
  have j5 := (World.cell?_setCell_other (w := w2) (a := ⟨w.heap.size + 1 + 1, 0, none⟩) (b := ⟨w.heap.size + 1 + 1, 1, none⟩) (v := .slice (some ⟨g1, 0, none⟩) n1 n1) (h := by intro e; cases congrArg Addr.off e)).trans k5
  have j2 := (World.cell?_setCell_other (w := w2) (a := ⟨w.heap.size + 1 + 1, 0, none⟩) (b := ⟨w.heap.size + 1, 0, none⟩) (v := .slice (some ⟨g1, 0, none⟩) n1 n1) (h := by intro e; have := congrArg Addr.block e; simp at this)).trans k2
  have j3 := (World.cell?_setCell_other (w := w2) (a := ⟨w.heap.size + 1 + 1, 0, none⟩) (b := ⟨w.heap.size + 1, 1, none⟩) (v := .slice (some ⟨g1, 0, none⟩) n1 n1) (h := by intro e; have := congrArg Addr.block e; simp at this)).trans k3
  have o3 := ownsRow_setCell_below O1.out (a := ⟨w.heap.size + 1 + 1, 0, none⟩) (by show w.heap.size + 1 + 1 < W.heap.size; rw [HS.out]; omega) (.slice (some ⟨g1, 0, none⟩) n1 n1)
  have f2 := (World.frozen?_setCell (w := w2) (a := ⟨w.heap.size + 1 + 1, 0, none⟩) (v := .slice (some ⟨g1, 0, none⟩) n1 n1) (b := ⟨w.heap.size + 1, 0, none⟩)).trans m2
  have f3 := (World.frozen?_setCell (w := w2) (a := ⟨w.heap.size + 1 + 1, 0, none⟩) (v := .slice (some ⟨g1, 0, none⟩) n1 n1) (b := ⟨w.heap.size + 1, 1, none⟩)).trans m3
  have f5 := (World.frozen?_setCell (w := w2) (a := ⟨w.heap.size + 1 + 1, 0, none⟩) (v := .slice (some ⟨g1, 0, none⟩) n1 n1) (b := ⟨w.heap.size + 1 + 1, 1, none⟩)).trans m5
  generalize w2.setCell ⟨w.heap.size + 1 + 1, 0, none⟩ (.slice (some ⟨g1, 0, none⟩) n1 n1) = w3 at *
  refine (toRelationS_any a2 n2 c2 l2 h2 w3 (HH2.out.below B3)).mono ?_
  rintro e w4 ⟨g2, rfl, o4, b4⟩
  have p2 := (b4.cell (p := ⟨w.heap.size + 1, 0, none⟩) (by show w.heap.size + 1 < _; omega)).trans j2
  have p3 := (b4.cell (p := ⟨w.heap.size + 1, 1, none⟩) (by show w.heap.size + 1 < _; omega)).trans j3
  have p4 := (b4.cell (p := ⟨w.heap.size + 1 + 1, 0, none⟩) (by show w.heap.size + 1 + 1 < _; omega)).trans j4
  have p5 := (b4.cell (p := ⟨w.heap.size + 1 + 1, 1, none⟩) (by show w.heap.size + 1 + 1 < _; omega)).trans j5
  have q2 := (b4.frozen (p := ⟨w.heap.size + 1, 0, none⟩) (by show w.heap.size + 1 < _; omega)).trans f2
  have q3 := (b4.frozen (p := ⟨w.heap.size + 1, 1, none⟩) (by show w.heap.size + 1 < _; omega)).trans f3
  have q5 := (b4.frozen (p := ⟨w.heap.size + 1 + 1, 1, none⟩) (by show w.heap.size + 1 + 1 < _; omega)).trans f5
  have hlt1 := o3.lt g1 rfl
  have hlt2 := o4.lt g2 rfl
  have O3 := Lib.hid (ownsRow_below o3 b4)
  have O4 := Lib.hid o4
  have B4 := Lib.hid (B3.trans (b4.mono B3.size))
  have HL : Hid (w.heap.size + 3 ≤ g1 ∧ g1 < w3.heap.size ∧ w3.heap.size ≤ g2 ∧ w.heap.size + 3 ≤ w3.heap.size) := ⟨by rw [← HS.out]; exact hlt1.1, hlt1.2, hlt2.1, by omega⟩
  clear k1 k2 k3 k4 k5 m2 m3 m4 m5 j2 j3 j4 j5 f2 f3 f5 o3 o4 B3 b4 hlt1 hlt2 hs2 hz3
  go_wp2_with fail
  obtain ⟨L1, L2, L3, L4⟩ := HL.out
  have O3' := ownsRow_setCell_below (ownsRow_setCell_below (ownsRow_setCell_below O3.out (a := ⟨w.heap.size + 1 + 1, 1, none⟩) (by show w.heap.size + 1 + 1 < W.heap.size; rw [HS.out]; omega) (.slice (some ⟨g2, 0, none⟩) n2 n2)) (a := ⟨w.heap.size + 1, 0, none⟩) (by show w.heap.size + 1 < W.heap.size; rw [HS.out]; omega) (.slice (some ⟨g1, 0, none⟩) n1 n1)) (a := ⟨w.heap.size + 1, 1, none⟩) (by show w.heap.size + 1 < W.heap.size; rw [HS.out]; omega) (.slice (some ⟨g2, 0, none⟩) n2 n2)
  have O4' := ownsRow_setCell_below (ownsRow_setCell_below (ownsRow_setCell_below O4.out (a := ⟨w.heap.size + 1 + 1, 1, none⟩) (by show w.heap.size + 1 + 1 < w3.heap.size; omega) (.slice (some ⟨g2, 0, none⟩) n2 n2)) (a := ⟨w.heap.size + 1, 0, none⟩) (by show w.heap.size + 1 < w3.heap.size; omega) (.slice (some ⟨g1, 0, none⟩) n1 n1)) (a := ⟨w.heap.size + 1, 1, none⟩) (by show w.heap.size + 1 < w3.heap.size; omega) (.slice (some ⟨g2, 0, none⟩) n2 n2)
  have B5 := ((B4.out.setCell (p := ⟨w.heap.size + 1 + 1, 1, none⟩) (by show w.heap.size ≤ w.heap.size + 1 + 1; omega) (.slice (some ⟨g2, 0, none⟩) n2 n2)).setCell (p := ⟨w.heap.size + 1, 0, none⟩) (by show w.heap.size ≤ w.heap.size + 1; omega) (.slice (some ⟨g1, 0, none⟩) n1 n1)).setCell (p := ⟨w.heap.size + 1, 1, none⟩) (by show w.heap.size ≤ w.heap.size + 1; omega) (.slice (some ⟨g2, 0, none⟩) n2 n2)
  try simp only [Exit.inBlock, Exit.then]
  refine bodyPost_ret (v := .agg #[.slice (some ⟨g1, 0, none⟩) n1 n1, .slice (some ⟨g2, 0, none⟩) n2 n2]) (by simp [results, Try.results53, go_sem, p2, p3]) rfl ⟨g1, g2, rfl, ⟨Joins.ownsRow_le O3' (by rw [HS.out]; omega), Joins.ownsRow_le O4' (by omega), by omega⟩, B5⟩
end Go.Proofs.Ytfbgekhkbbhggaa.Rec
