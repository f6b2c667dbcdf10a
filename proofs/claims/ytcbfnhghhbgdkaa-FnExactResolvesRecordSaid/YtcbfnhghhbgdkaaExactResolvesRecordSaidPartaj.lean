/- The program's orderOf, and the function that it returns. -/
import Derived.Test.YtcbfnhghhbgdkaaExactResolvesRecordSaidPartai
import Derived.Test.YtcbfnhghhbgdkaaExactResolvesRecordSaidPartab
import Derived.Test.YtcbfnhghhbgdkaaExactResolvesRecordSaidPartag
import Derived.Lib.QuietBelow
import Derived.StillTailTactics
namespace Go.Proofs.Ytcbfnhghhbgdkaa.Order
open Go.RowKit Go.Maps Pairs Chain Find2 GoodM Lows Queue From MapStep
theorem zeroM (w : World) : (zeroValue 80).run Try.prog w = .ok (.map none) w := by kernel_rfl
/-- How the map of maps reads: by the inner maps' blocks. -/
def chR : Value → Option (Dat × List MemPlace)
  | .map (some g) => some (.lit (.int .i64 (g : Int)), [])
  | .map none => some (.nil, [])
  | _ => none
theorem chR_inv {v : Value} {g : Nat} {ps : List MemPlace} (h : chR v = some (.lit (.int .i64 (g : Int)), ps)) : v = .map (some g) := by
  unfold chR at h
  split at h
  · injection h with h
    injection h with h _
    injection h with h
    injection h with _ h
    rw [Int.ofNat.inj h]
  · injection h with h
    injection h with h _
    cases h
  · cases h
theorem keys_next {l : Ps} {k : Nat} {x y : Int} (hx : l[k]? = some (x, y)) : keys (l.take (k + 1)) = keys (l.take k) ++ [x] := by
  rw [List.take_add_one, hx]
  unfold keys
  simp
/-- The searches of the first k contexts, in the map of block bc. -/
def Ord (w : World) (l m : Ps) (k bc : Nat) : Prop := ∃ D : Dat, w.ownsMap Try.prog 3 chR bc k D ∧
  ∀ x, x ∈ keys (l.take k) → ∃ (g t : Nat) (pv : Ps), D.atKey (.int .i64 x) .nil = .lit (.int .i64 (g : Int)) ∧ stAt m x t = ([], pv) ∧ Prev w g pv ∧ bc < g
theorem Ord.below {w w' : World} {l m : Ps} {k bc : Nat} (h : Ord w l m k bc) (hb : Below w.heap.size w w') : Ord w' l m k bc := by
  obtain ⟨D, ho, hk⟩ := h
  refine ⟨D, ho.kept (grown_none hb) (by simp), fun x hx => ?_⟩
  obtain ⟨g, t, pv, h1, h2, h3, h4⟩ := hk x hx
  exact ⟨g, t, pv, h1, h2, h3.below hb, h4⟩
theorem Ord.next {w w2 : World} {l m : Ps} {k bc g t : Nat} {D : Dat} {x y : Int} {pv : Ps} (hD : IsMap D) (hk : ∀ x, x ∈ keys (l.take k) → ∃ (g t : Nat) (pv : Ps), D.atKey (.int .i64 x) .nil = .lit (.int .i64 (g : Int)) ∧ stAt m x t = ([], pv) ∧ Prev w g pv ∧ bc < g)
    (hx : l[k]? = some (x, y)) (hst : stAt m x t = ([], pv)) (hp : Prev w g pv) (hg : bc < g) (hown : w2.ownsMap Try.prog 3 chR bc (k + 1) (D.put (.int .i64 x) (.lit (.int .i64 (g : Int))))) (hgr : w.grownBy w2 (some bc)) : Ord w2 l m (k + 1) bc := by
  refine ⟨_, hown, fun z hz => ?_⟩
  by_cases e : x = z
  · subst e
    exact ⟨g, t, pv, atKey_put_same hD (show WideAt.IsKeyLit (.int .i64 x) from trivial) _ _, hst, hp.kept hgr (by intro h; injection h with h; omega), hg⟩
  · rw [keys_next hx] at hz
    rcases List.mem_append.1 hz with hz | hz
    · obtain ⟨g', t', pv', h1, h2, h3, h4⟩ := hk z hz
      exact ⟨g', t', pv', by rw [atKey_put_other (by intro h2; injection h2 with _ h2; exact e h2.symm)]; exact h1, h2, h3.kept hgr (by intro h; injection h with h; omega), h4⟩
    · simp at hz
      exact absurd hz.symm e
theorem ord_isMap {w : World} {bc k : Nat} {D : Dat} (h : w.ownsMap Try.prog 3 chR bc k D) : IsMap D := by
  obtain ⟨_, _, _, _, _, hD⟩ := h
  exact ⟨_, hD⟩
/-- What the function that orderOf returns looks into. -/
def IsOrd (w : World) (l m : Ps) (bx : Nat) : Prop := ∃ bc, w.cell? ⟨bx, 0, none⟩ = some (.map (some bc)) ∧ Ord w l m l.length bc
theorem IsOrd.below {w w' : World} {l m : Ps} {bx : Nat} (h : IsOrd w l m bx) (hb : Below w.heap.size w w') : IsOrd w' l m bx := by
  obtain ⟨bc, h1, h2⟩ := h
  exact ⟨bc, (hb.cell (p := ⟨bx, 0, none⟩) (World.block_lt_of_cell? w _ h1)).trans h1, h2.below hb⟩
theorem found_later {m : Ps} {a b : Int} {t : Nat} {pv : Ps} (h : stAt m a t = ([], pv)) : (isAt pv b).isSome = later m a b := by
  have i := inv_at m a t
  rw [h] at i
  have e := i.end b
  rw [← isAt_keys, ← later_iff] at e
  cases h1 : (isAt pv b).isSome <;> cases h2 : later m a b <;> simp_all
theorem belA {W X : World} (h : Below W.heap.size W X) (o : Obj) : Below W.heap.size W (X.alloc o) := h.alloc h.size o
end Go.Proofs.Ytcbfnhghhbgdkaa.Order
/- The program's comparisons: cmp.Compare, cmp.Or, compareRelations, and small tests. -/
namespace Go.Proofs.Ytcbfnhghhbgdkaa.Cmp
open Go.RowKit Pairs Find2 GoodM RelM RecEq

def cmpI (x y : Int) : Int := if x < y then -1 else if y < x then 1 else 0
theorem cmpI_lt (x y : Int) : cmpI x y < 0 ↔ x < y := by
  unfold cmpI
  by_cases h1 : x < y
  · rw [if_pos h1]; simp [h1]
  · rw [if_neg h1]
    by_cases h2 : y < x
    · rw [if_pos h2]; simp [h1]
    · rw [if_neg h2]; simp [h1]
theorem cmpI_eq (x y : Int) : cmpI x y = 0 ↔ x = y := by
  unfold cmpI
  by_cases h1 : x < y
  · rw [if_pos h1]; simp; omega
  · rw [if_neg h1]
    by_cases h2 : y < x
    · rw [if_pos h2]; simp; omega
    · rw [if_neg h2]; simp; omega
theorem compare_any (x y : Int) (w : World) : Calls Try.prog 41 #[.int .i64 x, .int .i64 y] w fun e w' => e = .returned (.int .i64 (cmpI x y)) ∧ w' = w := by
  go_enter Try.func41, Try.ntmps41
  unfold cmpI
  by_cases h1 : x < y
  · rw [if_pos h1]
    go_wp2
    go_ret
    exact ⟨rfl, rfl⟩
  · rw [if_neg h1]
    by_cases h2 : y < x
    · rw [if_pos h2]
      go_wp2
      go_ret
      exact ⟨rfl, rfl⟩
    · rw [if_neg h2]
      go_wp2
      go_ret
      exact ⟨rfl, rfl⟩
theorem isKind_true (k : Int) (h1 : 1 ≤ k) (h2 : k ≤ 4) (w : World) : Calls Try.prog 38 #[.int .i64 k] w fun e w' => e = .returned (.bool true) ∧ w' = w := by
  go_enter Try.func38, Try.ntmps38
  go_wp2
  go_ret
  exact ⟨rfl, rfl⟩
theorem isKind_false (k : Int) (h : ¬ (1 ≤ k ∧ k ≤ 4)) (w : World) : Calls Try.prog 38 #[.int .i64 k] w fun e w' => e = .returned (.bool false) ∧ w' = w := by
  go_enter Try.func38, Try.ntmps38
  by_cases h1 : 1 ≤ k
  · have h2 : ¬ k ≤ 4 := fun h2 => h ⟨h1, h2⟩
    clear h
    go_wp2
    go_ret
    exact ⟨rfl, rfl⟩
  · clear h
    go_wp2
    go_ret
    exact ⟨rfl, rfl⟩
/-- The closure of placeOfContext: a context's number against a number. -/
theorem place1_any (x y t : Int) (w : World) : Calls Try.prog 50 #[.agg #[.int .i64 x, .int .i64 y], .int .i64 t] w fun e w' => e = .returned (.int .i64 (cmpI x t)) ∧ Below w.heap.size w w' := by
  have hb := below_alloc w (.cells #[.int .i64 x, .int .i64 y] 53)
  have hc := fun W => compare_any x t W
  generalize cmpI x t = r at *
  go_enter Try.func50, Try.ntmps50
  go_wp2_with (go_at_call 41; refine (hc _).mono ?_; rintro e w' ⟨rfl, rfl⟩)
  go_ret
  exact ⟨rfl, hb⟩
/-- The first that is not 0. -/
def orI (x y : Int) : Int := if x = 0 then y else x
theorem or_any (x y : Int) (b : Nat) (w : World) (h0 : w.cell? ⟨b, 0, none⟩ = some (.int .i64 x)) (h1 : w.cell? ⟨b, 1, none⟩ = some (.int .i64 y)) :
    Calls Try.prog 40 #[.slice (some ⟨b, 0, none⟩) 2 2] w fun e w' => e = .returned (.int .i64 (orI x y)) ∧ w' = w := by
  go_enter Try.func40, Try.ntmps40
  go_wp2
  go_loop [8] (fun i => ∃ k : Nat, k ≤ 2 ∧ i = .int .i64 k ∧ Hid ((0 < k → x = 0) ∧ (1 < k → y = 0))) (fun i => 2 - (intOf i).toNat)
  case atStart => exact ⟨0, by omega, rfl, ⟨fun h => absurd h (by omega), fun h => absurd h (by omega)⟩⟩
  case round =>
    obtain ⟨k, hk, rfl, HK⟩ := hrel
    match k, hk, HK with
    | 0, _, HK =>
      by_cases hx : x = 0
      · subst hx
        go_wp2
        go_round
        case rel => exact ⟨1, by omega, rfl, ⟨fun _ => by trivial, fun h => absurd h (by omega)⟩⟩
        case measure => simp [intOf]
      · go_wp2
        go_ret
        exact ⟨by unfold orI; rw [if_neg hx]; rfl, rfl⟩
    | 1, _, HK =>
      have hx := HK.out.1 (by omega)
      subst hx
      by_cases hy : y = 0
      · subst hy
        go_wp2
        go_round
        case rel => exact ⟨2, by omega, rfl, ⟨fun _ => by trivial, fun _ => by trivial⟩⟩
        case measure => simp [intOf]
      · go_wp2
        go_ret
        exact ⟨by unfold orI; rw [if_pos rfl]; rfl, rfl⟩
    | 2, _, HK =>
      have hx := HK.out.1 (by omega)
      have hy := HK.out.2 (by omega)
      subst hx hy
      go_wp2
      go_ret
      exact ⟨by unfold orI; rw [if_pos rfl]; rfl, rfl⟩
def cmpR (p q : Int × Int) : Int := orI (cmpI p.1 q.1) (cmpI p.2 q.2)
theorem cmpR_lt (p q : Int × Int) : cmpR p q < 0 ↔ before p q = true := by
  unfold cmpR orI
  rw [before_iff]
  by_cases h : cmpI p.1 q.1 = 0
  · rw [if_pos h, cmpI_lt]
    rw [cmpI_eq] at h
    omega
  · rw [if_neg h, cmpI_lt]
    rw [cmpI_eq] at h
    omega
theorem cmpR_eq (p q : Int × Int) : cmpR p q = 0 ↔ p = q := by
  unfold cmpR orI
  by_cases h : cmpI p.1 q.1 = 0
  · rw [if_pos h, cmpI_eq]
    rw [cmpI_eq] at h
    constructor
    · intro h2; exact Prod.ext h h2
    · intro h2; rw [h2]
  · rw [if_neg h]
    constructor
    · intro h2; exact absurd h2 h
    · intro h2; rw [h2] at h; exact absurd ((cmpI_eq _ _).2 rfl) h
set_option maxRecDepth 100000 in
set_option maxHeartbeats 2000000 in
theorem compareRel_any (a b c d : Int) (w : World) : Calls Try.prog 30 #[.agg #[.int .i64 a, .int .i64 b], .agg #[.int .i64 c, .int .i64 d]] w fun e w' => e = .returned (.int .i64 (cmpR (a, b) (c, d))) ∧ Below w.heap.size w w' ∧ w.drawn ≤ w'.drawn := by
  obtain ⟨hs, x1, x2, y1, y2, hb0⟩ := boxes2 w (.int .i64 a) (.int .i64 b) (.int .i64 c) (.int .i64 d) 43 43
  have hd0 : ((w.alloc (.cells #[.int .i64 a, .int .i64 b] 43)).alloc (.cells #[.int .i64 c, .int .i64 d] 43)).drawn = w.drawn := rfl
  have HD := Lib.hid hd0
  have HS := Lib.hid hs
  clear hd0 hs
  have hc1 := fun W => compare_any a c W
  have hc2 := fun W => compare_any b d W
  have e0 : cmpR (a, b) (c, d) = orI (cmpI a c) (cmpI b d) := rfl
  rw [e0]
  clear e0
  generalize cmpI a c = r1 at *
  generalize cmpI b d = r2 at *
  go_enter Try.func30, Try.ntmps30
  go_wp2_with fail
  generalize (w.alloc (.cells #[.int .i64 a, .int .i64 b] 43)).alloc (.cells #[.int .i64 c, .int .i64 d] 43) = W at *
  have HC1 := Lib.hid (hc1 { W with drawn := W.drawn + 1 })
  have HC2 := Lib.hid (hc2 { W with drawn := W.drawn + 1 })
  clear hc1 hc2
  refine wp_region_still_tail 10 (by kernel_rfl) (by kernel_rfl) ?_
  simp only [List.take_succ_cons, List.take_zero, List.drop_succ_cons, List.drop_zero]
  repeat still_step
  still_call HC1.out
  repeat still_step
  still_call HC2.out
  repeat still_step
  refine wpStill_nil ?_
  go_wp2_with fail
  refine (or_any r1 r2 W.heap.size (W.alloc (.cells #[.int .i64 r1, .int .i64 r2] 3)).drew (box_first W (.int .i64 r1) (.int .i64 r2) 3) (box_second W (.int .i64 r1) (.int .i64 r2) 3)).mono ?_
  rintro e w' ⟨rfl, rfl⟩
  go_wp2_with fail
  go_ret
  refine ⟨rfl, (hb0.trans ((below_alloc W (.cells #[.int .i64 r1, .int .i64 r2] 3)).mono hb0.size)).drew, ?_⟩
  show w.drawn ≤ W.drawn + 1
  rw [HD.out]
  omega
end Go.Proofs.Ytcbfnhghhbgdkaa.Cmp
