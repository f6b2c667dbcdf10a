/- Distributions in the world: a first year and a list of weights; the laws' copies of them, that copies are equal, marks. -/
import Derived.Test.YtfbgekhkbbhggaaIbr
namespace Go.Proofs.Ytfbgekhkbbhggaa.Di
open Go.RowKit Pairs Rec Keep GivesI
set_option linter.unusedVariables false
theorem szIntS_any (a : Option Addr) (n c : Nat) (z : Int) (hz0 : 0 ≤ z) (hz1 : z ≤ 1048576) (hn : n ≤ 9223372036854775807) (w : World) :
    Calls Try.prog 81 #[.slice a n c, .int .i64 z] w fun e w' => e = .returned (.int .i64 (if z < n then -1 else z - n)) ∧ w = w' := by
  go_enter Try.func81, Try.ntmps81
  by_cases h : z < n
  · rw [if_pos h]
    have hh : z - n < 0 := by omega
    go_wp2
    go_ret
    exact ⟨rfl, rfl⟩
  · rw [if_neg h]
    have hh : ¬ z - n < 0 := by omega
    go_wp2
    go_ret
    exact ⟨rfl, rfl⟩
theorem szDist_any (f : Int) (a : Option Addr) (n c : Nat) (z : Int) (hz0 : 0 ≤ z) (hz1 : z ≤ 1048576) (hn : n ≤ 9223372036854775807) (w : World) :
    Calls Try.prog 42 #[.agg #[.int .i64 f, .slice a n c], .int .i64 z] w fun e w' => e = .returned (.int .i64 (if z < n then -1 else z - n)) ∧ Below w.heap.size w w' := by
  have hb0 := below_alloc w (.cells #[.int .i64 f, .slice a n c] 66)
  have f2 := box_second w (.int .i64 f) (.slice a n c) 66
  go_enter Try.func42, Try.ntmps42
  go_wp2_with fail
  generalize w.alloc (.cells #[.int .i64 f, .slice a n c] 66) = W at *
  refine (szIntS_any a n c z hz0 hz1 hn W).mono ?_
  rintro e w1 ⟨rfl, rfl⟩
  by_cases h : z < n
  · rw [if_pos h]
    go_wp2_with fail
    go_ret
    exact ⟨rfl, hb0⟩
  · rw [if_neg h]
    have hh : ¬ z - n < 0 := by omega
    go_wp2_with fail
    go_ret
    exact ⟨rfl, hb0⟩
/-- What a copy of a distribution is. -/
def CopyD (w : World) (f : Int) (n : Nat) (M : List Int) (e : Ending) (w' : World) : Prop :=
  ∃ g : Nat, e = .returned (.agg #[.int .i64 f, .slice (some ⟨g, 0, none⟩) n n]) ∧ w'.ownsRow w.heap.size 3 1 (.slice (some ⟨g, 0, none⟩) n n) n (ints M) ∧ Below w.heap.size w w'
set_option maxRecDepth 100000 in
set_option maxHeartbeats 2000000 in
theorem toDist_any (f : Int) (a : Option Addr) (n c : Nat) (M : List Int) (hz : n ≤ 1048576) (w : World) (h : HoldsI w a n M) :
    Calls Try.prog 44 #[.agg #[.int .i64 f, .slice a n c]] w (CopyD w f n M) := by
  have HH := Lib.hid h
  clear h
  go_enter Try.func44, Try.ntmps44
  go_wp2_with fail
  obtain ⟨hs, x1, x2, y1, y2, z1, z2, fy1, fy2, fz1, fz2, hb0⟩ := boxes3 w (.int .i64 f) (.slice a n c) (.int .i64 0) (.slice none 0 0) (.int .i64 f) (.slice none 0 0) 66 50 50
  generalize ((w.alloc (.cells #[.int .i64 f, .slice a n c] 66)).alloc (.cells #[.int .i64 0, .slice none 0 0] 50)).alloc (.cells #[.int .i64 f, .slice none 0 0] 50) = w3 at *
  refine (IntT.toIntS_any a n c M hz w3 (HH.out.below hb0)).mono ?_
  rintro e w4 ⟨g2, rfl, o4, b4⟩
  have p2 := (b4.cell (p := ⟨w.heap.size + 1, 0, none⟩) (by show w.heap.size + 1 < _; omega)).trans y1
  have p3 := (b4.cell (p := ⟨w.heap.size + 1, 1, none⟩) (by show w.heap.size + 1 < _; omega)).trans y2
  have p4 := (b4.cell (p := ⟨w.heap.size + 1 + 1, 0, none⟩) (by show w.heap.size + 1 + 1 < _; omega)).trans z1
  have p5 := (b4.cell (p := ⟨w.heap.size + 1 + 1, 1, none⟩) (by show w.heap.size + 1 + 1 < _; omega)).trans z2
  have q2 := (b4.frozen (p := ⟨w.heap.size + 1, 0, none⟩) (by show w.heap.size + 1 < _; omega)).trans fy1
  have q3 := (b4.frozen (p := ⟨w.heap.size + 1, 1, none⟩) (by show w.heap.size + 1 < _; omega)).trans fy2
  have q5 := (b4.frozen (p := ⟨w.heap.size + 1 + 1, 1, none⟩) (by show w.heap.size + 1 + 1 < _; omega)).trans fz2
  have O4 := Lib.hid o4
  have B4 := Lib.hid (hb0.trans (b4.mono hb0.size))
  have HL := Lib.hid hs.symm
  clear x1 x2 y1 y2 z1 z2 fy1 fy2 fz1 fz2 hb0 hs o4 b4
  go_wp2_with fail
  have L1 := HL.out
  have O4' := ownsRow_setCell_below (ownsRow_setCell_below (ownsRow_setCell_below O4.out (a := ⟨w.heap.size + 1 + 1, 1, none⟩) (by show w.heap.size + 1 + 1 < w3.heap.size; omega) (.slice (some ⟨g2, 0, none⟩) n n)) (a := ⟨w.heap.size + 1, 0, none⟩) (by show w.heap.size + 1 < w3.heap.size; omega) (.int .i64 f)) (a := ⟨w.heap.size + 1, 1, none⟩) (by show w.heap.size + 1 < w3.heap.size; omega) (.slice (some ⟨g2, 0, none⟩) n n)
  have B4' := ((B4.out.setCell (p := ⟨w.heap.size + 1 + 1, 1, none⟩) (by show w.heap.size ≤ w.heap.size + 1 + 1; omega) (.slice (some ⟨g2, 0, none⟩) n n)).setCell (p := ⟨w.heap.size + 1, 0, none⟩) (by show w.heap.size ≤ w.heap.size + 1; omega) (.int .i64 f)).setCell (p := ⟨w.heap.size + 1, 1, none⟩) (by show w.heap.size ≤ w.heap.size + 1; omega) (.slice (some ⟨g2, 0, none⟩) n n)
  try simp only [Exit.inBlock, Exit.then]
  refine bodyPost_ret (v := .agg #[.int .i64 f, .slice (some ⟨g2, 0, none⟩) n n]) (by simp [results, Try.results44, go_sem, p2, p3]) rfl ⟨g2, rfl, ownsRow_base O4' (by omega), B4'⟩
set_option maxRecDepth 100000 in
set_option maxHeartbeats 2000000 in
theorem eqDist_same (f : Int) (a1 a2 : Option Addr) (n c1 c2 : Nat) (L : List Int) (hz : n ≤ 1048576) (w : World) (h1 : HoldsI w a1 n L) (h2 : HoldsI w a2 n L) :
    Calls Try.prog 27 #[.agg #[.int .i64 f, .slice a1 n c1], .agg #[.int .i64 f, .slice a2 n c2]] w fun e w' => e = .returned (.bool true) ∧ Below w.heap.size w w' := by
  have H1 := Lib.hid h1
  have H2 := Lib.hid h2
  clear h1 h2
  have hb0 := below_alloc2 w (.cells #[.int .i64 f, .slice a1 n c1] 50) (.cells #[.int .i64 f, .slice a2 n c2] 50)
  go_enter Try.func27, Try.ntmps27
  go_wp2_with fail
  refine (eq_same a1 a2 n c1 c2 L hz _ (H1.out.below hb0) (H2.out.below hb0)).mono ?_
  rintro e w2 ⟨rfl, b2⟩
  have B := Lib.hid (hb0.trans (b2.mono hb0.size))
  clear hb0 b2
  go_wp2_with fail
  go_ret
  exact ⟨rfl, B.out⟩
set_option maxRecDepth 100000 in
theorem markDist_any (B : Nat) (f : Int) (p : Option Addr) (n c : Nat) (k : Int) (ys : List Value) (hk0 : 0 ≤ k) (hk1 : k ≤ 10000000) (hz : n ≤ 1048576) (w : World) (h : w.ownsRow B 3 1 (.slice p n c) n ys) :
    Calls Try.prog 29 #[.agg #[.int .i64 f, .slice p n c], .int .i64 k] w fun e w' => e = .returned (.int .i64 (k + n)) ∧ w'.ownsRow B 3 1 (.slice p n c) n (ints (marksI k n)) ∧ Kept (fun b => (Value.slice p n c).ownBlock = some b) w w' := by
  have hb0 := below_alloc w (.cells #[.int .i64 f, .slice p n c] 50)
  have h1 := Lib.hid (ownsRow_below h hb0)
  clear h
  go_enter Try.func29, Try.ntmps29
  go_wp2_with fail
  refine (mark_any B p n c k ys hk0 hk1 hz _ h1.out).mono ?_
  rintro e w2 ⟨rfl, o2, k2⟩
  have O2 := Lib.hid o2
  have K2 := Lib.hid ((Kept.of hb0).trans k2)
  clear hb0 o2 k2
  go_wp2_with fail
  go_ret
  exact ⟨rfl, O2.out, K2.out⟩
set_option maxRecDepth 100000 in
theorem heldDist_any (f : Int) (p : Option Addr) (n c : Nat) (k : Int) (hk0 : 0 ≤ k) (hk1 : k ≤ 10000000) (hz : n ≤ 1048576) (w : World) (h : HoldsI w p n (marksI k n)) :
    Calls Try.prog 30 #[.agg #[.int .i64 f, .slice p n c], .int .i64 k] w fun e w' => e = .returned (.int .i64 (k + n)) ∧ Below w.heap.size w w' := by
  have hb0 := below_alloc w (.cells #[.int .i64 f, .slice p n c] 50)
  have h1 := Lib.hid (h.below hb0)
  clear h
  go_enter Try.func30, Try.ntmps30
  go_wp2_with fail
  refine (held_any p n c k hk0 hk1 hz _ h1.out).mono ?_
  rintro e w2 ⟨rfl, rfl⟩
  have hh : ¬ k + (n : Int) < 0 := by omega
  have B := Lib.hid hb0
  clear hb0
  go_wp2_with fail
  go_ret
  exact ⟨rfl, B.out⟩
/-- What a function that makes a distribution leaves. -/
def ResZ (ok : Bool) (f : Int) (L : List Int) (w : World) (e : Ending) (w' : World) : Prop :=
  ∃ (p : Option Addr) (k d : Nat), e = .returned (.tuple #[.agg #[.int .i64 f, .slice p k d], .bool ok]) ∧ w'.ownsRow w.heap.size 3 1 (.slice p k d) k (ints L) ∧ k ≤ 1048576 ∧ Below w.heap.size w w'
theorem own_bd {w : World} {B s n : Nat} {e : TypeId} {v : Value} {xs : List Value} (h : w.ownsRow B e s v n xs) : ∀ b, v.ownBlock = some b → B ≤ b ∧ b < w.heap.size := by
  intro b hb
  rcases h.2 with ⟨hv, _⟩ | ⟨g, cap, cur, hv, hg, hh, _⟩
  · subst hv
    cases hb
  · subst hv
    have : g = b := by simpa [Value.ownBlock] using hb
    subst this
    exact ⟨hg, (Array.getElem?_eq_some_iff.1 hh).1⟩
theorem heldKept {S : Nat → Prop} {w0 w w' : World} {p : Option Addr} {n : Nat} {M : List Int} (h0 : HoldsI w0 p n M) (h : HoldsI w p n M) (k : Kept S w w') (hs : ∀ b, b < w0.heap.size → ¬ S b) : HoldsI w' p n M := by
  refine ⟨h.1, ?_⟩
  rcases h0.2 with h2 | ⟨b, off, ha, hbw, _⟩
  · exact .inl h2
  · rcases h.2 with h3 | ⟨b', off', ha', hbw', hc⟩
    · exact .inl h3
    · have e : b' = b := by
        rw [ha] at ha'
        injection ha' with e
        injection e with e1 e2
        exact e1.symm
      exact .inr ⟨b', off', ha', Nat.lt_of_lt_of_le hbw' k.size, fun i x hi => k.cell (hc i x hi) (by rw [show (⟨b', off' + i, none⟩ : Addr).block = b' from rfl, e]; exact hs b hbw)⟩
end Go.Proofs.Ytfbgekhkbbhggaa.Di
