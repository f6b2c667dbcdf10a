/- The model's cursor over a code (l1Cur): contracts of next, pick, one, of, any1: each returns a number or text within its bounds, and writes into nothing but the cursor. -/
import Derived.Test.YthcjembekadijaaRows
import Derived.WalkKit
import Derived.ProofKit
import Derived.Lib.Hide
import Derived.Deep.QuietTactic
import Derived.BigQuiet
import Derived.WalkSpells
import Derived.WalkLawsBesides
import Derived.Lib.SmallJoins
namespace Go.Proofs.Ythcjembekadijaa.Cur
open Go.RowKit

/-- Block B is a cursor at place k over the code's slice. -/
def At (w : World) (B : Nat) (a : Option Addr) (len cap k : Nat) : Prop :=
  ∃ seed : Int, w.heap[B]? = some (.cells #[.slice a len cap, .int .i64 k, .int .u64 seed] 80 (0, 0)) ∧ 0 ≤ seed ∧ seed ≤ 18446744073709551615
/-- The code's bytes lie below block B. -/
def Code (w : World) (B : Nat) (a : Option Addr) (len : Nat) : Prop :=
  ∀ i, i < len → ∃ (b off : Nat) (z : Int), a = some ⟨b, off, none⟩ ∧ b < B ∧ w.cell? ⟨b, off + i, none⟩ = some (.int .u8 z) ∧ 0 ≤ z ∧ z ≤ 255
theorem cellB {w : World} {B : Nat} {cur : Array Value} {t : TypeId} (h : w.heap[B]? = some (.cells cur t (0, 0))) (i : Nat) : w.cell? ⟨B, i, none⟩ = cur[i]? := cell_of_row w B i cur t (0, 0) h
theorem frozenB {w : World} {B : Nat} {cur : Array Value} {t : TypeId} (h : w.heap[B]? = some (.cells cur t (0, 0))) (i : Nat) : w.frozen? ⟨B, i, none⟩ = false := frozen_of_row w B i cur t h

def Next (B : Nat) (a : Option Addr) (len cap k : Nat) (w : World) (e : Ending) (w' : World) : Prop :=
  ∃ r : Int, e = .returned (.int .i64 r) ∧ 0 ≤ r ∧ r ≤ 255 ∧ At w' B a len cap (k + 1) ∧ w.grownBy w' (some B)

theorem set2 {w : World} {B : Nat} {x0 x1 x2 : Value} {t : TypeId} (h : w.heap[B]? = some (.cells #[x0, x1, x2] t (0, 0))) (n : Nat) (v1 v2 : Value) :
    (((w.drewN n).setCell ⟨B, 1, none⟩ v1).setCell ⟨B, 2, none⟩ v2).heap[B]? = some (.cells #[x0, v1, v2] t (0, 0)) ∧ w.grownBy (((w.drewN n).setCell ⟨B, 1, none⟩ v1).setCell ⟨B, 2, none⟩ v2) (some B) := by
  have h0 : (w.drewN n).heap[B]? = some (.cells #[x0, x1, x2] t (0, 0)) := h
  have h1 := heap_setCell_same (w.drewN n) B 1 _ t v1 h0
  have h2 := heap_setCell_same _ B 2 _ t v2 h1
  refine ⟨h2, rfl, rfl, rfl, by simp, fun k _ hk => ?_⟩
  have hne : k ≠ B := fun e => hk (by rw [e])
  rw [heap_setCell_other _ ⟨B, 2, none⟩ k v2 hne, heap_setCell_other _ ⟨B, 1, none⟩ k v1 hne]
  rfl
theorem grownBy_dr {a b : World} {r : Option Nat} (h : a.grownBy b r) (n : Nat) : a.grownBy (b.drewN n) r := ⟨h.os, h.tape, h.output, h.size, h.block⟩
theorem u64_bd (n : Int) : 0 ≤ IntKind.u64.wrap n ∧ IntKind.u64.wrap n ≤ 18446744073709551615 := by rw [IntKind.wrap_u64]; omega

theorem and255 (x : Int) (h0 : 0 ≤ x) (h1 : x ≤ 18446744073709551615) : ∃ r : Nat, wrap64 (bits BinOp.and IntKind.u64 (x / 1099511627776) 255) = (r : Int) ∧ (r : Int) ≤ 255 := by
  have e := u64_and (x / 1099511627776) 255 (by omega) (by omega) (by omega) (by omega)
  refine ⟨(x / 1099511627776).toNat &&& 255, ?_, ?_⟩
  · rw [e]
    have hle : (x / 1099511627776).toNat &&& 255 ≤ 255 := Nat.and_le_right
    rw [show Int.toNat 255 = 255 from rfl]
    exact IntWalk.wrap64_in _ (by omega)
  · have hle : (x / 1099511627776).toNat &&& 255 ≤ 255 := Nat.and_le_right
    omega
set_option maxHeartbeats 2000000 in
theorem next_any (B : Nat) (a : Option Addr) (len cap k : Nat) (hk : k ≤ 1000000) (w : World) (hA : At w B a len cap k) (hC : Code w B a len) :
    Calls Try.prog 142 #[.pointer (some ⟨B, 0, none⟩)] w (Next B a len cap k w) := by
  obtain ⟨seed, hB, hs0, hs1⟩ := hA
  have c0 := cellB hB 0
  have c1 := cellB hB 1
  have c2 := cellB hB 2
  have f1 := frozenB hB 1
  have f2 := frozenB hB 2
  have HB := Lib.hid hB
  simp at c0 c1 c2
  clear hB
  by_cases hlt : k < len
  · obtain ⟨b, off, z, rfl, hbB, hz, hz0, hz1⟩ := hC k hlt
    clear hC
    have hi : (k : Int) < (len : Int) := by omega
    have hi0 : (0 : Int) ≤ (k : Int) := Int.natCast_nonneg _
    go_enter Try.func142, Try.ntmps142
    go_wp2
    go_quiet (fail)
    go_wp2
    go_quiet (fail)
    rename_i nq0
    go_wp2
    obtain ⟨sd, hsd⟩ : ∃ sd, IntKind.u64.wrap (IntKind.u64.wrap (IntKind.u64.wrap (seed * 6364136223846793005) + z) + 876876) = sd := ⟨_, rfl⟩
    have hbd := u64_bd (IntKind.u64.wrap (IntKind.u64.wrap (seed * 6364136223846793005) + z) + 876876)
    rw [hsd] at hbd ⊢
    obtain ⟨hB2, hg2⟩ := set2 HB.out (nq0 + nq) (.int .i64 ((k : Int) + 1)) (.int .u64 sd)
    obtain ⟨W2, hW2⟩ : ∃ W2, (((w.drewN (nq0 + nq)).setCell ⟨B, 1, none⟩ (.int .i64 ((k : Int) + 1))).setCell ⟨B, 2, none⟩ (.int .u64 sd)) = W2 := ⟨_, rfl⟩
    rw [hW2] at hB2 hg2 ⊢
    clear hsd hW2 c0 c1 c2 f1 f2 hz HB
    have d0 := cellB hB2 0
    have d1 := cellB hB2 1
    simp at d0 d1
    have HB2 := Lib.hid hB2
    clear hB2
    have hle : (k : Int) + 1 ≤ (len : Int) := by omega
    go_quiet (fail)
    go_wp2
    go_ret
    exact ⟨z, rfl, hz0, hz1, ⟨sd, by have := HB2.out; simpa using this, hbd.1, hbd.2⟩, grownBy_dr hg2 _⟩
  · clear hC
    have hi : ¬ (k : Int) < (len : Int) := by omega
    go_enter Try.func142, Try.ntmps142
    go_wp2
    go_quiet (fail)
    go_wp2
    obtain ⟨sd, hsd⟩ : ∃ sd, IntKind.u64.wrap (IntKind.u64.wrap (IntKind.u64.wrap (seed * 6364136223846793005)) + 876876) = sd := ⟨_, rfl⟩
    have hbd := u64_bd (IntKind.u64.wrap (IntKind.u64.wrap (seed * 6364136223846793005)) + 876876)
    rw [hsd] at hbd ⊢
    obtain ⟨hB2, hg2⟩ := set2 HB.out nq (.int .i64 ((k : Int) + 1)) (.int .u64 sd)
    obtain ⟨W2, hW2⟩ : ∃ W2, (((w.drewN nq).setCell ⟨B, 1, none⟩ (.int .i64 ((k : Int) + 1))).setCell ⟨B, 2, none⟩ (.int .u64 sd)) = W2 := ⟨_, rfl⟩
    rw [hW2] at hB2 hg2 ⊢
    clear hsd hW2 c0 c1 c2 f1 f2 HB
    have d0 := cellB hB2 0
    have d1 := cellB hB2 1
    have d2 := cellB hB2 2
    simp at d0 d1 d2
    have HB2 := Lib.hid hB2
    clear hB2
    have hle : ¬ (k : Int) + 1 ≤ (len : Int) := by omega
    go_quiet (fail)
    go_wp2
    obtain ⟨r, hr, hr1⟩ := and255 sd hbd.1 hbd.2
    rw [hr]
    go_ret
    exact ⟨r, rfl, Int.natCast_nonneg _, hr1, ⟨sd, by have := HB2.out; simpa using this, hbd.1, hbd.2⟩, grownBy_dr hg2 _⟩

theorem Code.keep {w w' : World} {B : Nat} {a : Option Addr} {len : Nat} (h : Code w B a len) (hB : B < w.heap.size) (hg : w.grownBy w' (some B)) : Code w' B a len := by
  intro i hi
  obtain ⟨b, off, z, ha, hb, hc, h0, h1⟩ := h i hi
  refine ⟨b, off, z, ha, hb, ?_, h0, h1⟩
  have e := World.cell?_of_block (w := w) (w' := w') (a := ⟨b, off + i, none⟩) (hg.block b (by omega) (fun e => by have := Option.some.inj e; omega))
  exact e.trans hc
theorem At.lt {w : World} {B : Nat} {a : Option Addr} {len cap k : Nat} (h : At w B a len cap k) : B < w.heap.size := by
  obtain ⟨_, hB, _⟩ := h
  exact (Array.getElem?_eq_some_iff.1 hB).1
theorem gtrans {a b c : World} {r : Option Nat} (h : a.grownBy b r) (k : b.grownBy c r) : a.grownBy c r :=
  ⟨k.os.trans h.os, k.tape.trans h.tape, k.output.trans h.output, Nat.le_trans h.size k.size, fun j hj hr => (k.block j (Nat.lt_of_lt_of_le hj h.size) hr).trans (h.block j hj hr)⟩
theorem grefl (a : World) (r : Option Nat) : a.grownBy a r := ⟨rfl, rfl, rfl, Nat.le_refl _, fun _ _ _ => rfl⟩

/-- A cursor over a code, after so many steps at most. -/
structure Ok (w : World) (B : Nat) (a : Option Addr) (len cap m : Nat) : Prop where
  cur : ∃ k, k ≤ m ∧ At w B a len cap k
  code : Code w B a len
  low : len ≤ 65536
theorem Ok.lt {w : World} {B : Nat} {a : Option Addr} {len cap m : Nat} (h : Ok w B a len cap m) : B < w.heap.size := by
  obtain ⟨k, _, hA⟩ := h.cur
  exact hA.lt
def Step (P : Int → Prop) (B : Nat) (a : Option Addr) (len cap m : Nat) (w : World) (e : Ending) (w' : World) : Prop :=
  ∃ r : Int, e = .returned (.int .i64 r) ∧ P r ∧ Ok w' B a len cap m ∧ w.grownBy w' (some B)
theorem next_ok (B : Nat) (a : Option Addr) (len cap m : Nat) (hm : m ≤ 1000000) (w : World) (h : Ok w B a len cap m) :
    Calls Try.prog 142 #[.pointer (some ⟨B, 0, none⟩)] w (Step (fun r => 0 ≤ r ∧ r ≤ 255) B a len cap (m + 1) w) := by
  obtain ⟨k, hk, hA⟩ := h.cur
  refine (next_any B a len cap k (by omega) w hA h.code).mono ?_
  rintro e w' ⟨r, he, h0, h1, hA', hg⟩
  exact ⟨r, he, ⟨h0, h1⟩, ⟨⟨k + 1, by omega, hA'⟩, h.code.keep h.lt hg, h.low⟩, hg⟩

set_option maxHeartbeats 1000000 in
theorem pick_small (B : Nat) (a : Option Addr) (len cap m : Nat) (hm : m ≤ 900000) (n : Int) (h1 : 1 < n) (h2 : n ≤ 200) (w : World) (h : Ok w B a len cap m) :
    Calls Try.prog 114 #[.pointer (some ⟨B, 0, none⟩), .int .i64 n] w (Step (fun r => 0 ≤ r ∧ r < n) B a len cap (m + 1) w) := by
  go_enter Try.func114, Try.ntmps114
  go_wp2_with fail
  refine (next_ok B a len cap m (by omega) _ h).mono ?_
  rintro e w' ⟨r, rfl, ⟨h0, h3⟩, hok, hg⟩
  go_wp2_with fail
  go_ret
  exact ⟨r % n, rfl, ⟨Int.emod_nonneg _ (by omega), Int.emod_lt_of_pos _ (by omega)⟩, hok, hg⟩
set_option maxHeartbeats 1000000 in
theorem pick_big (B : Nat) (a : Option Addr) (len cap m : Nat) (hm : m ≤ 900000) (n : Int) (h1 : 200 < n) (h2 : n ≤ 65536) (w : World) (h : Ok w B a len cap m) :
    Calls Try.prog 114 #[.pointer (some ⟨B, 0, none⟩), .int .i64 n] w (Step (fun r => 0 ≤ r ∧ r < n) B a len cap (m + 2) w) := by
  have h1' : 1 < n := by omega
  go_enter Try.func114, Try.ntmps114
  go_wp2_with fail
  refine (next_ok B a len cap m (by omega) _ h).mono ?_
  rintro e w' ⟨r, rfl, ⟨h0, h3⟩, hok, hg⟩
  go_wp2_with fail
  refine (next_ok B a len cap (m + 1) (by omega) _ hok).mono ?_
  rintro e w2 ⟨r2, rfl, ⟨h4, h5⟩, hok2, hg2⟩
  go_wp2_with fail
  go_ret
  exact ⟨(r * 256 + r2) % n, rfl, ⟨Int.emod_nonneg _ (by omega), Int.emod_lt_of_pos _ (by omega)⟩, hok2, gtrans hg hg2⟩

def StepB (B : Nat) (a : Option Addr) (len cap m : Nat) (w : World) (e : Ending) (w' : World) : Prop :=
  ∃ r : Bool, e = .returned (.bool r) ∧ Ok w' B a len cap m ∧ w.grownBy w' (some B)
set_option maxHeartbeats 1000000 in
theorem one_ok (B : Nat) (a : Option Addr) (len cap m : Nat) (hm : m ≤ 900000) (n : Int) (h1 : 1 < n) (h2 : n ≤ 200) (w : World) (h : Ok w B a len cap m) :
    Calls Try.prog 53 #[.pointer (some ⟨B, 0, none⟩), .int .i64 n] w (StepB B a len cap (m + 1) w) := by
  go_enter Try.func53, Try.ntmps53
  go_wp2_with fail
  refine (pick_small B a len cap m hm n h1 h2 _ h).mono ?_
  rintro e w' ⟨r, rfl, ⟨h0, h3⟩, hok, hg⟩
  go_wp2_with fail
  go_ret
  exact ⟨_, rfl, hok, hg⟩

theorem ok_alloc {w : World} {B : Nat} {a : Option Addr} {len cap m : Nat} (h : Ok w B a len cap m) (o : Obj) : Ok (w.alloc o) B a len cap m := by
  have hlt := h.lt
  obtain ⟨⟨k, hk, seed, hB, h0, h1⟩, hc, hl⟩ := h
  refine ⟨⟨k, hk, seed, (Below.heap_alloc w o B hlt).trans hB, h0, h1⟩, ?_, hl⟩
  intro i hi
  obtain ⟨b, off, z, ha, hb, hcell, h2, h3⟩ := hc i hi
  refine ⟨b, off, z, ha, hb, ?_, h2, h3⟩
  have e := World.cell?_of_block (w := w) (w' := w.alloc o) (a := ⟨b, off + i, none⟩) (Below.heap_alloc w o b (by omega))
  exact e.trans hcell
theorem ok_other {w w' : World} {B : Nat} {a : Option Addr} {len cap m : Nat} {row : Option Nat} (h : Ok w B a len cap m) (hg : w.grownBy w' row) (hne : ∀ k, row = some k → B < k) : Ok w' B a len cap m := by
  have hlt := h.lt
  obtain ⟨⟨k, hk, seed, hB, h0, h1⟩, hc, hl⟩ := h
  refine ⟨⟨k, hk, seed, (hg.block B hlt (fun e => by have := hne B e.symm; omega)).trans hB, h0, h1⟩, ?_, hl⟩
  intro i hi
  obtain ⟨b, off, z, ha, hb, hcell, h2, h3⟩ := hc i hi
  refine ⟨b, off, z, ha, hb, ?_, h2, h3⟩
  have e := World.cell?_of_block (w := w) (w' := w') (a := ⟨b, off + i, none⟩) (hg.block b (by omega) (fun e => by have := hne b e.symm; omega))
  exact e.trans hcell
theorem grownBy_alloc' {w w' : World} {o : Obj} {r : Option Nat} (h : (w.alloc o).grownBy w' r) : w.grownBy w' r := gtrans (World.grownBy_alloc w o r) h

/-- What the walk is told of the code that came in. -/
def IsCode (w : World) (a : Option Addr) (len : Nat) : Prop := Cur.Code w w.heap.size a len ∧ len ≤ 65536
theorem IsCode.below {w w' : World} {a : Option Addr} {len : Nat} (h : IsCode w a len) (hb : Below w.heap.size w w') : IsCode w' a len := by
  refine ⟨?_, h.2⟩
  intro i hi
  obtain ⟨b, off, z, ha, hbl, hc, h0, h1⟩ := h.1 i hi
  exact ⟨b, off, z, ha, Nat.lt_of_lt_of_le hbl hb.size, (hb.cell (p := ⟨b, off + i, none⟩) hbl).trans hc, h0, h1⟩
theorem ok_new {w : World} {a : Option Addr} {len cap : Nat} (h : IsCode w a len) : Ok (w.alloc (.cells #[.slice a len cap, .int .i64 0, .int .u64 0] 80)) w.heap.size a len cap 0 := by
  refine ⟨⟨0, Nat.le_refl _, 0, heap_alloc_new w _, by omega, by omega⟩, ?_, h.2⟩
  intro i hi
  obtain ⟨b, off, z, ha, hbl, hc, h0, h1⟩ := h.1 i hi
  refine ⟨b, off, z, ha, hbl, ?_, h0, h1⟩
  have e := World.cell?_of_block (w := w) (w' := w.alloc (.cells #[.slice a len cap, .int .i64 0, .int .u64 0] 80)) (a := ⟨b, off + i, none⟩) (Below.heap_alloc w _ b hbl)
  exact e.trans hc
theorem below_of {w w' : World} {o : Obj} (h : (w.alloc o).grownBy w' (some w.heap.size)) : Below w.heap.size w w' :=
  ((Below.refl _ w).alloc (Nat.le_refl _) o).grown h (by simp) (fun k e => by cases e; exact Nat.le_refl _)

end Go.Proofs.Ythcjembekadijaa.Cur
/- What the laws over a code share: the code as it comes in, vBig. -/
namespace Go.Proofs.Ythcjembekadijaa.LawC
open Go.RowKit Cur
set_option linter.unusedVariables false
/-- WHAT THE WALK IS TOLD OF A SLICE OF INTEGERS THAT CAME IN: it is nil; or it leads to a row of 'cap' cells, the numbers 'zs' (the first 'len' are its elements, the rest its spare room), each fitting its kind. -/
def IsRow (k : IntKind) (w : World) (a : Option Addr) (len cap : Nat) (zs : List Int) : Prop :=
  (a = none ∧ len = 0 ∧ cap = 0 ∧ zs = []) ∨
  ∃ x, a = some x ∧ len ≤ cap ∧ cap ≤ maxLen ∧ zs.length = cap ∧ (∀ i, i < zs.length → w.cell? (x.add i) = some (.int k (zs.getD i 0))) ∧ ∀ n ∈ zs, (Lit.int k n).wf = true

theorem vBig_any (a : Option Addr) (len cap : Nat) (w : World) :
    Calls Try.prog 9 #[.slice a len cap] w fun e w' => e = .returned (.bool (decide (65536 < (len : Int)))) ∧ w = w' := by
  go_enter Try.func9, Try.ntmps9
  go_wp2
  all_goals go_ret
  all_goals exact ⟨rfl, rfl⟩
theorem add_eq (b off i : Nat) : (⟨b, off, none⟩ : Addr).add i = ⟨b, off + i, none⟩ := by
  unfold Addr.add
  by_cases h : i = 0
  · subst h; simp
  · simp [h]
theorem cell_lt {w : World} {a : Addr} {v : Value} (h : w.cell? a = some v) : a.block < w.heap.size := by
  cases hb : w.heap[a.block]? with
  | none => simp [World.cell?, hb] at h
  | some o => exact (Array.getElem?_eq_some_iff.1 hb).1
theorem code_of {w : World} {a : Option Addr} {len cap : Nat} {zs : List Int} (h : IsRow .u8 w a len cap zs) (hl : len ≤ 65536) : Cur.IsCode w a len := by
  refine ⟨?_, hl⟩
  rcases h with ⟨rfl, rfl, rfl, rfl⟩ | ⟨x, rfl, hlc, hm, hz, hcell, hwz⟩
  · intro i hi
    omega
  · intro i hi
    obtain ⟨b, off, spot⟩ := x
    have hc0 := hcell 0 (by omega)
    have hspot : spot = none := by simpa [Addr.add] using World.cell?_spot hc0
    subst hspot
    have hc := hcell i (by omega)
    rw [add_eq] at hc
    have hmem : zs.getD i 0 ∈ zs := by
      rw [List.getD_eq_getElem?_getD, List.getElem?_eq_getElem (by omega)]
      exact List.getElem_mem _
    have hw := hwz _ hmem
    have hb : 0 ≤ zs.getD i 0 ∧ zs.getD i 0 ≤ 255 := by
      simpa [Lit.wf, IntKind.min, IntKind.max, IntKind.signed, IntKind.bits] using hw
    exact ⟨b, off, _, rfl, cell_lt hc, hc, hb.1, hb.2⟩
end Go.Proofs.Ythcjembekadijaa.LawC
