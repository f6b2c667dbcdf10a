/- The model's l4Bit; sets of bits in ints; a row of such sets. -/
import Derived.Test.YtmjhgjlnpnkmkaaChain
import Derived.Test.YtmjhgjlnpnkmkaaGood2
import Derived.Test.YtmjhgjlnpnkmkaaGivesI
import Derived.Laws.BitsAllLaws
namespace Go.Proofs.Ytmjhgjlnpnkmkaa.Bit
open Go.RowKit Pairs Chain
theorem i64_and_one (a : Nat) (ha : a < 1024) : bits .and .i64 (a : Int) 1 = ((a % 2 : Nat) : Int) := by
  have e : bits .and .i64 (a : Int) ((1 : Nat) : Int) = ((a &&& 1 : Nat) : Int) := by
    have hx : a &&& 1 < 2 ^ 64 := Nat.and_lt_two_pow _ (by omega)
    have hy : a &&& 1 ≤ 1 := Nat.and_le_right
    show IntKind.i64.wrap ((BitVec.ofInt 64 (a : Int) &&& BitVec.ofInt 64 ((1 : Nat) : Int)).toNat : Int) = _
    rw [BitVec.toNat_and, ofInt_u64 a (by omega), ofInt_u64 1 (by omega), IntKind.wrap_i64]
    omega
  rw [← Nat.and_one_is_mod]
  exact e
theorem i64_or (a b : Nat) (ha : a < 1024) (hb : b < 1024) : bits .or .i64 (a : Int) (b : Int) = ((a ||| b : Nat) : Int) := by
  have hx : a ||| b < 2 ^ 10 := Nat.or_lt_two_pow (by omega) (by omega)
  show IntKind.i64.wrap ((BitVec.ofInt 64 (a : Int) ||| BitVec.ofInt 64 (b : Int)).toNat : Int) = _
  rw [BitVec.toNat_or, ofInt_u64 a (by omega), ofInt_u64 b (by omega), IntKind.wrap_i64]
  omega
theorem div_pow (x i : Nat) : (x : Int) / 2 ^ i = ((x / 2 ^ i : Nat) : Int) := by
  rw [Int.natCast_ediv]
  congr 1
theorem bit_eq (x i : Nat) (hx : x < 1024) : (bits BinOp.and IntKind.i64 ((x : Int) / 2 ^ i) 1 == 1) = x.testBit i := by
  rw [div_pow, i64_and_one _ (Nat.lt_of_le_of_lt (Nat.div_le_self _ _) hx), Nat.testBit_eq_decide_div_mod_eq]
  by_cases h : x / 2 ^ i % 2 = 1
  · rw [h]; simp
  · have h0 : x / 2 ^ i % 2 = 0 := by omega
    rw [h0]; simp
theorem l4Bit_any (x i : Nat) (hx : x < 1024) (hi : i < 10) (w : World) : Calls Try.prog 61 #[.int .i64 x, .int .i64 i] w fun e w' => e = .returned (.bool (x.testBit i)) ∧ w' = w := by
  have HB := Lib.hid (bit_eq x i hx)
  go_enter Try.func61, Try.ntmps61
  go_wp2
  go_ret
  exact ⟨by rw [HB.out]; rfl, rfl⟩
/-- The cells of a row of sets. -/
def cellsN (L : List Nat) : List Value := L.map fun (x : Nat) => Value.int .i64 (x : Int)
def intsN (L : List Nat) : List Int := L.map fun (x : Nat) => (x : Int)
theorem cellsN_ints (L : List Nat) : cellsN L = GivesI.ints (intsN L) := by unfold cellsN intsN GivesI.ints; rw [List.map_map]; rfl
theorem cellsN_len (L : List Nat) : (cellsN L).length = L.length := by unfold cellsN; simp
def Row (B : Nat) (w wr : World) (g n : Nat) (L : List Nat) : Prop :=
  wr.heap[g]? = some (.cells (cellsN L).toArray 3) ∧ L.length = n ∧ B ≤ g ∧ Below B w wr
theorem Row.cell {B : Nat} {w wr : World} {g n : Nat} {L : List Nat} (h : Row B w wr g n L) {i x : Nat} (hx : L[i]? = some x) : wr.cell? ⟨g, i, none⟩ = some (.int .i64 (x : Int)) := by
  simp only [World.cell?, h.1, List.getElem?_toArray]
  unfold cellsN
  rw [List.getElem?_map, hx]
  rfl
theorem Row.frozen {B : Nat} {w wr : World} {g n : Nat} {L : List Nat} (h : Row B w wr g n L) (i : Nat) : wr.frozen? ⟨g, i, none⟩ = false := by
  simp only [World.frozen?, h.1]
  rfl
theorem Row.at {B : Nat} {w wr : World} {g n : Nat} {L : List Nat} (h : Row B w wr g n L) {i : Nat} (hi : i < n) : ∃ x, L[i]? = some x := ⟨L[i]'(by rw [h.2.1]; exact hi), List.getElem?_eq_getElem (by rw [h.2.1]; exact hi)⟩
theorem Row.set {B : Nat} {w wr : World} {g n : Nat} {L : List Nat} (h : Row B w wr g n L) (i y : Nat) : Row B w (wr.setCell ⟨g, i, none⟩ (.int .i64 (y : Int))) g n (L.set i y) := by
  refine ⟨?_, by rw [List.length_set]; exact h.2.1, h.2.2.1, h.2.2.2.setCell (p := ⟨g, i, none⟩) h.2.2.1 _⟩
  rw [heap_setCell_same wr g i (cellsN L).toArray _ (.int .i64 (y : Int)) h.1]
  unfold cellsN
  rw [List.map_set]
  simp
theorem Row.quiet {B : Nat} {w wr wq : World} {g n : Nat} {L : List Nat} (h : Row B w wr g n L) (hB : B ≤ wr.heap.size) (hb : Below wr.heap.size wr wq) : Row B w wq g n L :=
  ⟨(hb.block g (Array.getElem?_eq_some_iff.1 h.1).1).trans h.1, h.2.1, h.2.2.1, h.2.2.2.trans (hb.mono hB)⟩
theorem Row.holds {B : Nat} {w wr : World} {g n : Nat} {L : List Nat} (h : Row B w wr g n L) : GivesI.HoldsI wr (some ⟨g, 0, none⟩) n (intsN L) := by
  refine ⟨by unfold intsN; rw [List.length_map]; exact h.2.1, .inr ⟨g, 0, rfl, (Array.getElem?_eq_some_iff.1 h.1).1, fun i x hi => ?_⟩⟩
  unfold intsN at hi
  rw [List.getElem?_map, Option.map_eq_some_iff] at hi
  obtain ⟨y, hy, rfl⟩ := hi
  rw [Nat.zero_add]
  exact h.cell hy
theorem infoInt : (Try.prog.info? 3).map (fun i => (i.zero, i.size, i.bytes)) = some (some (.int .i64 0), 1, 8) := by kernel_rfl
theorem zer_is (n : Nat) : (madeCells #[.int .i64 0] (n * 1)).toList = cellsN (List.replicate n 0) := by
  unfold cellsN
  apply List.ext_getElem?
  intro i
  unfold madeCells
  by_cases h : i < n
  · simp [h, Nat.mod_one]
  · simp [h]
theorem run_make1 (w : World) (n : Nat) (hn : n ≤ 1048576) :
    (Instr.makeSlice 40 (.int .i64 (n : Int)) (.int .i64 (n : Int))).run Try.prog w = .ok (.slice (some ⟨w.heap.size, 0, none⟩) n n) (w.alloc (.cells (cellsN (List.replicate n 0)).toArray 3)) := by
  obtain ⟨i, hi, hz, hsz, hby⟩ := Go.info_parts (e := 3) infoInt
  have hr := run_make (P := Try.prog) w 40 3 i _ Try.underlying40 hi hz .i64 .i64 n n (by omega) (Int.le_refl _) (by rw [hby]; omega) (by omega)
  simp only [Int.toNat_natCast] at hr
  rw [hr, hsz, ← zer_is n, Array.toArray_toList]
  rfl
theorem Row.start (B : Nat) (w wr : World) (n : Nat) (hB : B ≤ wr.heap.size) (hb : Below B w wr) : Row B w (wr.alloc (.cells (cellsN (List.replicate n 0)).toArray 3)) wr.heap.size n (List.replicate n 0) :=
  ⟨heap_alloc_new wr _, by simp, hB, hb.alloc hB _⟩
end Go.Proofs.Ytmjhgjlnpnkmkaa.Bit
