/- The laws' toIntS and eqIntS: a copy of a list of ints; lists that are alike. -/
import Derived.Test.YtknlackphdcflaaDoorListS
import Derived.Laws.Rows
import Derived.Deep.QuietTactic
namespace Go.Proofs.YtknlackphdcflaaDoor.IntS
open Go.RowKit ListS
theorem infoInt : (Tryd.prog.info? 3).map (fun i => (i.zero, i.size, i.bytes)) = some (some (.int .i64 0), 1, 8) := by kernel_rfl
def zer (n : Nat) : List Value := (madeCells #[.int .i64 0] (n * 1)).toList
theorem zer_len (n : Nat) : (zer n).length = n := by unfold zer madeCells; simp
theorem run_make1 (w : World) (n : Nat) (hn : n ≤ 1048576) :
    (Instr.makeSlice 28 (.int .i64 (n : Int)) (.int .i64 (n : Int))).run Tryd.prog w = .ok (.slice (some ⟨w.heap.size, 0, none⟩) n n) (w.alloc (.cells (zer n).toArray 3)) := by
  obtain ⟨i, hi, hz, hsz, hby⟩ := Go.info_parts (e := 3) infoInt
  have hr := run_make (P := Tryd.prog) w 28 3 i _ Tryd.underlying28 hi hz .i64 .i64 n n (by omega) (Int.le_refl _) (by rw [hby]; omega) (by omega)
  simp only [Int.toNat_natCast] at hr
  rw [hr, hsz]
  unfold zer
  rw [Array.toArray_toList]
  rfl
/-- The copy under way: its first k are there. -/
def Cp (w wr : World) (n : Nat) (zs : List Int) (k : Nat) : Prop :=
  ∃ ys : List Value, wr.heap[w.heap.size]? = some (.cells ys.toArray 3) ∧ ys.length = n ∧ (∀ t z, t < k → zs[t]? = some z → ys[t]? = some (.int .i64 z)) ∧ Below w.heap.size w wr
theorem Cp.put {w wr : World} {n k : Nat} {zs : List Int} {z : Int} (h : Cp w wr n zs k) (hk : k < n) (hz : zs[k]? = some z) : Cp w (wr.setCell ⟨w.heap.size, k, none⟩ (.int .i64 z)) n zs (k + 1) := by
  obtain ⟨ys, h1, h2, h3, h4⟩ := h
  refine ⟨ys.set k (.int .i64 z), ?_, by simpa using h2, fun t y ht hy => ?_, h4.setCell (p := ⟨w.heap.size, k, none⟩) (Nat.le_refl _) _⟩
  · rw [heap_setCell_same wr w.heap.size k ys.toArray _ (.int .i64 z) h1]
    simp
  · by_cases e : t = k
    · subst e
      rw [hz] at hy
      injection hy with hy
      rw [List.getElem?_set_self (by omega), hy]
    · rw [List.getElem?_set_ne (fun e2 => e e2.symm)]
      exact h3 t y (by omega) hy
theorem Cp.there {w wr : World} {n k : Nat} {zs : List Int} (h : Cp w wr n zs k) {t : Nat} (ht : t < n) : (∃ v, wr.cell? ⟨w.heap.size, t, none⟩ = some v) ∧ wr.frozen? ⟨w.heap.size, t, none⟩ = false := by
  obtain ⟨ys, h1, h2, _⟩ := h
  refine ⟨⟨ys[t], ?_⟩, ?_⟩
  · simp only [World.cell?, h1, List.getElem?_toArray]
    rw [List.getElem?_eq_getElem (by omega)]
    rfl
  · simp only [World.frozen?, h1]
    rfl
theorem Cp.ints {w wr : World} {n : Nat} {zs : List Int} (h : Cp w wr n zs n) (hl : zs.length = n) : Ints wr (some ⟨w.heap.size, 0, none⟩) n zs := by
  obtain ⟨ys, h1, h2, h3, h4⟩ := h
  refine ⟨hl, .inr ⟨w.heap.size, 0, rfl, (Array.getElem?_eq_some_iff.1 h1).1, fun i z hi => ?_⟩⟩
  have hil := (List.getElem?_eq_some_iff.1 hi).1
  simp only [World.cell?, h1, Nat.zero_add, List.getElem?_toArray]
  rw [h3 i z (by omega) hi]
  rfl
set_option maxHeartbeats 1000000 in
theorem toIntS_any (a : Option Addr) (n c : Nat) (zs : List Int) (w : World) (hn : n ≤ 1048576) (h : Ints w a n zs) :
    Calls Tryd.prog 14 #[.slice a n c] w fun e w' => e = .returned (.slice (some ⟨w.heap.size, 0, none⟩) n n) ∧ Ints w' (some ⟨w.heap.size, 0, none⟩) n zs ∧ Below w.heap.size w w' := by
  have H := Lib.hid h
  clear h
  have hmk := fun W => run_make1 W n hn
  have h0 : Cp w (w.alloc (.cells (zer n).toArray 3)) n zs 0 := ⟨zer n, heap_alloc_new w _, zer_len n, (fun t z ht _ => by omega), (Below.refl w.heap.size w).alloc (Nat.le_refl _) _⟩
  go_enter Tryd.func14, Tryd.ntmps14
  go_wp2_with fail
  go_loopw [4] (fun s4 wr => ∃ k : Nat, k ≤ n ∧ s4 = .int .i64 k ∧ Cp w wr n zs k) (fun s4 _ => n - (intOf s4).toNat)
  case atStart => exact ⟨0, Nat.zero_le _, rfl, h0⟩
  case round =>
    clear h0
    obtain ⟨k, hk, rfl, hC⟩ := hrel
    by_cases hlt : k < n
    · have hkn : (k : Int) < (n : Int) := by omega
      have hk0 : (0 : Int) ≤ (k : Int) := by omega
      have hbel : Below w.heap.size w wr := by obtain ⟨_, _, _, _, h⟩ := hC; exact h
      obtain ⟨b, off, z, rfl, hz, e1⟩ := (H.out.below hbel).at hlt
      obtain ⟨⟨v, hv⟩, hf⟩ := hC.there hlt
      have HN := Lib.hid (hC.put hlt hz)
      clear hC hz hbel hmk
      go_wp2_with fail
      exact ⟨⟨k + 1, by omega, by go_num, HN.out⟩, by simp [intOf]; omega⟩
    · obtain rfl : k = n := by omega
      have hkn : ¬ (k : Int) < (k : Int) := by omega
      have HC := Lib.hid hC
      clear hC hmk
      go_wp2_with fail
      go_ret
      exact ⟨rfl, HC.out.ints H.out.1, by obtain ⟨_, _, _, _, h⟩ := HC.out; exact h⟩
theorem eqIntS_same (a1 a2 : Option Addr) (n c1 c2 : Nat) (zs : List Int) (w : World) (hn : n ≤ 1048576) (h1 : Ints w a1 n zs) (h2 : Ints w a2 n zs) :
    Calls Tryd.prog 16 #[.slice a1 n c1, .slice a2 n c2] w fun e w' => e = .returned (.bool true) ∧ Below w.heap.size w w' := by
  have H1 := Lib.hid h1
  have H2 := Lib.hid h2
  clear h1 h2
  go_enter Tryd.func16, Tryd.ntmps16
  go_wp2
  go_loopw [5] (fun i wr => ∃ k : Nat, k ≤ n ∧ i = .int .i64 k ∧ Below w.heap.size w wr) (fun i _ => n - (intOf i).toNat)
  case atStart => exact ⟨0, Nat.zero_le _, rfl, Below.refl _ _⟩
  case round =>
    obtain ⟨k, hk, rfl, hb⟩ := hrel
    by_cases hlt : k < n
    · obtain ⟨b, off, x, rfl, hx, e1⟩ := (H1.out.below hb).at hlt
      obtain ⟨b', off', x', rfl, hx', e1'⟩ := (H2.out.below hb).at hlt
      obtain rfl : x' = x := by
        rw [hx] at hx'
        injection hx' with hx'
        exact hx'.symm
      clear hx hx'
      have hi : (k : Int) < (n : Int) := by omega
      go_wp2_with fail
      go_quiet (fail)
      go_wp2_with fail
      exact ⟨⟨k + 1, by omega, by go_num, hb.trans ((Joins.below_draws _ _ _).mono hb.size)⟩, by simp [intOf]; omega⟩
    · go_wp2
      go_ret
      exact ⟨rfl, hb⟩
end Go.Proofs.YtknlackphdcflaaDoor.IntS
