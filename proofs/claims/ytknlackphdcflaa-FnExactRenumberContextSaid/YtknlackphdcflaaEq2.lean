/- == and != of two relations, and slices.Index over relations. -/
import Derived.Test.YtknlackphdcflaaRelM
import Derived.Test.YtknlackphdcflaaRecEq
import Derived.Laws.StructEq
import Derived.Shelf.SlicesE.Kit
import Derived.BigQuiet
namespace Go.Proofs.Ytknlackphdcflaa.Eq2
open Go.RowKit Pairs Rec RecEq Find2 GoodM RelM

theorem guard2 (op : BinOp) (a b : Operand) (x1 x2 y1 y2 : Int) (w : World) : Sem.run Try.prog (eqGuard op 44 a b (.agg #[.int .i64 x1, .int .i64 x2]) (.agg #[.int .i64 y1, .int .i64 y2])) w = .ok () w :=
  run_eqGuard_agg w op 44 a b _ _ (by kernel_rfl)
theorem equal2 (x1 x2 y1 y2 : Int) (w : World) : Sem.run Try.prog (binOp .eql 44 (.agg #[.int .i64 x1, .int .i64 x2]) (.agg #[.int .i64 y1, .int .i64 y2])) w = .ok (.bool (x1 == y1 && x2 == y2)) w := by
  have u3 := Try.underlying3
  have a3 := Try.isAgg3
  have z3 := Try.sizeOf3
  have hS : Try.prog.underlying 44 = some (.struct (Try.prog.fieldsOf 44)) := by kernel_rfl
  have hp : Try.prog.stoodInHeld 44 = false := by kernel_rfl
  rw [run_eql_struct, show (10000 : Nat) = 9999 + 1 from rfl, run_equalIn_agg w 9999 44 _ _ hS hp]
  simp only [Program.fieldsOf, Try.underlying44]
  go_simp
  by_cases h1 : x1 = y1 <;> by_cases h2 : x2 = y2 <;> simp [h1, h2]
theorem differ2 (x1 x2 y1 y2 : Int) (w : World) : Sem.run Try.prog (binOp .neq 44 (.agg #[.int .i64 x1, .int .i64 x2]) (.agg #[.int .i64 y1, .int .i64 y2])) w = .ok (.bool (!(x1 == y1 && x2 == y2))) w := by
  have u3 := Try.underlying3
  have a3 := Try.isAgg3
  have z3 := Try.sizeOf3
  have hS : Try.prog.underlying 44 = some (.struct (Try.prog.fieldsOf 44)) := by kernel_rfl
  have hp : Try.prog.stoodInHeld 44 = false := by kernel_rfl
  rw [run_neq_struct, show (10000 : Nat) = 9999 + 1 from rfl, run_equalIn_agg w 9999 44 _ _ hS hp]
  simp only [Program.fieldsOf, Try.underlying44]
  go_simp
  by_cases h1 : x1 = y1 <;> by_cases h2 : x2 = y2 <;> simp [h1, h2]
def atR (m : List (Int × Int)) (u v : Int) : Option Nat := m.findIdx? (fun p => p.1 == u && p.2 == v)
def indexR (m : List (Int × Int)) (u v : Int) : Int := match atR m u v with | some k => (k : Int) | none => -1
theorem indexR_some {m : List (Int × Int)} {u v : Int} {k : Nat} (h : atR m u v = some k) : indexR m u v = (k : Int) := by unfold indexR; rw [h]
theorem indexR_none {m : List (Int × Int)} {u v : Int} (h : atR m u v = none) : indexR m u v = -1 := by unfold indexR; rw [h]
theorem atR_here {m : List (Int × Int)} {u v : Int} {k : Nat} (h : ∀ p ∈ m.take k, p ≠ (u, v)) (hk : m[k]? = some (u, v)) : atR m u v = some k := by
  unfold atR
  have hl : k < m.length := (List.getElem?_eq_some_iff.1 hk).1
  rw [List.findIdx?_eq_some_iff_getElem]
  refine ⟨hl, ?_, ?_⟩
  · rw [(List.getElem?_eq_some_iff.1 hk).2]
    simp
  · intro j hj
    have := h m[j] (by rw [List.mem_take_iff_getElem]; exact ⟨j, by omega, rfl⟩)
    intro e
    simp at e
    exact this (Prod.ext e.1 e.2)
theorem atR_none {m : List (Int × Int)} {u v : Int} (h : ∀ p ∈ m, p ≠ (u, v)) : atR m u v = none := by
  unfold atR
  rw [List.findIdx?_eq_none_iff]
  intro p hp
  have := h p hp
  cases e : (p.1 == u && p.2 == v) with
  | false => rfl
  | true =>
    simp at e
    exact absurd (Prod.ext e.1 e.2) this
theorem atR_mem {m : List (Int × Int)} {u v : Int} {k : Nat} (h : atR m u v = some k) : m[k]? = some (u, v) := by
  unfold atR at h
  rw [List.findIdx?_eq_some_iff_getElem] at h
  obtain ⟨hl, h1, _⟩ := h
  simp at h1
  rw [List.getElem?_eq_getElem hl]
  congr 1
  exact Prod.ext h1.1 h1.2
theorem atR_no {m : List (Int × Int)} {u v : Int} (h : atR m u v = none) : (u, v) ∉ m := by
  unfold atR at h
  rw [List.findIdx?_eq_none_iff] at h
  intro hm
  have := h _ hm
  simp at this
set_option maxRecDepth 100000 in
set_option maxHeartbeats 2000000 in
theorem index_any (a : Option Addr) (n c : Nat) (m : List (Int × Int)) (u v : Int) (hz : n ≤ 1048576) (w : World) (h : Holds w a n m) :
    Calls Try.prog 75 #[.slice a n c, .agg #[.int .i64 u, .int .i64 v]] w fun e w' => e = .returned (.int .i64 (indexR m u v)) ∧ Below w.heap.size w w' := by
  have hb := below_alloc w (.cells #[.int .i64 u, .int .i64 v] 44)
  have u1 := box_first w (.int .i64 u) (.int .i64 v) 44
  have u2' := box_second w (.int .i64 u) (.int .i64 v) 44
  have hsz : w.heap.size < (w.alloc (.cells #[.int .i64 u, .int .i64 v] 44)).heap.size := by simp
  have HH := Lib.hid (h.below hb)
  clear h
  go_enter Try.func75, Try.ntmps75
  go_wp2_with fail
  generalize w.alloc (.cells #[.int .i64 u, .int .i64 v] 44) = W at *
  go_loopw [8] (fun s8 wr => ∃ k : Nat, k ≤ n ∧ s8 = .int .i64 k ∧ Below W.heap.size W wr ∧ Hid (∀ p ∈ m.take k, p ≠ (u, v))) (fun s8 _ => n - (intOf s8).toNat)
  case atStart => exact ⟨0, Nat.zero_le _, rfl, Below.refl _ _, fun p hp => by simp at hp⟩
  case round =>
    obtain ⟨k, hk, rfl, hbr, HP⟩ := hrel
    by_cases hlt : k < n
    · obtain ⟨b, off, x, y, rfl, hx, e1, e2⟩ := (HH.out.below hbr).at k hlt
      have HX := Lib.hid hx
      have hkn : (k : Int) < (n : Int) := by omega
      have q1 := (hbr.cell (p := ⟨w.heap.size, 0, none⟩) hsz).trans u1
      have q2 := (hbr.cell (p := ⟨w.heap.size, 1, none⟩) hsz).trans u2'
      have hE := equal2
      have hG := guard2
      clear hx
      by_cases hxy : x = u ∧ y = v
      · obtain ⟨rfl, rfl⟩ := hxy
        have HR := Lib.hid (indexR_some (atR_here HP.out HX.out))
        go_wp2_with fail
        go_quiet (fail)
        go_wp2_with fail
        go_ret
        exact ⟨by rw [HR.out]; rfl, hb.trans ((hbr.trans ((Joins.below_draws _ _ _).mono hbr.size)).mono hb.size)⟩
      · have hbo : (u == x && v == y) = false := by
          cases e : (u == x && v == y) with
          | false => rfl
          | true =>
            simp at e
            exact absurd ⟨e.1.symm, e.2.symm⟩ hxy
        have HP2 : Hid (∀ p ∈ m.take (k + 1), p ≠ (u, v)) := by
          intro p hp
          rw [List.take_add_one, HX.out] at hp
          rcases List.mem_append.1 hp with hp | hp
          · exact HP.out p hp
          · simp at hp
            rw [hp]
            intro e
            injection e with e3 e4
            exact hxy ⟨e3, e4⟩
        clear hxy
        go_wp2_with fail
        go_quiet (fail)
        go_wp2_with fail
        exact ⟨⟨k + 1, by omega, by go_num, hbr.trans ((Joins.below_draws _ _ _).mono hbr.size), HP2⟩, by simp [intOf]; omega⟩
    · obtain rfl : k = n := by omega
      have hkn : ¬ (k : Int) < (k : Int) := by omega
      have HR : Hid (indexR m u v = -1) := indexR_none (atR_none (by
        have := HP.out
        rw [List.take_of_length_le (by rw [HH.out.1]; omega)] at this
        exact this))
      go_wp2_with fail
      go_ret
      exact ⟨by rw [HR.out]; rfl, hb.trans (hbr.mono hb.size)⟩
end Go.Proofs.Ytknlackphdcflaa.Eq2
