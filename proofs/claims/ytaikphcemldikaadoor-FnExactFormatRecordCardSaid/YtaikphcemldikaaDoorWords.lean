/- The words of the kinds: the program's table, the model's list; contracts of KindWord and ParseKind on both sides. -/
import Derived.Test.YtaikphcemldikaaDoorRows
import Derived.WalkKit
import Derived.ProofKit
import Derived.Lib.Hide
import Derived.Lib.LaidTab
import Derived.Lib.SmallJoins
import Derived.Below
import Derived.WalkSmall
import Derived.Laws.Rows
namespace Go.Proofs.YtaikphcemldikaaDoor.Words
open Go.RowKit

def word : Nat → ByteArray
  | 1 => ⟨#[100, 101, 112, 111, 115, 105, 116]⟩
  | 2 => ⟨#[99, 117, 116]⟩
  | 3 => ⟨#[115, 116, 114, 117, 99, 116, 117, 114, 101]⟩
  | 4 => ⟨#[110, 97, 116, 117, 114, 97, 108]⟩
  | _ => ⟨#[]⟩
def cells5 : Array Value := #[.string (word 0), .string (word 1), .string (word 2), .string (word 3), .string (word 4)]
theorem cells5_is : cells5 = ([[], [100, 101, 112, 111, 115, 105, 116], [99, 117, 116], [115, 116, 114, 117, 99, 116, 117, 114, 101], [110, 97, 116, 117, 114, 97, 108]].map fun l : List UInt8 => Value.string ⟨l.toArray⟩).toArray := rfl
/-- The program's table of words lies as its initialiser lays it. -/
def KTab (w : World) : Prop := w.var? Tryd.prog "loop.example/g00876/impl.kindWords" = some cells5
theorem gK : Tryd.prog.globalNamed "loop.example/g00876/impl.kindWords" = some 0 := by kernel_rfl
theorem gKType : (Tryd.prog.globals[0]?).map (·.type) = some 99 := by kernel_rfl
theorem KTab.row {w : World} (h : KTab w) : ∃ t fr, w.heap[0]? = some (.cells cells5 t fr) := by
  unfold KTab World.var? at h
  simp only [gK, Option.bind_some] at h
  cases hb : w.heap[0]? with
  | none => rw [hb] at h; cases h
  | some o =>
    rw [hb] at h
    cases o with
    | cells cs t fr =>
      injection h with h
      subst h
      exact ⟨t, fr, rfl⟩
    | _ => cases h
theorem KTab.size {w : World} (h : KTab w) : 0 < w.heap.size := by
  obtain ⟨t, fr, h⟩ := h.row
  exact (Array.getElem?_eq_some_iff.1 h).1
theorem KTab.below {w w' : World} (h : KTab w) (hb : Below w.heap.size w w') : KTab w' := var?_below hb gK h.size h
theorem KTab.cell {w : World} (h : KTab w) (i : Nat) : w.cell? ⟨0, i, none⟩ = cells5[i]? := World.var?_cell gK h i
theorem bytes_of {s : ByteArray} {l : List UInt8} (h : s.data.toList = l) : s = ⟨l.toArray⟩ := by
  subst h
  cases s
  rfl
theorem cells_of_strs {H : Type} {enc : TypeId × Value → H} {P : Program} {w : World} {base : Nat} {sp : Nat → Bool} {held : Bool} {fuel : Nat} {t e : TypeId} {n : Nat} {cs : List Value} {ss : List (List UInt8)} {p : List MemPlace}
    (ht : P.underlying t = some (.array n e)) (he : P.underlying e = some .string) (hce : P.cellsOf e = 1) (hct : P.cellsOf t = n)
    (h : DataW.trod enc P w base sp held fuel t cs = some (.agg (ss.map fun l => .lit (.string l)), p)) : cs = ss.map fun l => Value.string ⟨l.toArray⟩ := by
  cases fuel with
  | zero => simp [DataW.trod] at h
  | succ fuel =>
    simp only [DataW.trod, ht, hce, hct, Nat.mul_one] at h
    split at h
    · rename_i hl
      obtain ⟨xs, hm, hx⟩ := Option.map_eq_some_iff.1 h
      have hxs : xs.map (·.1) = ss.map fun l => (DataW.lit (.string l) : DataW H) := by
        have := congrArg Prod.fst hx
        simpa using this
      have hxl : xs.length = n := by simpa using Lib.mapM_length hm
      have hzl : ss.length = n := by
        have := congrArg List.length hxs
        simp at this
        omega
      apply List.ext_getElem?
      intro i
      by_cases hi : i < n
      · obtain ⟨b, hb, hf⟩ := Lib.mapM_at hm i i (by simp [hi])
        obtain ⟨z, hc, rfl, _⟩ := DataW.trod_string he hf
        have h1 : cs[i]? = some (.string z) := by
          have := congrArg (·[0]?) hc
          simpa [List.getElem?_take, List.getElem?_drop] using this
        have h2 : (xs.map (·.1))[i]? = some (DataW.lit (.string z.data.toList) : DataW H) := by simp [hb]
        rw [hxs] at h2
        simp only [List.getElem?_map, Option.map_eq_some_iff, DataW.lit.injEq, Lit.string.injEq] at h2
        obtain ⟨z', hz', e⟩ := h2
        rw [h1, List.getElem?_map, hz', Option.map_some, bytes_of e.symm]
      · rw [List.getElem?_eq_none (by omega), List.getElem?_eq_none (by simp; omega)]
    · cases h
theorem ktab_of {W : World} (h : laidMetH Tryd.prog [("loop.example/g00876/impl.kindWords", Rows.laid_loop_example_g00876_impl_kindWords)] W) : KTab W := by
  have h' : laidMet Tryd.prog [("loop.example/g00876/impl.kindWords", Rows.laid_loop_example_g00876_impl_kindWords)] W := h
  obtain ⟨ps, ⟨g', t', cs, fuel, p, q, hg', ht', hvar, hd, _, _⟩, _⟩ := h'
  obtain rfl := Option.some.inj (gK.symm.trans hg')
  obtain rfl := Option.some.inj (gKType.symm.trans ht')
  have e := cells_of_strs (ss := [[], [100, 101, 112, 111, 115, 105, 116], [99, 117, 116], [115, 116, 114, 117, 99, 116, 117, 114, 101], [110, 97, 116, 117, 114, 97, 108]]) Tryd.underlying99 Tryd.underlying9 (by kernel_rfl) (by kernel_rfl) hd
  unfold KTab
  rw [hvar, cells5_is, ← e]

/-- The word of a kind, and whether there is one. -/
def kw (n : Int) : ByteArray × Bool := if 1 ≤ n ∧ n ≤ 4 then (word n.toNat, true) else (⟨#[]⟩, false)
theorem kw_none {n : Int} (h : ¬ (1 ≤ n ∧ n ≤ 4)) : kw n = (⟨#[]⟩, false) := by unfold kw; rw [if_neg h]
theorem isKind_any (k : Int) (w : World) : Calls Tryd.prog 86 #[.int .i64 k] w fun e w' => e = .returned (.bool (decide (1 ≤ k ∧ k ≤ 4))) ∧ w = w' := by
  go_enter Tryd.func86, Tryd.ntmps86
  by_cases h1 : 1 ≤ k
  · by_cases h2 : k ≤ 4
    · rw [decide_eq_true ⟨h1, h2⟩]
      go_wp2
      go_ret
      exact ⟨rfl, rfl⟩
    · rw [decide_eq_false (fun h => h2 h.2)]
      go_wp2
      go_ret
      exact ⟨rfl, rfl⟩
  · rw [decide_eq_false (fun h => h1 h.1)]
    go_wp2
    go_ret
    exact ⟨rfl, rfl⟩
theorem l1In_any (x a b : Int) (w : World) : Calls Tryd.prog 63 #[.int .i64 x, .int .i64 a, .int .i64 b] w fun e w' => e = .returned (.bool (decide (a ≤ x ∧ x ≤ b))) ∧ w = w' := by
  go_enter Tryd.func63, Tryd.ntmps63
  by_cases h1 : a ≤ x
  · by_cases h2 : x ≤ b
    · rw [decide_eq_true ⟨h1, h2⟩]
      go_wp2
      go_ret
      exact ⟨rfl, rfl⟩
    · rw [decide_eq_false (fun h => h2 h.2)]
      go_wp2
      go_ret
      exact ⟨rfl, rfl⟩
  · rw [decide_eq_false (fun h => h1 h.1)]
    go_wp2
    go_ret
    exact ⟨rfl, rfl⟩
theorem l3Words_any (w : World) : Calls Tryd.prog 66 #[] w fun e w' => e = .returned (.slice (some ⟨w.heap.size, 0, none⟩) 5 5) ∧ w' = w.alloc (.cells cells5 9) := by
  go_enter Tryd.func66, Tryd.ntmps66
  go_wp2
  go_ret
  exact ⟨rfl, rfl⟩
theorem words_cell (w : World) (i : Nat) : (w.alloc (.cells cells5 9)).cell? ⟨w.heap.size, i, none⟩ = cells5[i]? := by
  have h := heap_alloc_new w (.cells cells5 9)
  simp only [World.cell?, h]
  rfl
theorem four {n : Int} (h : 1 ≤ n ∧ n ≤ 4) : n = 1 ∨ n = 2 ∨ n = 3 ∨ n = 4 := by omega
end Go.Proofs.YtaikphcemldikaaDoor.Words
