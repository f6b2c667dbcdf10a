/- A region that draws its order, in a plain walk: operations that only read come first, in whatever order; those behind them wait for all of them and go in a row. -/
import Derived.Test.YtfbgekhkbbhggaaQsp
namespace Go.Proofs.Ytfbgekhkbbhggaa.Qsw
open Go Go.RowKit Qsp
set_option linter.unusedVariables false
section
variable {P : Program} {ops : Array Oper} {md : Region.Mode} {C : World → Prop} {Q : Exit → Act → World → Prop}
theorem any_of_mix_p {T : Array Bool → Act → Prop} {f2 : Nat} (hT : ∀ listed a, T listed a → ∀ w, C w → wpAny P md ops Q f2 listed a w) :
    ∀ (fuel : Nat) (listed : Array Bool) (a : Act) (w : World), C w → mix P md ops C T fuel listed a → wpAny P md ops Q (fuel + f2) listed a w
  | 0, listed, a, w, hw, h => by rw [Nat.zero_add]; exact hT _ _ h w hw
  | fuel + 1, listed, a, w, hw, h => by
    rw [Nat.add_right_comm]
    exact ⟨fun h0 => absurd h0 h.1, fun i hi => wpOp_of_qOp hw (fun a' w' hw' hh => any_of_mix_p hT fuel _ a' w' hw' hh) (h.2 i hi)⟩
theorem any_of_row_p : ∀ (L : List Oper) (k : Nat) (listed : Array Bool) (a : Act) (w : World), (∀ j o, L[j]? = some o → ops[k + j]? = some o) → rowB md ops L.length k listed = true →
    wpList P ops Q L a w → wpAny P md ops Q L.length listed a w
  | [], k, listed, a, w, _, hB, h => ⟨by simpa [rowB] using hB, h⟩
  | o :: L, k, listed, a, w, hl, hB, h => by
    have h0 : ops[k]? = some o := by simpa using hl 0 o rfl
    simp only [List.length_cons, rowB, Bool.and_eq_true, beq_iff_eq] at hB
    have hK : ∀ a w, wpList P ops Q L a w → wpAny P md ops Q L.length (listed.setIfInBounds k true) a w := fun a w hh =>
      any_of_row_p L (k + 1) _ a w (fun j o' ho' => by have := hl (j + 1) o' (by simpa using ho'); simpa [Nat.add_assoc, Nat.add_comm 1 j] using this) hB.2 hh
    refine ⟨fun h1 => (by rw [hB.1] at h1; cases h1), fun i hi => ?_⟩
    rw [hB.1] at hi
    obtain rfl : i = k := by simpa using hi
    unfold wpOp
    simp only [h0]
    unfold wpList at h
    split
    · rename_i hw
      rw [if_pos hw] at h
      rcases h with h | h
      · exact .inl (Oper.wp_mono hK h)
      · exact .inr h
    · rename_i hw
      rw [if_neg hw] at h
      exact hK _ _ h
theorem region_split_p {id : Nat} {a : Act} {w : World} (L1 L2 : List Oper) (hm : P.follows .mixedOrders = true) (hops : ops = (L1 ++ L2).toArray) (hs : Region.noSelect (L1 ++ L2).toArray = true)
    (hW : waitsB .any (L1 ++ L2).toArray L1.length = true) (hL : lexTo .any (L1 ++ L2).toArray L1.length 0 (Array.replicate (L1 ++ L2).length false) = true)
    (hMk : (List.range L1.length).all (fun j => (marked L1.length 0 (Array.replicate (L1 ++ L2).length false)).getD j true) = true)
    (hR : rowB .any (L1 ++ L2).toArray L2.length L1.length (marked L1.length 0 (Array.replicate (L1 ++ L2).length false)) = true)
    (h : wpQuiet P (L1 ++ L2).toArray (fun w' => ∃ p : Regrown, w' = Sort.grow (redrawn w p.d) p.os) (fun a' => ∀ w', (∃ p : Regrown, w' = Sort.grow (redrawn w p.d) p.os) → wpList P (L1 ++ L2).toArray Q L2 a' w') L1 a) :
    (Code.region id ops true).wp P Q a w := by
  subst hops
  refine wp_region_any hm ?_
  have hC : (fun w' => ∃ p : Regrown, w' = Sort.grow (redrawn w p.d) p.os) { w with drawn := w.drawn + 1 } := ⟨⟨w.drawn + 1, #[]⟩, by rw [Sort.grow_empty]; rfl⟩
  have hsz : (L1 ++ L2).toArray.size = L1.length + L2.length := by simp
  have hlen : (L1 ++ L2).length = L1.length + L2.length := by simp
  rw [hsz]
  have key := any_of_mix_p (P := P) (md := .any) (ops := (L1 ++ L2).toArray) (C := fun w' => ∃ p : Regrown, w' = Sort.grow (redrawn w p.d) p.os) (Q := Q)
    (T := fun listed a' => listed = marked L1.length 0 (Array.replicate (L1 ++ L2).length false) ∧ ∀ w', (∃ p : Regrown, w' = Sort.grow (redrawn w p.d) p.os) → wpList P (L1 ++ L2).toArray Q L2 a' w') (f2 := L2.length)
    (fun listed a' hT w' hw' => by
      rw [hT.1]
      refine any_of_row_p L2 L1.length _ a' w' (fun j o ho => ?_) hR (hT.2 w' hw')
      rw [List.getElem?_toArray, List.getElem?_append_right (by omega), Nat.add_sub_cancel_left]
      exact ho)
    L1.length (Array.replicate (L1 ++ L2).length false) a _ hC ?_
  · rw [hlen] at key
    exact key
  · refine mix_lex (m := L1.length) hs (waits_of hW) (fun listed a' hT j hj => ?_) L1 0 _ a (by omega) (fun j o ho => ?_) hL ?_
    · rw [hT.1]
      exact List.all_eq_true.1 hMk j (List.mem_range.2 hj)
    · rw [Nat.zero_add, List.getElem?_toArray, List.getElem?_append_left (List.getElem?_eq_some_iff.1 ho).1]
      exact ho
    · exact quiet_mono (fun a' ha' => ⟨rfl, ha'⟩) _ _ h
/-- The same, the region written out: its first m operations only read. -/
theorem region_at_p {id : Nat} {a : Act} {w : World} {L : List Oper} (m : Nat) (hm : P.follows .mixedOrders = true) (hB : checkB L m = true)
    (h : wpQuiet P L.toArray (fun w' => ∃ p : Regrown, w' = Sort.grow (redrawn w p.d) p.os) (fun a' => ∀ w', (∃ p : Regrown, w' = Sort.grow (redrawn w p.d) p.os) → wpList P L.toArray Q (L.drop m) a' w') (L.take m) a) :
    (Code.region id L.toArray true).wp P Q a w := by
  unfold checkB at hB
  simp only [Bool.and_eq_true, decide_eq_true_eq] at hB
  obtain ⟨b1, b2, b3, b4, b5, b6, b7⟩ := hB
  have e : L.take m ++ L.drop m = L := List.take_append_drop m L
  have e1 : (L.take m).length = m := by rw [List.length_take]; omega
  have e2 : (L.drop m).length = L.length - m := List.length_drop
  exact region_split_p (L.take m) (L.drop m) hm (by rw [e]) (by rw [e]; exact b2) (by rw [e, e1]; exact b3) (by rw [e, e1]; exact b4) (by rw [e, e1]; exact b5) (by rw [e, e1, e2]; exact b6) (by rw [e]; exact h)
end
end Go.Proofs.Ytfbgekhkbbhggaa.Qsw
