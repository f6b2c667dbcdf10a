/- A region that draws its order, in a round of a range over a function (the wide fence): operations that only read come first, in whatever order; those behind them wait for all of them and go in a row. -/
import Derived.Test.YtfbgekhkbbhggaaRows
import Derived.Deep.Quiet
import Derived.OrdersIn
import Derived.TacticsIn
import Derived.RangeFuncCalls
import Derived.Lib.QuietBelow
namespace Go.Proofs.Ytfbgekhkbbhggaa.Qsp
open Go Go.RowKit
set_option linter.unusedVariables false
section
variable {P : Program} {ops : Array Oper} {md : Region.Mode} {C : World → Prop} {l n : Nat} {Q : Exit → Act → World → Prop}
def noDefer (ops : List Oper) : Bool := ops.all fun o => match o.op with | .defer _ => false | _ => true
theorem noDefer_at {L : List Oper} (h : noDefer L = true) {o : Oper} (ho : o ∈ L) : ∀ c, o.op ≠ .defer c := by
  intro c e
  have := List.all_eq_true.1 h o ho
  rw [e] at this
  cases this
theorem op_in {o : Oper} {a : Act} {K : Act → Prop} {K' : Act → World → Prop} {w : World} (hd : ∀ c, o.op ≠ .defer c) (hw : C w) (h : ∀ a w', C w' → K a → K' a w') (hh : o.quiet P a C K) : o.wpIn (Fence.wide.inRound l) n P a w K' Q := by
  obtain ⟨v, h1, h2⟩ := hh
  have h3 := h1 w hw
  unfold Oper.quietAt at h3
  refine ⟨fun _ _ => trivial, ?_⟩
  rw [Oper.semAt_eq _ _ _ hd]
  generalize (execOp a.eval o).run P w = r at *
  cases r with
  | ok x w' =>
    cases x <;> simp only [Oper.quietUpon] at h3 <;> simp only [Oper.uponIn]
    case value u =>
      obtain ⟨e1, e2⟩ := h3
      rw [e1, e2]
      exact h _ _ hw h2
    case skip =>
      obtain ⟨e1, e2⟩ := h3
      rw [e1, ← e2]
      exact h _ _ hw h2
    case enter f args =>
      obtain ⟨e1, hc⟩ := h3
      rw [e1]
      refine ⟨fun h => (by cases h), CallsIn.inRound l ((callsIn_wide.2 hc).mono ?_)⟩
      rintro e w'' ⟨he, hw''⟩
      subst he
      exact h _ _ hw'' h2
  | halt x w' => simp only [Oper.quietUpon] at h3
theorem qop_in {i : Nat} {a : Act} {K : Act → Prop} {K' : Act → World → Prop} {w : World} (hd : noDefer ops.toList = true) (hC : C w) (h : ∀ a w', C w' → K a → K' a w') (hh : qOp P ops C i K a) : wpOpIn (Fence.wide.inRound l) n P ops Q i K' a w := by
  unfold qOp at hh
  unfold wpOpIn
  split
  · rename_i ho; simp only [ho] at hh; exact h _ _ hC hh
  · rename_i o ho
    simp only [ho] at hh
    split
    · rename_i hw
      simp only [hw, if_true] at hh
      exact op_in (noDefer_at hd (by simpa using Array.mem_of_getElem? ho)) hC h hh
    · rename_i hw
      simp only [hw] at hh
      exact ⟨fun _ _ => trivial, h _ _ hC hh⟩
/-- The operations below m in whatever order, then T. -/
def mix (P : Program) (md : Region.Mode) (ops : Array Oper) (C : World → Prop) (T : Array Bool → Act → Prop) : Nat → Array Bool → Act → Prop
  | 0, listed, a => T listed a
  | fuel + 1, listed, a => Region.ready md ops listed ≠ [] ∧ ∀ i ∈ Region.ready md ops listed, qOp P ops C i (mix P md ops C T fuel (listed.setIfInBounds i true)) a
/-- What is not below m waits for all that is. -/
def Waits (md : Region.Mode) (ops : Array Oper) (m : Nat) : Prop := ∀ j o, ops[j]? = some o → m ≤ j → ∀ i, i < m → ∃ e ∈ o.after, Region.binds md e = true ∧ e.on = i
def waitsB (md : Region.Mode) (ops : Array Oper) (m : Nat) : Bool := (List.range ops.size).all fun j => decide (j < m) || match ops[j]? with
  | some o => (List.range m).all fun i => o.after.any fun e => Region.binds md e && e.on == i
  | none => true
theorem waits_of {m : Nat} (h : waitsB md ops m = true) : Waits md ops m := by
  intro j o ho hj i hi
  have hjl := (Array.getElem?_eq_some_iff.1 ho).1
  have e := List.all_eq_true.1 h j (List.mem_range.2 hjl)
  rw [ho, decide_eq_false (by omega), Bool.false_or] at e
  have e2 := List.all_eq_true.1 e i (List.mem_range.2 hi)
  rw [Array.any_eq_true'] at e2
  obtain ⟨x, hx, hb⟩ := e2
  simp only [Bool.and_eq_true, beq_iff_eq] at hb
  exact ⟨x, hx, hb.1, hb.2⟩
theorem below_m {m i j : Nat} {listed : Array Bool} (hW : Waits md ops m) (hi : i < m) (hin : listed.getD i true = false) (hj : j ∈ Region.ready md ops listed) : j < m := by
  rcases Nat.lt_or_ge j m with h | h
  · exact h
  · obtain ⟨_, o, ho, hall⟩ := mem_ready.1 hj
    obtain ⟨e, he, hb, hon⟩ := hW j o ho h i hi
    have h1 := hall e he hb
    rw [hon] at h1
    rcases Nat.lt_or_ge i listed.size with h' | h'
    · simp [h'] at hin h1; rw [hin] at h1; cases h1
    · simp [Array.getElem?_eq_none h'] at h1
theorem mix_first {T : Array Bool → Act → Prop} {m i : Nat} {oi : Oper} {v : Value} (hi : ops[i]? = some oi) (him : i < m) (hW : Waits md ops m) (hT : ∀ listed a, T listed a → ∀ j, j < m → listed.getD j true = true)
    (hsel : ∀ (j : Nat) (o : Oper) cs b, ops[j]? = some o → o.op ≠ .select cs b) :
    ∀ (fuel : Nat) (listed : Array Bool) (a : Act),
      (∀ j oj, ops[j]? = some oj → j ≠ i → listed.getD j true = false → (∀ e ∈ oj.after, Region.binds md e = true → e.on ≠ i) → oi.apart ops oj = true) →
      i ∈ Region.ready md ops listed → YieldsIn P ops C oi v a →
      mix P md ops C T fuel (listed.setIfInBounds i true) (a.put oi.dst v) → mix P md ops C T (fuel + 1) listed a := by
  intro fuel
  induction fuel with
  | zero =>
    intro listed a _ hr hy H
    refine ⟨fun h => (by rw [h] at hr; cases hr), fun j hj => ?_⟩
    by_cases hji : j = i
    · subst hji; exact hy.qOp hi H
    · have hjm := below_m hW him (mem_ready.1 hr).1 hj
      have h1 := hT _ _ H j hjm
      rw [getD_set_ne true (Ne.symm hji), (mem_ready.1 hj).1] at h1
      cases h1
  | succ fuel ih =>
    intro listed a hfree hr hy H
    refine ⟨fun h => (by rw [h] at hr; cases hr), fun j hj => ?_⟩
    by_cases hji : j = i
    · subst hji; exact hy.qOp hi H
    · have h1 := H.2 j (ready_mono hj hji)
      obtain ⟨hjun, oj, hoj, hall⟩ := mem_ready.1 hj
      have hnot : ∀ e ∈ oj.after, Region.binds md e = true → e.on ≠ i := fun e he hb heq => by
        have h1 := hall e he hb
        have h0 := (mem_ready.1 hr).1
        rw [heq] at h1
        rcases Nat.lt_or_ge i listed.size with h' | h'
        · simp [h'] at h0 h1; rw [h0] at h1; cases h1
        · simp [Array.getElem?_eq_none h'] at h1
      have h2 := qOp_put hoj (hfree j oj hoj hji hjun hnot) (fun cs b => hsel i oi cs b hi) (fun cs b => hsel j oj cs b hoj) hy h1
      have hfree' : ∀ k ok, ops[k]? = some ok → k ≠ i → (listed.setIfInBounds j true).getD k true = false →
          (∀ e ∈ ok.after, Region.binds md e = true → e.on ≠ i) → oi.apart ops ok = true := fun k ok hk hki hun hno => by
        refine hfree k ok hk hki ?_ hno
        by_cases hjk : j = k
        · subst hjk; exact hjun
        · rw [getD_set_ne true hjk] at hun; exact hun
      refine qOp_mono (fun a' h3 => ih (listed.setIfInBounds j true) a' hfree' (ready_mono hr (Ne.symm hji)) h3.1 ?_) h2
      rw [Array.setIfInBounds_comm _ _ hji]
      exact h3.2
def lexTo (md : Region.Mode) (ops : Array Oper) : Nat → Nat → Array Bool → Bool
  | 0, _, _ => true
  | fuel + 1, k, listed => (Region.ready md ops listed).contains k && Region.free md ops listed k && lexTo md ops fuel (k + 1) (listed.setIfInBounds k true)
def marked : Nat → Nat → Array Bool → Array Bool
  | 0, _, listed => listed
  | fuel + 1, k, listed => marked fuel (k + 1) (listed.setIfInBounds k true)
theorem mix_lex {T : Array Bool → Act → Prop} {m : Nat} (hs : Region.noSelect ops = true) (hW : Waits md ops m) (hT : ∀ listed a, T listed a → ∀ j, j < m → listed.getD j true = true) :
    ∀ (L : List Oper) (k : Nat) (listed : Array Bool) (a : Act), k + L.length = m → (∀ j o, L[j]? = some o → ops[k + j]? = some o) →
    lexTo md ops L.length k listed = true → wpQuiet P ops C (T (marked L.length k listed)) L a → mix P md ops C T L.length listed a
  | [], _, _, _, _, _, _, h => h
  | o :: L, k, listed, a, hm, hl, hB, h => by
    have h0 : ops[k]? = some o := by simpa using hl 0 o rfl
    simp only [List.length_cons, lexTo, Bool.and_eq_true] at hB
    obtain ⟨⟨hr, hf⟩, hB'⟩ := hB
    have hst : qOp P ops C k (wpQuiet P ops C (T (marked L.length (k + 1) (listed.setIfInBounds k true))) L) a := by unfold qOp; simp only [h0]; exact h
    obtain ⟨v, hy, hK⟩ := yieldsIn_of_qOp h0 hst
    refine mix_first h0 (by simp at hm; omega) hW hT (Region.noSelect_spec hs) L.length listed a (Region.free_spec h0 hf) (by simpa using hr) hy ?_
    exact mix_lex hs hW hT L (k + 1) _ _ (by simp at hm; omega) (fun j o' ho' => by have := hl (j + 1) o' (by simpa using ho'); simpa [Nat.add_assoc, Nat.add_comm 1 j] using this) hB' hK
theorem any_of_mix {T : Array Bool → Act → Prop} {f2 : Nat} (hd : noDefer ops.toList = true) (hT : ∀ listed a, T listed a → ∀ w, C w → wpAnyIn (Fence.wide.inRound l) n P md ops Q f2 listed a w) :
    ∀ (fuel : Nat) (listed : Array Bool) (a : Act) (w : World), C w → mix P md ops C T fuel listed a → wpAnyIn (Fence.wide.inRound l) n P md ops Q (fuel + f2) listed a w
  | 0, listed, a, w, hw, h => by rw [Nat.zero_add]; exact hT _ _ h w hw
  | fuel + 1, listed, a, w, hw, h => by
    rw [Nat.add_right_comm]
    exact ⟨fun h0 => absurd h0 h.1, fun i hi => qop_in hd hw (fun a' w' hw' hh => any_of_mix hd hT fuel _ a' w' hw' hh) (h.2 i hi)⟩
/-- Those behind go in a row. -/
def rowB (md : Region.Mode) (ops : Array Oper) : Nat → Nat → Array Bool → Bool
  | 0, _, listed => (Region.ready md ops listed).isEmpty
  | fuel + 1, k, listed => (Region.ready md ops listed == [k]) && rowB md ops fuel (k + 1) (listed.setIfInBounds k true)
theorem any_of_row {F : Fence} : ∀ (L : List Oper) (k : Nat) (listed : Array Bool) (a : Act) (w : World), (∀ j o, L[j]? = some o → ops[k + j]? = some o) → rowB md ops L.length k listed = true →
    wpListIn F n P ops Q L a w → wpAnyIn F n P md ops Q L.length listed a w
  | [], k, listed, a, w, _, hB, h => ⟨by simpa [rowB] using hB, h⟩
  | o :: L, k, listed, a, w, hl, hB, h => by
    have h0 : ops[k]? = some o := by simpa using hl 0 o rfl
    simp only [List.length_cons, rowB, Bool.and_eq_true, beq_iff_eq] at hB
    have hK : ∀ a w, wpListIn F n P ops Q L a w → wpAnyIn F n P md ops Q L.length (listed.setIfInBounds k true) a w := fun a w hh =>
      any_of_row L (k + 1) _ a w (fun j o' ho' => by have := hl (j + 1) o' (by simpa using ho'); simpa [Nat.add_assoc, Nat.add_comm 1 j] using this) hB.2 hh
    refine ⟨fun h1 => (by rw [hB.1] at h1; cases h1), fun i hi => ?_⟩
    rw [hB.1] at hi
    obtain rfl : i = k := by simpa using hi
    unfold wpOpIn
    simp only [h0]
    unfold wpListIn at h
    split
    · rename_i hw
      rw [if_pos hw] at h
      exact Oper.wpIn_mono hK h
    · rename_i hw
      rw [if_neg hw] at h
      exact ⟨h.1, hK _ _ h.2⟩
theorem quiet_mono {K K' : Act → Prop} (h : ∀ a, K a → K' a) : ∀ (L : List Oper) (a : Act), wpQuiet P ops C K L a → wpQuiet P ops C K' L a
  | [], a, hh => h _ hh
  | o :: L, a, hh => by
    unfold wpQuiet at *
    split
    · rename_i hw
      rw [if_pos hw] at hh
      exact Oper.quiet_mono (fun a' h' => quiet_mono h L a' h') hh
    · rename_i hw
      rw [if_neg hw] at hh
      exact quiet_mono h L _ hh
/-- A drawn region in a round: those of L1 only read; those of L2 wait for them. -/
theorem region_split {id : Nat} {a : Act} {w : World} (L1 L2 : List Oper) (hm : P.follows .mixedOrders = true) (hops : ops = (L1 ++ L2).toArray) (hd : noDefer (L1 ++ L2) = true) (hs : Region.noSelect (L1 ++ L2).toArray = true)
    (hW : waitsB .any (L1 ++ L2).toArray L1.length = true) (hL : lexTo .any (L1 ++ L2).toArray L1.length 0 (Array.replicate (L1 ++ L2).length false) = true)
    (hMk : (List.range L1.length).all (fun j => (marked L1.length 0 (Array.replicate (L1 ++ L2).length false)).getD j true) = true)
    (hR : rowB .any (L1 ++ L2).toArray L2.length L1.length (marked L1.length 0 (Array.replicate (L1 ++ L2).length false)) = true)
    (h : wpQuiet P (L1 ++ L2).toArray (fun w' => ∃ p : Regrown, w' = Sort.grow (redrawn w p.d) p.os) (fun a' => ∀ w', (∃ p : Regrown, w' = Sort.grow (redrawn w p.d) p.os) → wpListIn (Fence.wide.inRound l) n P (L1 ++ L2).toArray Q L2 a' w') L1 a) :
    (Code.region id ops true).wpIn (Fence.wide.inRound l) n P Q a w := by
  subst hops
  refine wpIn_region_any hm ?_
  have hC : (fun w' => ∃ p : Regrown, w' = Sort.grow (redrawn w p.d) p.os) { w with drawn := w.drawn + 1 } := ⟨⟨w.drawn + 1, #[]⟩, by rw [Sort.grow_empty]; rfl⟩
  have hsz : (L1 ++ L2).toArray.size = L1.length + L2.length := by simp
  have hlen : (L1 ++ L2).length = L1.length + L2.length := by simp
  rw [hsz]
  have key := any_of_mix (P := P) (md := .any) (ops := (L1 ++ L2).toArray) (C := fun w' => ∃ p : Regrown, w' = Sort.grow (redrawn w p.d) p.os) (l := l) (n := n) (Q := Q)
    (T := fun listed a' => listed = marked L1.length 0 (Array.replicate (L1 ++ L2).length false) ∧ ∀ w', (∃ p : Regrown, w' = Sort.grow (redrawn w p.d) p.os) → wpListIn (Fence.wide.inRound l) n P (L1 ++ L2).toArray Q L2 a' w') (f2 := L2.length) (by simpa using hd)
    (fun listed a' hT w' hw' => by
      rw [hT.1]
      refine any_of_row L2 L1.length _ a' w' (fun j o ho => ?_) hR (hT.2 w' hw')
      rw [List.getElem?_toArray, List.getElem?_append_right (by omega), Nat.add_sub_cancel_left]
      exact ho)
    L1.length (Array.replicate (L1 ++ L2).length false) a _ hC ?_
  · rw [hlen] at key
    exact key
  · refine mix_lex (m := L1.length) hs (waits_of hW) (fun listed a' hT j hj => ?_) L1 0 _ a (by omega) (fun j o ho => ?_) hL ?_
    · rw [hT.1]
      exact List.all_eq_true.1 hMk j (List.mem_range.2 hj)
    · rw [Nat.zero_add, List.getElem?_toArray, List.getElem?_append_left (List.getElem?_eq_some_iff.1 ho).1]
      exact ho
    · exact quiet_mono (fun a' ha' => ⟨rfl, ha'⟩) _ _ h
def checkB (L : List Oper) (m : Nat) : Bool := noDefer L && (Region.noSelect L.toArray && (waitsB .any L.toArray m && (lexTo .any L.toArray m 0 (Array.replicate L.length false) && ((List.range m).all (fun j => (marked m 0 (Array.replicate L.length false)).getD j true) && (rowB .any L.toArray (L.length - m) m (marked m 0 (Array.replicate L.length false)) && decide (m ≤ L.length))))))
/-- The same, the region written out: its first m operations only read. -/
theorem region_at {id : Nat} {a : Act} {w : World} {L : List Oper} (m : Nat) (hm : P.follows .mixedOrders = true) (hB : checkB L m = true)
    (h : wpQuiet P L.toArray (fun w' => ∃ p : Regrown, w' = Sort.grow (redrawn w p.d) p.os) (fun a' => ∀ w', (∃ p : Regrown, w' = Sort.grow (redrawn w p.d) p.os) → wpListIn (Fence.wide.inRound l) n P L.toArray Q (L.drop m) a' w') (L.take m) a) :
    (Code.region id L.toArray true).wpIn (Fence.wide.inRound l) n P Q a w := by
  unfold checkB at hB
  simp only [Bool.and_eq_true, decide_eq_true_eq] at hB
  obtain ⟨b1, b2, b3, b4, b5, b6, b7⟩ := hB
  have e : L.take m ++ L.drop m = L := List.take_append_drop m L
  have e1 : (L.take m).length = m := by rw [List.length_take]; omega
  have e2 : (L.drop m).length = L.length - m := List.length_drop
  exact region_split (L.take m) (L.drop m) hm (by rw [e]) (by rw [e]; exact b1) (by rw [e]; exact b2) (by rw [e, e1]; exact b3) (by rw [e, e1]; exact b4) (by rw [e, e1]; exact b5) (by rw [e, e1, e2]; exact b6) (by rw [e]; exact h)
end
end Go.Proofs.Ytfbgekhkbbhggaa.Qsp
