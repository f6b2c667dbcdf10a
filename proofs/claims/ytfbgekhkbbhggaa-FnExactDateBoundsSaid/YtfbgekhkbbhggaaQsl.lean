/- A region that draws its order, in a round: its first m operations only read, in a class S of worlds; those behind go in a row and keep to S, and may come up early; the last one waits for all and needn't keep to S. -/
import Derived.Test.YtfbgekhkbbhggaaQsp
import Derived.OrdersHeld
namespace Go.Proofs.Ytfbgekhkbbhggaa.Qsl
open Go Go.RowKit Qsp
set_option linter.unusedVariables false
section
variable {P : Program} {ops : Array Oper} {md : Region.Mode} {S : World → Prop} {l n last : Nat} {Q : Exit → Act → World → Prop}
/-- An operation that only reads, or reckons. -/
def pureB (o : Oper) : Bool := match o.op with
  | .move _ => true
  | .load _ _ => true
  | .fieldAddr _ _ _ => true
  | .indexAddr _ _ _ => true
  | .binOp _ _ _ _ _ => true
  | .unOp _ _ _ => true
  | _ => false
theorem then_value {s : Sem Value} {w w' : World} {r : Next} (h : (s >>= fun v => pure (Next.value v)).run P w = .ok r w') : ∃ v, r = .value v := by
  rw [Sem.run_bind] at h
  cases hs : s.run P w with
  | ok v w1 =>
    rw [hs] at h
    simp [Result.andThen, go_sem] at h
    exact ⟨v, h.1.symm⟩
  | halt x w1 =>
    rw [hs] at h
    simp [Result.andThen] at h
theorem pure_run {o : Oper} (h : pureB o = true) {ρ : Operand → Value} {w w' : World} {r : Next} (hr : (execOp ρ o).run P w = .ok r w') : ∃ v, r = .value v := by
  unfold pureB at h
  unfold execOp at hr
  cases ho : o.op <;> rw [ho] at h hr <;> first | (cases h; done) | skip
  all_goals first | exact then_value hr | (simp [go_sem] at hr; exact ⟨_, hr.1.symm⟩)
theorem put_in {j : Nat} {oi oj : Oper} {v : Value} (hj : ops[j]? = some oj) (hd : ∀ c, oj.op ≠ .defer c) (hap : oi.apart ops oj = true)
    (hsi : ∀ cs b, oi.op ≠ .select cs b) (hsj : ∀ cs b, oj.op ≠ .select cs b)
    (hQ : ∀ c a w, Q (.panic c) (a.put oi.dst v) w → Q (.panic c) a w) {K : Act → World → Prop} {a : Act} {w : World}
    (hy : YieldsIf P ops S oi v a) (h : wpOpIn (Fence.wide.inRound l) n P ops Q j K (a.put oi.dst v) w) :
    wpOpIn (Fence.wide.inRound l) n P ops Q j (fun a' w' => YieldsIf P ops S oi v a' ∧ K (a'.put oi.dst v) w') a w := by
  obtain ⟨h1, h2, h3⟩ := Oper.apart_spec hap
  have keep : ∀ (a : Act), YieldsIf P ops S oi v a → ∀ u, YieldsIf P ops S oi v (a.put oj.dst u) := fun a hy u =>
    hy.of_same (execOp_put oi hsi a oj.dst u h3) (wanted_put oi a oj.dst u h3)
  have keepD : ∀ d, YieldsIf P ops S oi v { a with defers := d :: a.defers } := fun d => hy.of_same rfl rfl
  unfold wpOpIn at *
  simp only [hj] at *
  rw [wanted_put oj a oi.dst v h1] at h
  split
  · rename_i hw
    simp only [hw, if_true] at h
    refine ⟨fun _ _ => trivial, ?_⟩
    have h := h.2
    rw [Oper.semAt_eq _ _ _ hd] at h ⊢
    rw [execOp_put oj hsj a oi.dst v h1] at h
    generalize (execOp a.eval oj).run P w = r at *
    cases r with
    | ok x w' =>
      cases x <;> simp only [Oper.uponIn] at h ⊢
      case value u => exact ⟨keep a hy u, by rw [← Act.put_comm a v u h2]; exact h⟩
      case skip => exact ⟨keep a hy _, by rw [← Act.put_comm a v undef h2]; exact h⟩
      case defer d =>
        refine ⟨keep _ (keepD d) _, ?_⟩
        rw [← Act.put_comm _ v undef h2, ← Act.put_defers]
        exact h
      case enter f args =>
        refine ⟨h.1, CallsIn.mono h.2 fun e w'' he => ?_⟩
        cases e with
        | returned u => exact ⟨keep a hy u, by rw [← Act.put_comm a v u h2]; exact he⟩
        | panicked c => exact hQ _ _ _ he
        | outgrown => exact he
      case row row args => exact ⟨h.1, RowsIn.mono h.2 fun u w'' he => ⟨keep a hy u, by rw [← Act.put_comm a v u h2]; exact he⟩⟩
      case round l' f t as' bo =>
        refine ⟨h.1, RoundIn.mono h.2 fun e w'' he => ?_⟩
        cases e with
        | returned u => exact ⟨keep a hy u, by rw [← Act.put_comm a v u h2]; exact he⟩
        | panicked c => exact hQ _ _ _ he
        | outgrown => exact he
    | halt x w' =>
      cases x <;> simp only [Oper.uponIn] at h ⊢
      case panic u => exact hQ _ _ _ h
  · rename_i hw
    simp only [hw] at h
    exact ⟨fun _ _ => trivial, keep a hy _, by rw [← Act.put_comm a v undef h2]; exact h.2⟩
def anyH (P : Program) (md : Region.Mode) (ops : Array Oper) (Q : Exit → Act → World → Prop) (S : World → Prop) (l n last : Nat) : Nat → Array Bool → Act → World → Prop
  | 0, listed, a, w => Region.ready md ops listed = [] ∧ Q .normal a w
  | fuel + 1, listed, a, w =>
    (Region.ready md ops listed = [] → Q .normal a w) ∧
    ∀ i ∈ Region.ready md ops listed, wpOpIn (Fence.wide.inRound l) n P ops Q i (fun a' w' => (i ≠ last → S w') ∧ anyH P md ops Q S l n last fuel (listed.setIfInBounds i true) a' w') a w
theorem any_of_h : ∀ (fuel : Nat) (listed : Array Bool) (a : Act) (w : World), anyH P md ops Q S l n last fuel listed a w → wpAnyIn (Fence.wide.inRound l) n P md ops Q fuel listed a w
  | 0, _, _, _, h => h
  | fuel + 1, _, _, _, h => ⟨h.1, fun i hi => wpOpIn_mono (fun a' w' h' => any_of_h fuel _ a' w' h'.2) (h.2 i hi)⟩
theorem yields_in {i : Nat} {o : Oper} {v : Value} {a : Act} (hi : ops[i]? = some o) (hd : ∀ c, o.op ≠ .defer c) (hy : YieldsIf P ops S o v a) {K : Act → World → Prop} {w : World} (hS : S w) (h : K (a.put o.dst v) w) : wpOpIn (Fence.wide.inRound l) n P ops Q i K a w := by
  unfold wpOpIn
  simp only [hi]
  rcases hy with ⟨hw, hv⟩ | ⟨hw, rfl⟩
  · simp only [hw, if_true]
    refine ⟨fun _ _ => trivial, ?_⟩
    rw [Oper.semAt_eq _ _ _ hd, hv w hS]
    exact h
  · simp only [hw, Bool.false_eq_true, if_false]
    exact ⟨fun _ _ => trivial, h⟩
theorem first_in {i : Nat} {oi : Oper} {v : Value} (hi : ops[i]? = some oi) (hnd : noDefer ops.toList = true) (hsel : ∀ (j : Nat) (o : Oper) cs b, ops[j]? = some o → o.op ≠ .select cs b)
    (hQ : ∀ c a w, Q (.panic c) (a.put oi.dst v) w → Q (.panic c) a w) (hwt : ∀ o, ops[last]? = some o → ∃ e ∈ o.after, Region.binds md e = true ∧ e.on = i) :
    ∀ (fuel : Nat) (listed : Array Bool) (a : Act) (w : World),
      (∀ j oj, ops[j]? = some oj → j ≠ i → listed.getD j true = false → (∀ e ∈ oj.after, Region.binds md e = true → e.on ≠ i) → oi.apart ops oj = true) →
      i ∈ Region.ready md ops listed → YieldsIf P ops S oi v a → S w →
      anyH P md ops Q S l n last fuel (listed.setIfInBounds i true) (a.put oi.dst v) w → anyH P md ops Q S l n last (fuel + 1) listed a w := by
  have ndAt : ∀ {j : Nat} {o : Oper}, ops[j]? = some o → ∀ c, o.op ≠ .defer c := fun hj => noDefer_at hnd (by simpa using Array.mem_of_getElem? hj)
  intro fuel
  induction fuel with
  | zero =>
    intro listed a w _ hr hy hS H
    refine ⟨fun h => (by rw [h] at hr; cases hr), fun j hj => ?_⟩
    by_cases hji : j = i
    · subst hji; exact yields_in hi (ndAt hi) hy hS ⟨fun _ => hS, H⟩
    · have := ready_mono hj hji
      rw [H.1] at this
      cases this
  | succ fuel ih =>
    intro listed a w hfree hr hy hS H
    refine ⟨fun h => (by rw [h] at hr; cases hr), fun j hj => ?_⟩
    by_cases hji : j = i
    · subst hji; exact yields_in hi (ndAt hi) hy hS ⟨fun _ => hS, H⟩
    · have h1 := H.2 j (ready_mono hj hji)
      obtain ⟨hjun, oj, hoj, hall⟩ := mem_ready.1 hj
      have hnot : ∀ e ∈ oj.after, Region.binds md e = true → e.on ≠ i := fun e he hb heq => by
        have h1 := hall e he hb
        have h0 := (mem_ready.1 hr).1
        rw [heq] at h1
        rcases Nat.lt_or_ge i listed.size with h' | h'
        · simp [h'] at h0 h1; rw [h0] at h1; cases h1
        · simp [Array.getElem?_eq_none h'] at h1
      have h2 := put_in hoj (ndAt hoj) (hfree j oj hoj hji hjun hnot) (fun cs b => hsel i oi cs b hi) (fun cs b => hsel j oj cs b hoj) hQ hy h1
      have hfree' : ∀ k ok, ops[k]? = some ok → k ≠ i → (listed.setIfInBounds j true).getD k true = false →
          (∀ e ∈ ok.after, Region.binds md e = true → e.on ≠ i) → oi.apart ops ok = true := fun k ok hk hki hun hno => by
        refine hfree k ok hk hki ?_ hno
        by_cases hjk : j = k
        · subst hjk; exact hjun
        · rw [getD_set_ne true hjk] at hun; exact hun
      have hjl : j ≠ last := fun e => by
        subst e
        obtain ⟨e, he, hb, he2⟩ := hwt oj hoj
        exact hnot e he hb he2
      refine wpOpIn_mono (fun a' w' h3 => ⟨fun _ => h3.2.1 hjl, ih (listed.setIfInBounds j true) a' w' hfree' (ready_mono hr (Ne.symm hji)) h3.1 (h3.2.1 hjl) ?_⟩) h2
      rw [Array.setIfInBounds_comm _ _ hji]
      exact h3.2.2
theorem yieldsIf_of {i : Nat} {o : Oper} {a : Act} {K : Act → Prop} (hi : ops[i]? = some o) (hp : pureB o = true) (hne : ∃ w, S w) (h : qOp P ops S i K a) : ∃ v, YieldsIf P ops S o v a ∧ K (a.put o.dst v) := by
  obtain ⟨v, hy, hK⟩ := yieldsIn_of_qOp hi h
  refine ⟨v, ?_, hK⟩
  rcases hy with ⟨hw, hv⟩ | ⟨hw, rfl⟩
  · refine .inl ⟨hw, fun w hS => ?_⟩
    have h3 := hv w hS
    unfold Oper.quietAt at h3
    cases hr : (execOp a.eval o).run P w with
    | ok r w' =>
      obtain ⟨u, rfl⟩ := pure_run hp hr
      rw [hr] at h3
      simp only [Oper.quietUpon] at h3
      rw [h3.1, h3.2]
    | halt x w' =>
      rw [hr] at h3
      simp only [Oper.quietUpon] at h3
  · exact .inr ⟨hw, rfl⟩
theorem lex_in (hs : Region.noSelect ops = true) (hnd : noDefer ops.toList = true) (hQ : ∀ c a a' w, Q (.panic c) a' w → Q (.panic c) a w) (hne : ∃ w, S w) (hwa : ∀ i, i < last → ∀ o, ops[last]? = some o → ∃ e ∈ o.after, Region.binds md e = true ∧ e.on = i) {T : Nat} {w0 : World} (hS : S w0) :
    ∀ (L : List Oper) (k : Nat) (listed : Array Bool) (a : Act), k + L.length ≤ last → (∀ j o, L[j]? = some o → ops[k + j]? = some o) → L.all pureB = true → lexTo md ops L.length k listed = true →
    wpQuiet P ops S (fun a' => anyH P md ops Q S l n last T (marked L.length k listed) a' w0) L a → anyH P md ops Q S l n last (L.length + T) listed a w0
  | [], k, listed, a, _, _, _, _, h => by rw [List.length_nil, Nat.zero_add]; exact h
  | o :: L, k, listed, a, hkl, hl, hp, hB, h => by
    rw [List.length_cons] at hkl
    have h0 : ops[k]? = some o := by simpa using hl 0 o rfl
    simp only [List.length_cons, lexTo, Bool.and_eq_true] at hB
    obtain ⟨⟨hr, hf⟩, hB'⟩ := hB
    simp only [List.all_cons, Bool.and_eq_true] at hp
    have hst : qOp P ops S k (wpQuiet P ops S (fun a' => anyH P md ops Q S l n last T (marked L.length (k + 1) (listed.setIfInBounds k true)) a' w0) L) a := by unfold qOp; simp only [h0]; exact h
    obtain ⟨v, hy, hK⟩ := yieldsIf_of h0 hp.1 hne hst
    rw [List.length_cons, Nat.add_right_comm]
    exact first_in h0 hnd (Region.noSelect_spec hs) (fun c a w h => hQ c a _ w h) (hwa k (by omega)) (L.length + T) listed a w0 (Region.free_spec h0 hf) (by simpa using hr) hy hS
      (lex_in hs hnd hQ hne hwa hS L (k + 1) _ _ (by omega) (fun j o' ho' => by have := hl (j + 1) o' (by simpa using ho'); simpa [Nat.add_assoc, Nat.add_comm 1 j] using this) hp.2 hB' hK)
/-- Those behind, one after another, S kept. -/
def rowH (P : Program) (ops : Array Oper) (Q : Exit → Act → World → Prop) (S : World → Prop) (l n : Nat) : List Oper → Act → World → Prop
  | [], a, w => Q .normal a w
  | o :: rest, a, w => if Region.wanted o (yielded ops a.tmps) then o.wpIn (Fence.wide.inRound l) n P a w (fun a' w' => (rest ≠ [] → S w') ∧ rowH P ops Q S l n rest a' w') Q else (rest ≠ [] → S w) ∧ rowH P ops Q S l n rest (a.put o.dst undef) w
theorem rowH_nil {a : Act} {w : World} (h : Q .normal a w) : rowH P ops Q S l n [] a w := h
def stepPost (Q : Exit → Act → World → Prop) (K : Act → World → Prop) : Exit → Act → World → Prop
  | .normal, a, w => K a w
  | e, a, w => Q e a w
theorem post_step {F : Fence} {o : Oper} {a : Act} {w : World} {next K : Act → World → Prop} (h : o.wpIn F n P a w next (stepPost Q K)) : o.wpIn F n P a w next Q := by
  refine ⟨h.1, ?_⟩
  have h2 := h.2
  generalize (o.semAt F.round a.eval).run P w = r at *
  cases r with
  | ok x w' =>
    cases x <;> simp only [Oper.uponIn] at h2 ⊢ <;> first | exact h2 | skip
  | halt x w' => cases x <;> simp only [Oper.uponIn] at h2 ⊢ <;> exact h2
/-- One operation of the row, by the walk. -/
theorem rowH_step {o : Oper} {rest : List Oper} {a : Act} {w : World} (hw : Region.wanted o (yielded ops a.tmps) = true)
    (h : wpListIn (Fence.wide.inRound l) n P ops (stepPost Q (fun a' w' => (rest ≠ [] → S w') ∧ rowH P ops Q S l n rest a' w')) [o] a w) : rowH P ops Q S l n (o :: rest) a w := by
  unfold rowH
  rw [if_pos hw]
  unfold wpListIn at h
  rw [if_pos hw] at h
  exact Oper.wpIn_mono (fun _ _ hh => hh) (post_step h)
theorem any_of_rowH : ∀ (L : List Oper) (k : Nat) (listed : Array Bool) (a : Act) (w : World), k + L.length = last + 1 → (∀ j o, L[j]? = some o → ops[k + j]? = some o) → rowB md ops L.length k listed = true →
    rowH P ops Q S l n L a w → anyH P md ops Q S l n last L.length listed a w
  | [], k, listed, a, w, _, _, hB, h => ⟨by simpa [rowB] using hB, h⟩
  | o :: L, k, listed, a, w, hkl, hl, hB, h => by
    rw [List.length_cons] at hkl
    have hne : k ≠ last → L ≠ [] := fun e q => by
      subst q
      simp at hkl
      omega
    have h0 : ops[k]? = some o := by simpa using hl 0 o rfl
    simp only [List.length_cons, rowB, Bool.and_eq_true, beq_iff_eq] at hB
    have hK : ∀ a w, rowH P ops Q S l n L a w → anyH P md ops Q S l n last L.length (listed.setIfInBounds k true) a w := fun a w hh =>
      any_of_rowH L (k + 1) _ a w (by omega) (fun j o' ho' => by have := hl (j + 1) o' (by simpa using ho'); simpa [Nat.add_assoc, Nat.add_comm 1 j] using this) hB.2 hh
    refine ⟨fun h1 => (by rw [hB.1] at h1; cases h1), fun i hi => ?_⟩
    rw [hB.1] at hi
    obtain rfl : i = k := by simpa using hi
    unfold wpOpIn
    simp only [h0]
    unfold rowH at h
    split
    · rename_i hw
      rw [if_pos hw] at h
      exact Oper.wpIn_mono (fun a w hh => ⟨fun e => hh.1 (hne e), hK _ _ hh.2⟩) h
    · rename_i hw
      rw [if_neg hw] at h
      exact ⟨fun _ _ => trivial, fun e => h.1 (hne e), hK _ _ h.2⟩
/-- The last one waits for all. -/
def lastB (L : List Oper) : Bool := match L[L.length - 1]? with
  | some o => (List.range (L.length - 1)).all fun i => o.after.toList.any fun e => Region.binds .any e && e.on == i
  | none => false
theorem lastB_spec {L : List Oper} (h : lastB L = true) : ∀ i, i < L.length - 1 → ∀ o, L.toArray[L.length - 1]? = some o → ∃ e ∈ o.after, Region.binds .any e = true ∧ e.on = i := by
  intro i hi o ho
  rw [List.getElem?_toArray] at ho
  unfold lastB at h
  rw [ho] at h
  have h1 := List.all_eq_true.1 h i (List.mem_range.2 hi)
  obtain ⟨e, he, h2⟩ := List.any_eq_true.1 h1
  rw [Bool.and_eq_true, beq_iff_eq] at h2
  exact ⟨e, by simpa using he, h2.1, h2.2⟩
def checkH (L : List Oper) (m : Nat) : Bool := noDefer L && (Region.noSelect L.toArray && (lexTo .any L.toArray m 0 (Array.replicate L.length false) && ((L.take m).all pureB && (rowB .any L.toArray (L.length - m) m (marked m 0 (Array.replicate L.length false)) && (decide (m < L.length) && lastB L)))))
/-- The region written out: its first m operations only read, in every world of S; the others keep to S. -/
theorem region_held {id : Nat} {a : Act} {w : World} {L : List Oper} (m : Nat) (S : World → Prop) (hm : P.follows .mixedOrders = true) (hB : checkH L m = true) (hQ : ∀ c a a' w, Q (.panic c) a' w → Q (.panic c) a w) (hS : S { w with drawn := w.drawn + 1 })
    (h : wpQuiet P L.toArray S (fun a' => rowH P L.toArray Q S l n (L.drop m) a' { w with drawn := w.drawn + 1 }) (L.take m) a) :
    (Code.region id L.toArray true).wpIn (Fence.wide.inRound l) n P Q a w := by
  unfold checkH at hB
  simp only [Bool.and_eq_true, decide_eq_true_eq] at hB
  obtain ⟨b1, b2, b3, b4, b5, b6, b7⟩ := hB
  have e1 : (L.take m).length = m := by rw [List.length_take]; omega
  have e2 : (L.drop m).length = L.length - m := List.length_drop
  have hsz : L.toArray.size = m + (L.length - m) := by simp; omega
  refine wpIn_region_any hm (any_of_h (S := S) (last := L.length - 1) _ _ _ _ ?_)
  rw [hsz]
  have key := lex_in (P := P) (md := .any) (ops := L.toArray) (S := S) (l := l) (n := n) (Q := Q) (last := L.length - 1) (T := L.length - m) b2 (by simpa using b1) hQ ⟨_, hS⟩ (lastB_spec b7) (w0 := { w with drawn := w.drawn + 1 }) hS (L.take m) 0 (Array.replicate L.length false) a (by rw [e1]; omega) (fun j o ho => ?_) b4 (by rw [e1]; exact b3) ?_
  · rw [e1] at key
    have e3 : m + (L.length - m) = L.length := by omega
    rw [e3] at key ⊢
    exact key
  · rw [Nat.zero_add, List.getElem?_toArray]
    rw [List.getElem?_take] at ho
    split at ho
    · exact ho
    · cases ho
  · rw [e1]
    refine quiet_mono (fun a' ha' => ?_) _ _ h
    rw [← e2]
    refine any_of_rowH (L.drop m) m _ a' _ (by rw [e2]; omega) (fun j o ho => ?_) (by rw [e2]; exact b5) ha'
    rw [List.getElem?_toArray, ← List.getElem?_drop]
    exact ho
end
end Go.Proofs.Ytfbgekhkbbhggaa.Qsl
