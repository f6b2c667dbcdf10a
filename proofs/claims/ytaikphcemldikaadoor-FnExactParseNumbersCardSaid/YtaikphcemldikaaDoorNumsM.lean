/- What ParseNumbers answers, as a plain function: read between the commas, and cut at each comma with a space: the same. -/
import Derived.Test.YtaikphcemldikaaDoorSpl
import Derived.Test.YtaikphcemldikaaDoorListS
namespace Go.Proofs.YtaikphcemldikaaDoor.NumsM
open Split First Dec Spl ListS

def strip : By → Option By
  | 32 :: r => some r
  | _ => none
theorem strip_sp (r : By) : strip (32 :: r) = some r := rfl
theorem strip_nil : strip [] = none := rfl
theorem strip_other {x : UInt8} (r : By) (h : x ≠ 32) : strip (x :: r) = none := by
  unfold strip
  split
  · rename_i h2
    injection h2 with h2
    exact absurd h2 h
  · rfl
def rdTail : List By → Option (List Int)
  | [] => some []
  | p :: ps => (strip p).bind fun r => (pvL r).bind fun n => (rdTail ps).map (n :: ·)
def rdAll : List By → Option (List Int)
  | [] => some []
  | p :: ps => (pvL p).bind fun n => (rdTail ps).map (n :: ·)
def fin (o : Option (List Int)) : Option (List Int) := o.bind fun ns => if okB ns then some ns else none
def noneL : By := [110, 111, 110, 101]
def rv (s : By) : Option (List Int) := if s.length ≤ 4000 then (if s = noneL then some [] else fin (rdAll (spl 44 s))) else none

theorem bad_comma {a r : By} (ha : ∀ x ∈ a, x ≠ 44) (hr : ∀ r', r ≠ 32 :: r') : rdAll (spl 44 (a ++ 44 :: r)) = none := by
  rw [spl_app _ _ _ ha]
  have e : rdTail (spl 44 r) = none := by
    cases r with
    | nil => rfl
    | cons x r =>
      by_cases hx : x = 44
      · subst hx
        rw [spl_hit]
        rfl
      · rw [spl_miss _ hx]
        have : x ≠ 32 := fun e => hr r (by rw [e])
        unfold rdTail
        rw [strip_other _ this]
        rfl
  show (pvL a).bind (fun n => (rdTail (spl 44 r)).map (n :: ·)) = none
  rw [e]
  cases pvL a <;> rfl
theorem pvL_comma {l : By} (h : (44 : UInt8) ∈ l) : pvL l = none := by
  cases e : pvL l with
  | none => rfl
  | some n =>
    rcases pvL_in e 44 h with h2 | h2
    · exact absurd h2 (by decide)
    · exact absurd h2.1 (by decide)
theorem occ_here {s : By} {j : Nat} {r : By} (h : s.drop j = 44 :: 32 :: r) : Lib.occAt s [44, 32] j = true := by
  unfold Lib.occAt
  rw [h]
  simp [List.isPrefixOf]
theorem rd_cut (s : By) : rdAll (spl 44 s) = (pvL (Lib.cut s [44, 32]).1).bind fun n => if (Lib.cut s [44, 32]).2.2 = true then (rdAll (spl 44 (Lib.cut s [44, 32]).2.1)).map (n :: ·) else some [n] := by
  rcases Lib.index_spec s [44, 32] with ⟨h1, h2⟩ | ⟨i, h1, h2, h3, h4⟩
  · have hc : Lib.cut s [44, 32] = (s, [], false) := by unfold Lib.cut; rw [h1]; rfl
    rw [hc]
    by_cases hm : (44 : UInt8) ∈ s
    · obtain ⟨a, r, rfl, ha⟩ := List.eq_append_cons_of_mem hm
      rw [pvL_comma hm]
      refine bad_comma (fun x hx e => ha (e ▸ hx)) (fun r' hr => ?_)
      subst hr
      have := h2 a.length (by simp)
      rw [occ_here (r := r') (by simp)] at this
      cases this
    · rw [spl_clean 44 s (fun x hx e => hm (e ▸ hx))]
      simp [rdAll, rdTail]
  · have hc : Lib.cut s [44, 32] = (s.take i, s.drop (i + 2), true) := by
      unfold Lib.cut
      rw [h1, if_pos (by omega)]
      simp
    rw [hc]
    simp only [if_true]
    have hs : s = s.take i ++ 44 :: 32 :: s.drop (i + 2) := by
      unfold Lib.occAt at h3
      obtain ⟨t, ht⟩ := List.isPrefixOf_iff_prefix.1 h3
      have e2 : s.drop (i + 2) = t := by rw [← List.drop_drop, ← ht]; rfl
      rw [e2]
      conv => lhs; rw [← List.take_append_drop i s, ← ht]
      rfl
    by_cases hm : (44 : UInt8) ∈ s.take i
    · obtain ⟨a, r, hx, ha⟩ := List.eq_append_cons_of_mem hm
      rw [pvL_comma hm]
      have hs2 : s = a ++ 44 :: (r ++ 44 :: 32 :: s.drop (i + 2)) := by
        conv => lhs; rw [hs, hx]
        simp
      have hlen : a.length < i := by
        have := congrArg List.length hx
        simp at this
        omega
      have hb : ∀ r', (r ++ 44 :: 32 :: s.drop (i + 2)) ≠ 32 :: r' := by
        intro r' hr
        have := h4 a.length hlen
        rw [occ_here (r := r') (by rw [hs2, hr]; simp)] at this
        cases this
      have := bad_comma (fun x hx e => ha (e ▸ hx)) hb
      rw [← hs2] at this
      rw [this]
      rfl
    · have e := spl_app 44 (32 :: s.drop (i + 2)) (s.take i) (fun x hx e => hm (e ▸ hx))
      rw [← hs] at e
      rw [e]
      obtain ⟨p, ps, hp⟩ := spl_form 44 (s.drop (i + 2))
      rw [spl_miss _ (by decide), hp]
      rfl

/-- The program's loop: what it has read, and what is left. -/
def Inv (s0 s : By) (acc : List Int) : Prop := rdAll (spl 44 s0) = (rdAll (spl 44 s)).map (acc ++ ·) ∧ okL acc
theorem Inv.start (s : By) : Inv s s [] := ⟨by cases rdAll (spl 44 s) <;> simp, by unfold okL; simp⟩
theorem fin_bad {acc ns : List Int} (h : ¬ okL acc) : okB (acc ++ ns) = false := by
  apply okB_no
  intro h2
  apply h
  refine ⟨?_, fun z hz => h2.2 z (List.mem_append_left _ hz)⟩
  have := h2.1
  rw [List.length_append] at this
  omega
theorem Inv.fail {s0 s : By} {acc : List Int} (h : Inv s0 s acc) (hp : pvL (Lib.cut s [44, 32]).1 = none) : fin (rdAll (spl 44 s0)) = none := by
  rw [h.1, rd_cut, hp]
  rfl
theorem Inv.bad {s0 s : By} {acc : List Int} {n : Int} (h : Inv s0 s acc) (hp : pvL (Lib.cut s [44, 32]).1 = some n) (hb : ¬ okL (acc ++ [n])) : fin (rdAll (spl 44 s0)) = none := by
  rw [h.1, rd_cut, hp]
  simp only [Option.bind_some]
  split
  · cases rdAll (spl 44 (Lib.cut s [44, 32]).2.1) with
    | none => rfl
    | some t =>
      show (if okB (acc ++ (n :: t)) then some (acc ++ (n :: t)) else none) = none
      rw [show acc ++ (n :: t) = (acc ++ [n]) ++ t by simp, fin_bad hb]
      rfl
  · show (if okB (acc ++ [n]) then some (acc ++ [n]) else none) = none
    rw [okB_no hb]
    rfl
theorem Inv.last {s0 s : By} {acc : List Int} {n : Int} (h : Inv s0 s acc) (hp : pvL (Lib.cut s [44, 32]).1 = some n) (hb : okL (acc ++ [n])) (hf : (Lib.cut s [44, 32]).2.2 = false) : fin (rdAll (spl 44 s0)) = some (acc ++ [n]) := by
  rw [h.1, rd_cut, hp]
  simp only [Option.bind_some]
  rw [hf]
  show (if okB (acc ++ [n]) then some (acc ++ [n]) else none) = _
  rw [(okB_iff _).2 hb]
  rfl
theorem Inv.next {s0 s : By} {acc : List Int} {n : Int} (h : Inv s0 s acc) (hp : pvL (Lib.cut s [44, 32]).1 = some n) (hb : okL (acc ++ [n])) (hf : (Lib.cut s [44, 32]).2.2 = true) : Inv s0 (Lib.cut s [44, 32]).2.1 (acc ++ [n]) := by
  refine ⟨?_, hb⟩
  rw [h.1, rd_cut, hp]
  simp only [Option.bind_some]
  rw [if_pos hf]
  cases rdAll (spl 44 (Lib.cut s [44, 32]).2.1) <;> simp
theorem cut_less (s : By) (h : (Lib.cut s [44, 32]).2.2 = true) : (Lib.cut s [44, 32]).2.1.length + 2 ≤ s.length ∧ (Lib.cut s [44, 32]).1.length ≤ s.length := by
  unfold Lib.cut at *
  split
  · rename_i h0
    have := Lib.index_room s [44, 32] h0
    simp at this ⊢
    omega
  · rename_i h0
    rw [if_neg h0] at h
    cases h
theorem cut_first_le (s : By) : (Lib.cut s [44, 32]).1.length ≤ s.length := by
  unfold Lib.cut
  split
  · simp; omega
  · exact Nat.le_refl _

/-- The model's loop: the first k parts have been read. -/
theorem rdTail_snoc (ps : List By) (p : By) : rdTail (ps ++ [p]) = (rdTail ps).bind fun ns => (strip p).bind fun r => (pvL r).map fun n => ns ++ [n] := by
  induction ps with
  | nil =>
    simp only [List.nil_append, rdTail]
    cases strip p with
    | none => rfl
    | some r => cases h : pvL r <;> simp [h]
  | cons q qs ih =>
    simp only [List.cons_append, rdTail, ih]
    cases strip q with
    | none => rfl
    | some r =>
      simp only [Option.bind_some]
      cases pvL r with
      | none => rfl
      | some n =>
        simp only [Option.bind_some]
        cases rdTail qs with
        | none => rfl
        | some ns =>
          simp only [Option.bind_some, Option.map_some]
          cases strip p with
          | none => rfl
          | some r2 =>
            simp only [Option.bind_some]
            cases pvL r2 <;> rfl
theorem rdTail_stop (ps qs : List By) (h : rdTail ps = none) : rdTail (ps ++ qs) = none := by
  induction ps with
  | nil => cases h
  | cons p ps ih =>
    simp only [List.cons_append, rdTail] at h ⊢
    cases hs : strip p with
    | none => rfl
    | some r =>
      rw [hs] at h
      simp only [Option.bind_some] at h ⊢
      cases hv : pvL r with
      | none => rfl
      | some n =>
        rw [hv] at h
        simp only [Option.bind_some, Option.map_eq_none_iff] at h ⊢
        exact ih h
theorem rdAll_snoc {ps : List By} (p : By) (h : ps ≠ []) : rdAll (ps ++ [p]) = (rdAll ps).bind fun ns => (strip p).bind fun r => (pvL r).map fun n => ns ++ [n] := by
  cases ps with
  | nil => exact absurd rfl h
  | cons q qs =>
    simp only [List.cons_append, rdAll, rdTail_snoc]
    cases pvL q with
    | none => rfl
    | some n =>
      simp only [Option.bind_some]
      cases rdTail qs with
      | none => rfl
      | some ns =>
        simp only [Option.bind_some, Option.map_some]
        cases strip p with
        | none => rfl
        | some r2 =>
          simp only [Option.bind_some]
          cases pvL r2 <;> rfl
theorem rdAll_stop (ps qs : List By) (h : rdAll ps = none) : rdAll (ps ++ qs) = none := by
  cases ps with
  | nil => cases h
  | cons p ps =>
    simp only [List.cons_append, rdAll] at h ⊢
    cases hv : pvL p with
    | none => rfl
    | some n =>
      rw [hv] at h
      simp only [Option.bind_some, Option.map_eq_none_iff] at h ⊢
      exact rdTail_stop ps qs h
theorem up_none {ps : List By} {k : Nat} (h : rdAll (ps.take k) = none) : rdAll ps = none := by
  have := rdAll_stop (ps.take k) (ps.drop k) h
  rwa [List.take_append_drop] at this
theorem take_snoc {ps : List By} {k : Nat} {p : By} (h : ps[k]? = some p) : ps.take (k + 1) = ps.take k ++ [p] := by rw [List.take_add_one, h]; rfl
theorem up_first {ps : List By} {p : By} (h : ps[0]? = some p) : rdAll (ps.take 1) = (pvL p).map fun n => [n] := by
  rw [take_snoc h]
  simp only [List.take_zero, List.nil_append, rdAll, rdTail]
  cases pvL p <;> rfl
theorem up_next {ps : List By} {k : Nat} {p : By} {acc : List Int} (hk : 0 < k) (h : ps[k]? = some p) (ha : rdAll (ps.take k) = some acc) : rdAll (ps.take (k + 1)) = (strip p).bind fun r => (pvL r).map fun n => acc ++ [n] := by
  have hlen : k < ps.length := (List.getElem?_eq_some_iff.1 h).1
  rw [take_snoc h, rdAll_snoc p (by intro e; have := congrArg List.length e; rw [List.length_take, List.length_nil] at this; omega), ha]
  rfl
end Go.Proofs.YtaikphcemldikaaDoor.NumsM
