/- The shortest chain: mathematics, and the values of the map of a search. -/
import Derived.Test.YtcbfnhghhbgdkaaExactResolvesRecordSaidPartap
import Derived.Test.YtcbfnhghhbgdkaaExactResolvesRecordSaidPartac
import Derived.Test.YtcbfnhghhbgdkaaExactResolvesRecordSaidPartab
namespace Go.Proofs.Ytcbfnhghhbgdkaa.ScM
open Go.Maps Pairs Rec Chain Find2 GoodM Queue Lows From BfsM
theorem rle_anti {t u : List Int} (h : rle t u) (k : rle u t) : t = u := by
  rcases h with h | h
  · exact h
  · exact absurd (rle_rlt k h) (rlt_irrefl _)
theorem rch_reach {m : Ps} {a : Int} {d : List Int} (h : RCh m a d) : Chain.Reach m a (hd d) := by
  induction h with
  | one e => exact .one e
  | more _ e ih => exact .more ih e
theorem reach_rch {m : Ps} {a b : Int} (h : Chain.Reach m a b) : ∃ d, RCh m a d ∧ hd d = b := by
  induction h with
  | one e => exact ⟨_, .one e, rfl⟩
  | more _ e ih =>
    obtain ⟨d, h1, h2⟩ := ih
    cases h1 with
    | one e1 =>
      have h2' : _ = _ := h2
      subst h2'
      exact ⟨_, .more (.one e1) e, rfl⟩
    | more k e1 =>
      have h2' : _ = _ := h2
      subst h2'
      exact ⟨_, .more (.more k e1) e, rfl⟩
/-- The first one of the shortest chains, told from its end. -/
def Best (m : Ps) (a b : Int) (r : List Int) : Prop := RCh m a r ∧ hd r = b ∧ ∀ d, RCh m a d → hd d = b → rle r d
theorem best_uniq {m : Ps} {a b : Int} {r q : List Int} (h : Best m a b r) (k : Best m a b q) : r = q := rle_anti (h.2.2 q k.1 k.2.1) (k.2.2 r h.1 h.2.1)
open Classical in
noncomputable def chainP (m : Ps) (a b : Int) : List Int := if h : ∃ r, Best m a b r then (Classical.choose h).reverse else []
theorem chain_yes {m : Ps} {a b : Int} {r : List Int} (h : Best m a b r) : chainP m a b = r.reverse := by
  have hex : ∃ r, Best m a b r := ⟨r, h⟩
  unfold chainP
  rw [dif_pos hex, best_uniq (Classical.choose_spec hex) h]
theorem chain_no {m : Ps} {a b : Int} (h : later m a b = false) : chainP m a b = [] := by
  unfold chainP
  rw [dif_neg]
  rintro ⟨r, h1, h2, _⟩
  have := later_iff.2 (h2 ▸ rch_reach h1)
  rw [h] at this
  cases this
theorem Fin.isBest {m : Ps} {a : Int} {F : List (List Int)} (h : Fin m a F) {r : List Int} (hr : r ∈ F) : Best m a (hd r) r := by
  refine ⟨h.chain r.length r (Nat.le_refl _) hr, rfl, fun d hd' he => ?_⟩
  obtain ⟨q, hq, h1, h2⟩ := h.best hd'
  obtain rfl := h.uniq hq hr (by rw [h1, he])
  exact h2
theorem fold_other (x : Int) : ∀ (pv : Ps) (D : Dat), x ∉ keys pv → (pv.foldl (fun D p => D.put (.int .i64 p.1) (.lit (.int .i64 p.2))) D).atKey (.int .i64 x) (.lit (.int .i64 0)) = D.atKey (.int .i64 x) (.lit (.int .i64 0))
  | [], D, _ => rfl
  | p :: pv, D, h => by
    have h1 : p.1 ≠ x := fun e => h (by unfold keys; rw [← e]; simp)
    have h2 : x ∉ keys pv := fun k => h (by unfold keys at k ⊢; simp only [List.map_cons, List.mem_cons]; exact .inr k)
    rw [List.foldl_cons, fold_other x pv _ h2, atKey_put_other (by intro e; injection e with _ e; exact h1 e.symm)]
theorem fold_at {x h : Int} : ∀ (pv : Ps) (D : Dat), IsMap D → (keys pv).Nodup → (x, h) ∈ pv → (pv.foldl (fun D p => D.put (.int .i64 p.1) (.lit (.int .i64 p.2))) D).atKey (.int .i64 x) (.lit (.int .i64 0)) = .lit (.int .i64 h)
  | [], _, _, _, hm => absurd hm (by simp)
  | p :: pv, D, hD, hn, hm => by
    have hn' : p.1 ∉ keys pv ∧ (keys pv).Nodup := by unfold keys at hn ⊢; rw [List.map_cons, List.nodup_cons] at hn; exact hn
    rw [List.foldl_cons]
    rcases List.mem_cons.1 hm with e | hm
    · subst e
      rw [fold_other _ pv _ hn'.1, atKey_put_same hD (show WideAt.IsKeyLit (.int .i64 x) from trivial)]
    · exact fold_at pv _ (hD.put _ _) hn'.2 hm
theorem at_mapOf {pv : Ps} {x h : Int} (hn : (keys pv).Nodup) (hm : (x, h) ∈ pv) : (mapOf pv).atKey (.int .i64 x) (.lit (.int .i64 0)) = .lit (.int .i64 h) := fold_at pv _ ⟨[], rfl⟩ hn hm
theorem keys_entry (F : List (List Int)) : keys (F.map entry) = F.map hd := by unfold keys; rw [List.map_map]; rfl
end Go.Proofs.Ytcbfnhghhbgdkaa.ScM
/- The Lower contexts of a context ascend. -/
namespace Go.Proofs.Ytcbfnhghhbgdkaa.AscM
open Pairs Find2 GoodM RelM Chain
theorem okR_before {l m : List (Int × Int)} {k : Nat} {x y : Int × Int} (h : okR l m (k + 1) = true) (hx : m[k]? = some x) (hy : m[k + 1]? = some y) : before x y = true := by
  unfold okR at h
  rw [hy, Nat.add_sub_cancel, hx] at h
  rw [before_iff]
  simp at h
  omega
theorem pairwise_before {l m : List (Int × Int)} (h : good l m = true) : m.Pairwise (fun x y => before x y = true) := by
  rw [List.pairwise_iff_getElem]
  intro i j hi hj hij
  have hR : ∀ j, j < m.length → okR l m j = true := by
    unfold good at h
    simp only [Bool.and_eq_true, List.all_eq_true] at h
    exact fun j hj => h.2 j (List.mem_range.2 hj)
  have step : ∀ (d i : Nat) (x y : Int × Int), m[i]? = some x → m[i + d + 1]? = some y → before x y = true := by
    intro d
    induction d with
    | zero =>
      intro i x y hx hy
      exact okR_before (hR (i + 1) (List.getElem?_eq_some_iff.1 hy).1) hx hy
    | succ d ih =>
      intro i x y hx hy
      have hl : i + d + 1 < m.length := by have := (List.getElem?_eq_some_iff.1 hy).1; omega
      have hz : m[i + d + 1]? = some m[i + d + 1] := List.getElem?_eq_getElem hl
      exact before_trans (ih i x _ hx hz) (okR_before (hR (i + d + 1 + 1) (List.getElem?_eq_some_iff.1 hy).1) hz hy)
  obtain ⟨d, rfl⟩ : ∃ d, j = i + d + 1 := ⟨j - i - 1, by omega⟩
  exact step d i _ _ (List.getElem?_eq_getElem hi) (List.getElem?_eq_getElem hj)
theorem lows_sorted {l m : List (Int × Int)} (h : good l m = true) (a : Int) : (lows m a).Pairwise (· < ·) := by
  unfold lows
  rw [List.pairwise_map]
  have h1 := (pairwise_before h).filter (fun p => p.1 == a)
  refine List.Pairwise.imp_of_mem ?_ h1
  intro x y hx hy hb
  have e1 : x.1 = a := by simpa using (List.mem_filter.1 hx).2
  have e2 : y.1 = a := by simpa using (List.mem_filter.1 hy).2
  rw [before_iff] at hb
  omega
end Go.Proofs.Ytcbfnhghhbgdkaa.AscM
