/- Depths of contexts, by a search along an order and by rounds over the relations: mathematics. -/
import Derived.Test.YtcbfnhghhbgdkaaExactResolvesRecordSaidPartap
import Derived.Test.YtcbfnhghhbgdkaaExactResolvesRecordSaidPartaj
namespace Go.Proofs.Ytcbfnhghhbgdkaa.DepM
open Pairs Rec Chain Find2 GoodM OrdM
structure Topo (rel : Int → Int → Bool) (K : List Int) (D : Int → Bool) (O : List Int) : Prop where
  sub : ∀ x ∈ O, x ∈ K ∧ D x = false
  all : ∀ x ∈ K, D x = false → x ∈ O
  nd : O.Nodup
  bef : ∀ pre x post, O = pre ++ x :: post → ∀ u ∈ K, rel u x = true → D u = true ∨ u ∈ pre
  len : O.length = (lft K D).length
theorem topo {rel : Int → Int → Bool} {K : List Int} (htr : ∀ a b c, rel a b = true → rel b c = true → rel a c = true) (hir : ∀ a ∈ K, rel a a = false) (hK : K.Nodup) :
    ∀ (f : Nat) (D : Int → Bool), (lft K D).length = f → Topo rel K D (ordD rel K f D)
  | 0, D, h => by
    have h0 := List.length_eq_zero_iff.1 h
    refine ⟨fun x hx => absurd hx (List.not_mem_nil), fun x hx hd => ?_, List.nodup_nil, fun pre x post e => ?_, h.symm⟩
    · have : x ∈ lft K D := List.mem_filter.2 ⟨hx, by simp [hd]⟩
      rw [h0] at this
      exact absurd this List.not_mem_nil
    · have e' : ([] : List Int) = pre ++ x :: post := e
      cases pre <;> cases e'
  | f + 1, D, h => by
    obtain ⟨x, hx⟩ : ∃ x, x ∈ lft K D := by
      cases e : lft K D with
      | nil => rw [e] at h; cases h
      | cons a t => exact ⟨a, List.mem_cons_self ..⟩
    obtain ⟨hxK, hxD⟩ := List.mem_filter.1 hx
    obtain ⟨n, hn⟩ := find_some htr hir _ x hxK (by simpa using hxD) (Nat.le_refl _)
    obtain ⟨hnK, hnD, hpre⟩ := find_in hn
    rw [ordD_next hn]
    have hnl : n ∈ lft K D := List.mem_filter.2 ⟨hnK, by simp [hnD]⟩
    obtain ⟨i, hi⟩ := List.mem_iff_getElem?.1 hnl
    have hlen := len_pred hK hi h
    have ih := topo htr hir hK f _ hlen
    refine ⟨fun y hy => ?_, fun y hy hd => ?_, ?_, fun pre y post e u hu hr => ?_, ?_⟩
    · rcases List.mem_cons.1 hy with rfl | hy
      · exact ⟨hnK, hnD⟩
      · obtain ⟨h1, h2⟩ := ih.sub y hy
        simp only [Bool.or_eq_false_iff] at h2
        exact ⟨h1, h2.1⟩
    · by_cases hyn : y = n
      · rw [hyn]
        exact List.mem_cons_self ..
      · exact List.mem_cons_of_mem _ (ih.all y hy (by simp [hd, hyn]))
    · rw [List.nodup_cons]
      refine ⟨fun hm => ?_, ih.nd⟩
      have := (ih.sub n hm).2
      simp at this
    · cases pre with
      | nil =>
        injection e with e1 e2
        subst e1
        exact .inl (hpre u hu hr)
      | cons a pre =>
        injection e with e1 e2
        subst e1
        rcases ih.bef pre y post e2 u hu hr with h1 | h1
        · simp only [Bool.or_eq_true, beq_iff_eq] at h1
          rcases h1 with h1 | rfl
          · exact .inl h1
          · exact .inr (List.mem_cons_self ..)
        · exact .inr (List.mem_cons_of_mem _ h1)
    · rw [List.length_cons, ih.len, hlen, h]
theorem order_topo {l m : Ps} (hg : good l m = true) (hc : (l.any fun p => later m p.1 p.1) = false) : Topo (later m) (keys l) (fun _ => false) (orderL l m) := by
  have h := topo (fun a b c h1 h2 => later_trans (m := m) a b c h1 h2) (irrefl hc) (keys_nodup hg) l.length (fun _ => false) (by rw [lft_all]; unfold keys; simp)
  exact h
/-- A relation leads from an earlier place of the order to a later one. -/
def Along (m : Ps) (O : List Int) : Prop := O.Nodup ∧ ∀ pre x post, O = pre ++ x :: post → ∀ u, (u, x) ∈ m → u ∈ pre
theorem along {l m : Ps} (hg : good l m = true) (hc : (l.any fun p => later m p.1 p.1) = false) : Along m (orderL l m) := by
  have h := order_topo hg hc
  refine ⟨h.nd, fun pre x post e u hu => ?_⟩
  have hk : u ∈ keys l := by
    obtain ⟨i, hi⟩ := (Table.good_ends hg u x hu).1
    exact isAt_keys.1 (by rw [hi]; rfl)
  rcases h.bef pre x post e u hk (later_iff.2 (.one hu)) with h1 | h1
  · cases h1
  · exact h1
def upd (f : Int → Int) (x v : Int) : Int → Int := fun z => if x = z then v else f z
def rel1 (n : Int) (f : Int → Int) (x : Int) : Int → Int := upd f x (max (f x) (f n + 1))
def relAll (n : Int) (f : Int → Int) (xs : List Int) : Int → Int := xs.foldl (rel1 n) f
def step (m : Ps) (f : Int → Int) (n : Int) : Int → Int := relAll n f (lows m n)
def depF (m : Ps) (O : List Int) : Int → Int := O.foldl (step m) (fun _ => 0)
noncomputable def depth (l m : Ps) : Int → Int := depF m (orderL l m)
theorem relAll_next {n : Int} {f : Int → Int} {xs : List Int} {j : Nat} {x : Int} (hx : xs[j]? = some x) : relAll n f (xs.take (j + 1)) = rel1 n (relAll n f (xs.take j)) x := by
  unfold relAll
  rw [List.take_add_one, hx, Option.toList_some, List.foldl_append]
  rfl
theorem depF_next {m : Ps} {O : List Int} {k : Nat} {n : Int} (hn : O[k]? = some n) : depF m (O.take (k + 1)) = step m (depF m (O.take k)) n := by
  unfold depF
  rw [List.take_add_one, hn, Option.toList_some, List.foldl_append]
  rfl
theorem relAll_at {n : Int} : ∀ (xs : List Int) (f : Int → Int), n ∉ xs → ∀ z, relAll n f xs z = if z ∈ xs then max (f z) (f n + 1) else f z
  | [], f, _, z => by simp [relAll]
  | x :: t, f, hn, z => by
    have hxn : x ≠ n := fun e => hn (by rw [e]; exact List.mem_cons_self ..)
    have hn' : n ∉ t := fun h => hn (List.mem_cons_of_mem _ h)
    show relAll n (rel1 n f x) t z = _
    rw [relAll_at t (rel1 n f x) hn' z]
    have e1 : rel1 n f x n = f n := by unfold rel1 upd; rw [if_neg hxn]
    rw [e1]
    by_cases hzx : x = z
    · subst hzx
      have e2 : rel1 n f x x = max (f x) (f n + 1) := by unfold rel1 upd; rw [if_pos rfl]
      rw [e2, if_pos (List.mem_cons_self ..)]
      split
      · omega
      · rfl
    · have e2 : rel1 n f x z = f z := by unfold rel1 upd; rw [if_neg hzx]
      rw [e2]
      by_cases hz : z ∈ t
      · rw [if_pos hz, if_pos (List.mem_cons_of_mem _ hz)]
      · rw [if_neg hz, if_neg (by simp [hz, Ne.symm hzx])]
def Bd (k : Int) (f : Int → Int) : Prop := ∀ z, 0 ≤ f z ∧ f z ≤ k
theorem Bd.rel1 {k n x : Int} {f : Int → Int} (h : Bd k f) : Bd (k + 1) (rel1 n f x) := by
  intro z
  unfold DepM.rel1 upd
  have h1 := h z
  have h2 := h n
  have h3 := h x
  split <;> omega
theorem Bd.relAll {n : Int} : ∀ (xs : List Int) {k : Int} {f : Int → Int}, Bd k f → Bd (k + xs.length) (relAll n f xs)
  | [], k, f, h => by simpa [DepM.relAll] using h
  | x :: t, k, f, h => by
    have := Bd.relAll (n := n) t (h.rel1 (n := n) (x := x))
    show Bd _ (DepM.relAll n (DepM.rel1 n f x) t)
    intro z
    have := this z
    rw [List.length_cons]
    omega
theorem Bd.depF {m : Ps} : ∀ (O : List Int) {k : Int} {f : Int → Int}, Bd k f → Bd (k + O.length * m.length) (O.foldl (step m) f)
  | [], k, f, h => by simpa using h
  | n :: t, k, f, h => by
    have h1 : Bd (k + m.length) (step m f n) := fun z => by
      have h2 := Bd.relAll (n := n) (lows m n) h z
      have h3 := lows_len m n
      unfold step
      omega
    have h4 := Bd.depF (m := m) t h1
    show Bd _ (t.foldl (step m) (step m f n))
    intro z
    have h5 := h4 z
    have e : ((n :: t).length : Int) * m.length = m.length + t.length * m.length := by
      rw [List.length_cons]
      push_cast
      rw [Int.add_mul]
      omega
    rw [e]
    omega
theorem depF_bd {m : Ps} (O : List Int) : Bd (O.length * m.length) (depF m O) := by
  have h := Bd.depF (m := m) O (k := 0) (f := fun _ => 0) (fun z => by simp)
  intro z
  have := h z
  unfold depF
  omega
structure IsDep (m : Ps) (P : List Int) (f : Int → Int) : Prop where
  up : ∀ u x, (u, x) ∈ m → u ∈ P → f u + 1 ≤ f x
  at0 : ∀ x, f x = 0 ∨ ∃ u, u ∈ P ∧ (u, x) ∈ m ∧ f x = f u + 1
  nn : ∀ x, 0 ≤ f x
theorem IsDep.next {m : Ps} {P : List Int} {f : Int → Int} {n : Int} (h : IsDep m P f) (hn : n ∉ P) (hs : (n, n) ∉ m) (hp : ∀ x, (n, x) ∈ m → x ∉ P) : IsDep m (P ++ [n]) (step m f n) := by
  have hnl : n ∉ lows m n := fun e => hs (mem_lows.1 e)
  have ha : ∀ z, step m f n z = if z ∈ lows m n then max (f z) (f n + 1) else f z := fun z => relAll_at _ _ hnl z
  have hP : ∀ u ∈ P, step m f n u = f u := fun u hu => by rw [ha, if_neg (fun e => hp u (mem_lows.1 e) hu)]
  have hN : step m f n n = f n := by rw [ha, if_neg hnl]
  have hge : ∀ x, f x ≤ step m f n x := fun x => by rw [ha]; split <;> omega
  refine ⟨fun u x hm hu => ?_, fun x => ?_, fun x => Int.le_trans (h.nn x) (hge x)⟩
  · rcases List.mem_append.1 hu with hu | hu
    · rw [hP u hu]
      exact Int.le_trans (h.up u x hm hu) (hge x)
    · obtain rfl : u = n := by simpa using hu
      rw [hN, ha x, if_pos (mem_lows.2 hm)]
      omega
  · by_cases hx : x ∈ lows m n
    · have e := ha x
      rw [if_pos hx] at e
      by_cases hle : f x ≤ f n + 1
      · exact .inr ⟨n, by simp, mem_lows.1 hx, by rw [hN, e]; omega⟩
      · rcases h.at0 x with h0 | ⟨u, hu, hm, he⟩
        · have := h.nn n
          omega
        · exact .inr ⟨u, by simp [hu], hm, by rw [hP u hu, e]; omega⟩
    · have e := ha x
      rw [if_neg hx] at e
      rw [e]
      rcases h.at0 x with h0 | ⟨u, hu, hm, he⟩
      · exact .inl h0
      · exact .inr ⟨u, by simp [hu], hm, by rw [hP u hu]; exact he⟩
theorem isDep {m : Ps} {O : List Int} (hA : Along m O) : ∀ k, k ≤ O.length → IsDep m (O.take k) (depF m (O.take k))
  | 0, _ => ⟨fun u x _ hu => by simp at hu, fun x => .inl rfl, fun x => Int.le_refl _⟩
  | k + 1, hk => by
    have ih := isDep hA k (by omega)
    have hn : O[k]? = some O[k] := List.getElem?_eq_getElem (by omega)
    rw [depF_next hn, List.take_add_one, hn, Option.toList_some]
    have hsp : O = O.take k ++ O[k] :: O.drop (k + 1) := by
      rw [List.getElem_cons_drop, List.take_append_drop]
    have hnd := hA.1
    rw [hsp, List.nodup_append] at hnd
    have hnP : O[k] ∉ O.take k := fun h => hnd.2.2 _ h _ (List.mem_cons_self ..) rfl
    refine ih.next hnP (fun h => hnP (hA.2 _ _ _ hsp _ h)) (fun x hm hx => ?_)
    obtain ⟨s, t, hst⟩ := List.append_of_mem hx
    have e : O = s ++ x :: (t ++ O[k] :: O.drop (k + 1)) := by
      rw [← List.cons_append, ← List.append_assoc, ← hst]
      exact hsp
    have := hA.2 _ _ _ e _ hm
    exact hnP (by rw [hst]; exact List.mem_append_left _ this)
theorem depth_dep {l m : Ps} (hg : good l m = true) (hc : (l.any fun p => later m p.1 p.1) = false) : IsDep m (orderL l m) (depth l m) := by
  have h := isDep (along hg hc) (orderL l m).length (Nat.le_refl _)
  rw [List.take_of_length_le (Nat.le_refl _)] at h
  exact h
/-- What the rounds over the relations have reached: t rounds done, j relations of the next one. -/
structure Rnd (m : Ps) (O : List Int) (f g : Int → Int) (t j : Nat) : Prop where
  lo : ∀ x, 0 ≤ g x ∧ g x ≤ f x
  fin : ∀ x ∈ O.take t, g x = f x
  mid : ∀ u x, (u, x) ∈ m.take j → u ∈ O.take t → f u + 1 ≤ g x
theorem rnd_start {m : Ps} {O : List Int} {f : Int → Int} (hf : IsDep m O f) : Rnd m O f (fun _ => 0) 0 0 :=
  ⟨fun x => ⟨Int.le_refl _, hf.nn x⟩, fun x hx => by simp at hx, fun u x hx => by simp at hx⟩
theorem Rnd.rel {m : Ps} {O : List Int} {f g : Int → Int} {t j : Nat} {u x : Int} (h : Rnd m O f g t j) (hf : IsDep m O f) (hO : ∀ u x, (u, x) ∈ m → u ∈ O) (hx : m[j]? = some (u, x)) : Rnd m O f (upd g x (max (g x) (g u + 1))) t (j + 1) := by
  have hm := List.mem_of_getElem? hx
  have hup := hf.up u x hm (hO u x hm)
  have hge : ∀ z, g z ≤ upd g x (max (g x) (g u + 1)) z := fun z => by unfold upd; split; (subst_vars; omega); omega
  have hle : ∀ z, upd g x (max (g x) (g u + 1)) z ≤ f z := fun z => by
    unfold upd
    have h1 := h.lo x
    have h2 := h.lo u
    have h3 := h.lo z
    split
    · subst_vars
      omega
    · exact h3.2
  refine ⟨fun z => ⟨Int.le_trans (h.lo z).1 (hge z), hle z⟩, fun z hz => ?_, fun a b hab ha => ?_⟩
  · have h1 := h.fin z hz
    have h2 := hge z
    have h3 := hle z
    omega
  · rw [List.take_add_one, hx, Option.toList_some] at hab
    rcases List.mem_append.1 hab with hab | hab
    · exact Int.le_trans (h.mid a b hab ha) (hge b)
    · simp at hab
      obtain ⟨rfl, rfl⟩ := hab
      have h1 := h.fin a ha
      unfold upd
      rw [if_pos rfl]
      omega
theorem Rnd.round {m : Ps} {O : List Int} {f g : Int → Int} {t : Nat} (h : Rnd m O f g t m.length) (hf : IsDep m O f) (hA : Along m O) : Rnd m O f g (t + 1) 0 := by
  refine ⟨h.lo, fun x hx => ?_, fun u x hu => by simp at hu⟩
  cases ho : O[t]? with
  | none => rw [List.take_add_one, ho, Option.toList_none, List.append_nil] at hx; exact h.fin x hx
  | some y =>
    rw [List.take_add_one, ho, Option.toList_some] at hx
    rcases List.mem_append.1 hx with hx | hx
    · exact h.fin x hx
    · obtain rfl : x = y := by simpa using hx
      have htl := (List.getElem?_eq_some_iff.1 ho).1
      have hsp : O = O.take t ++ x :: O.drop (t + 1) := by
        have e : O[t] = x := (List.getElem?_eq_some_iff.1 ho).2
        rw [← e, List.getElem_cons_drop, List.take_append_drop]
      have h1 := h.lo x
      rcases hf.at0 x with h0 | ⟨u, hu, hm, he⟩
      · omega
      · have h2 := h.mid u x (by rw [List.take_length]; exact hm) (hA.2 _ _ _ hsp u hm)
        omega
theorem Rnd.done {m : Ps} {O : List Int} {f g : Int → Int} {t j : Nat} (h : Rnd m O f g t j) (ht : O.length ≤ t) : ∀ x ∈ O, g x = f x := fun x hx => h.fin x (by rw [List.take_of_length_le ht]; exact hx)
theorem rnd_idle {m : Ps} {O : List Int} {f g : Int → Int} {t : Nat} (h : Rnd m O f g t 0) : Rnd m O f g t 0 := h
end Go.Proofs.Ytcbfnhghhbgdkaa.DepM
/- Maps from numbers to numbers; a number that is missing counts 0. -/
namespace Go.Proofs.Ytcbfnhghhbgdkaa.NumMap
open Go.RowKit Go.Maps Pairs Chain Find2 GoodM Lows Queue From MapStep Order DepM
def iR : Value → Option (Dat × List MemPlace)
  | .int .i64 b => some (.lit (.int .i64 b), [])
  | _ => none
theorem iR_inv {v : Value} {b : Int} {ps : List MemPlace} (h : iR v = some (.lit (.int .i64 b), ps)) : v = .int .i64 b := by
  unfold iR at h
  split at h
  · injection h with h
    injection h with h _
    injection h with h
    injection h with _ h
    rw [h]
  · cases h
def NumAt (w : World) (g n : Nat) (f : Int → Int) : Prop := ∃ D : Dat, w.ownsMap Try.prog 3 iR g n D ∧ ∀ z, D.atKey (.int .i64 z) (.lit (.int .i64 0)) = .lit (.int .i64 (f z))
theorem isMap_of {w : World} {g n : Nat} {D : Dat} (h : w.ownsMap Try.prog 3 iR g n D) : IsMap D := by
  obtain ⟨_, _, _, _, _, hD⟩ := h
  exact ⟨_, hD⟩
theorem NumAt.kept {w w' : World} {g n : Nat} {f : Int → Int} {row : Option Nat} (h : NumAt w g n f) (hg : w.grownBy w' row) (hne : some g ≠ row) : NumAt w' g n f := by
  obtain ⟨D, ho, hS⟩ := h
  exact ⟨D, ho.kept hg hne, hS⟩
theorem NumAt.below {w w' : World} {g n : Nat} {f : Int → Int} (h : NumAt w g n f) (hb : Below w.heap.size w w') : NumAt w' g n f := h.kept (grown_none hb) (by simp)
theorem NumAt.lt {w : World} {g n : Nat} {f : Int → Int} (h : NumAt w g n f) : g < w.heap.size := by
  obtain ⟨D, ho, _⟩ := h
  exact ho.lt
theorem num_new (w : World) : NumAt (w.alloc (.map #[] 0)) w.heap.size 0 (fun _ => 0) := ⟨_, World.ownsMap_made w Try.prog 3 iR, fun _ => rfl⟩
theorem num_update {w : World} {g n : Nat} {f : Int → Int} (h : NumAt w g n f) (hn : n < 1048576) {x : Int} (hx : -1000000 ≤ x ∧ x ≤ 1000000) (v : Int) :
    ∃ w2, (Instr.mapUpdate 80 (.map (some g)) (.int .i64 x) (.int .i64 v)).run Try.prog w = .ok () w2 ∧ NumAt w2 g (n + 1) (upd f x v) ∧ w.grownBy w2 (some g) := by
  obtain ⟨D, ho, hS⟩ := h
  obtain ⟨w2, hrun, hown, hgrow⟩ := World.ownsMap.update ho law Try.underlying80 (by unfold maxLen; omega) (val := .int .i64 v) (keyI hx) rfl
  refine ⟨w2, hrun, ⟨_, hown, fun z => ?_⟩, hgrow⟩
  unfold upd
  by_cases e : x = z
  · subst e
    rw [atKey_put_same (isMap_of ho) (show WideAt.IsKeyLit (.int .i64 x) from trivial) _ _, if_pos rfl]
  · rw [atKey_put_other (by intro h2; injection h2 with _ h2; exact e h2.symm), hS, if_neg e]
theorem num_look {w : World} {g n : Nat} {f : Int → Int} (h : NumAt w g n f) {x : Int} (hx : -1000000 ≤ x ∧ x ≤ 1000000) : (Instr.lookup 80 (.map (some g)) (.int .i64 x) false).run Try.prog w = .ok (.int .i64 (f x)) w := by
  obtain ⟨D, ho, hS⟩ := h
  obtain ⟨v, ps, hrun, hv⟩ := ho.lookup law Try.underlying80 (zeroI w) (zd := .lit (.int .i64 0)) (zp := []) rfl (keyI hx)
  rw [hS] at hv
  rw [iR_inv hv] at hrun
  exact hrun
end Go.Proofs.Ytcbfnhghhbgdkaa.NumMap
