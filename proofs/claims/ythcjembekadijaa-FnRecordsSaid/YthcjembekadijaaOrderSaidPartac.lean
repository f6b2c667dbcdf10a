/- Being later, in plain words: chains of relations; the table of the model (Warshall's); the search of the program. -/
import Derived.Test.YthcjembekadijaaOrderSaidPartab
namespace Go.Proofs.Ythcjembekadijaa.Chain
open Pairs Find2

abbrev Ps := List (Int × Int)
inductive Reach (m : Ps) : Int → Int → Prop
  | one {a b : Int} : (a, b) ∈ m → Reach m a b
  | more {a b c : Int} : Reach m a b → (b, c) ∈ m → Reach m a c
theorem Reach.trans {m : Ps} {a b c : Int} (h : Reach m a b) (k : Reach m b c) : Reach m a c := by
  induction k with
  | one e => exact .more h e
  | more _ e ih => exact .more ih e
open Classical in
noncomputable def later (m : Ps) (a b : Int) : Bool := decide (Reach m a b)
theorem later_iff {m : Ps} {a b : Int} : later m a b = true ↔ Reach m a b := by unfold later; simp

/-! ### The table -/
def W (E : Nat → Nat → Prop) : Nat → Nat → Nat → Prop
  | 0 => E
  | k + 1 => fun i j => W E k i j ∨ (W E k i k ∧ W E k k j)
theorem W.up {E : Nat → Nat → Prop} {k i j : Nat} (h : W E k i j) : W E (k + 1) i j := .inl h
theorem W.col {E : Nat → Nat → Prop} {k i : Nat} (h : W E (k + 1) i k) : W E k i k := by rcases h with h | h; exact h; exact h.1
theorem W.row {E : Nat → Nat → Prop} {k j : Nat} (h : W E (k + 1) k j) : W E k k j := by rcases h with h | h; exact h; exact h.2
theorem W.thru {E : Nat → Nat → Prop} : ∀ K i k j, k < K → W E K i k → W E K k j → W E K i j
  | 0, _, _, _, h, _, _ => absurd h (Nat.not_lt_zero _)
  | K + 1, i, k, j, h, h1, h2 => by
    by_cases e : k = K
    · subst e
      exact .inr ⟨h1.col, h2.row⟩
    · have hk : k < K := by omega
      rcases h1 with h1 | ⟨h1, h1'⟩
      · rcases h2 with h2 | ⟨h2, h2'⟩
        · exact .inl (W.thru K i k j hk h1 h2)
        · exact .inr ⟨W.thru K i k K hk h1 h2, h2'⟩
      · rcases h2 with h2 | ⟨h2, h2'⟩
        · exact .inr ⟨h1, W.thru K K k j hk h1' h2⟩
        · exact .inr ⟨h1, h2'⟩
theorem W.of {E : Nat → Nat → Prop} {i j : Nat} (h : E i j) : ∀ K, W E K i j
  | 0 => h
  | K + 1 => .inl (W.of h K)
/-- A relation by the places of its contexts. -/
def Ed (l m : Ps) (i j : Nat) : Prop := ∃ a b, (a, b) ∈ m ∧ isAt l a = some i ∧ isAt l b = some j
theorem isAt_num {l : Ps} {a : Int} {i : Nat} (h : isAt l a = some i) : ∃ y, l[i]? = some (a, y) := by
  unfold isAt at h
  rw [List.findIdx?_eq_some_iff_getElem] at h
  obtain ⟨hl, h1, _⟩ := h
  refine ⟨l[i].2, ?_⟩
  rw [List.getElem?_eq_getElem hl]
  have : l[i].1 = a := by simpa using h1
  rw [← this]
theorem isAt_lt {l : Ps} {a : Int} {i : Nat} (h : isAt l a = some i) : i < l.length := by
  obtain ⟨y, hy⟩ := isAt_num h
  exact (List.getElem?_eq_some_iff.1 hy).1
theorem isAt_inj {l : Ps} {a b : Int} {i : Nat} (h : isAt l a = some i) (k : isAt l b = some i) : a = b := by
  obtain ⟨y, hy⟩ := isAt_num h
  obtain ⟨z, hz⟩ := isAt_num k
  rw [hy] at hz
  injection hz with hz
  exact congrArg Prod.fst hz
/-- The contexts of every relation are there. -/
def EndsIn (l m : Ps) : Prop := ∀ a b, (a, b) ∈ m → (∃ i, isAt l a = some i) ∧ ∃ j, isAt l b = some j
theorem reach_w {l m : Ps} (h : EndsIn l m) {a b : Int} (r : Reach m a b) : ∀ i j, isAt l a = some i → isAt l b = some j → W (Ed l m) l.length i j := by
  induction r with
  | one e => intro i j hi hj; exact W.of ⟨_, _, e, hi, hj⟩ _
  | more r e ih =>
    intro i j hi hj
    obtain ⟨⟨k, hk⟩, _⟩ := h _ _ e
    exact W.thru _ i k j (isAt_lt hk) (ih i k hi hk) (W.of ⟨_, _, e, hk, hj⟩ _)
theorem w_reach {l m : Ps} : ∀ K i j, W (Ed l m) K i j → K ≤ l.length → ∃ a b, isAt l a = some i ∧ isAt l b = some j ∧ Reach m a b
  | 0, i, j, h, _ => by
    obtain ⟨a, b, e, h1, h2⟩ := h
    exact ⟨a, b, h1, h2, .one e⟩
  | K + 1, i, j, h, hK => by
    rcases h with h | ⟨h1, h2⟩
    · exact w_reach K i j h (by omega)
    · obtain ⟨a, b, ha, hb, r⟩ := w_reach K i K h1 (by omega)
      obtain ⟨c, d, hc, hd, q⟩ := w_reach K K j h2 (by omega)
      obtain rfl := isAt_inj hb hc
      exact ⟨a, d, ha, hd, r.trans q⟩
theorem w_iff {l m : Ps} (h : EndsIn l m) {a b : Int} {i j : Nat} (hi : isAt l a = some i) (hj : isAt l b = some j) : W (Ed l m) l.length i j ↔ Reach m a b := by
  constructor
  · intro hw
    obtain ⟨c, d, hc, hd, r⟩ := w_reach _ _ _ hw (Nat.le_refl _)
    obtain rfl := isAt_inj hi hc
    obtain rfl := isAt_inj hj hd
    exact r
  · intro r
    exact reach_w h r i j hi hj
/-- The rows of the table, as sets of bits. -/
structure Tbl (n : Nat) (L : List Nat) (R : Nat → Nat → Prop) : Prop where
  len : L.length = n
  bd : ∀ (i x : Nat), L[i]? = some x → x < 2 ^ n
  bit : ∀ (i x j : Nat), L[i]? = some x → j < n → (x.testBit j = true ↔ R i j)
theorem Tbl.imp {n : Nat} {L : List Nat} {R S : Nat → Nat → Prop} (h : Tbl n L R) (e : ∀ i j, i < n → j < n → (R i j ↔ S i j)) : Tbl n L S :=
  ⟨h.len, h.bd, fun i x j hx hj => (h.bit i x j hx hj).trans (e i j (by have := (List.getElem?_eq_some_iff.1 hx).1; have := h.len; omega) hj)⟩
theorem tbl_zero (n : Nat) : Tbl n (List.replicate n 0) (fun _ _ => False) :=
  ⟨by simp, fun i x hx => by
    have := List.mem_replicate.1 (List.mem_of_getElem? hx)
    rw [this.2]
    exact Nat.two_pow_pos n, fun i x j hx hj => by
    have := List.mem_replicate.1 (List.mem_of_getElem? hx)
    rw [this.2]
    simp⟩
theorem lor_lt {x y n : Nat} (hx : x < 2 ^ n) (hy : y < 2 ^ n) : x ||| y < 2 ^ n := Nat.or_lt_two_pow hx hy
theorem Tbl.set {n : Nat} {L : List Nat} {R : Nat → Nat → Prop} (h : Tbl n L R) {a x y : Nat} (hx : L[a]? = some x) (hy : y < 2 ^ n) : Tbl n (L.set a (x ||| y)) (fun i j => R i j ∨ (i = a ∧ y.testBit j = true)) := by
  have ha : a < L.length := (List.getElem?_eq_some_iff.1 hx).1
  refine ⟨by rw [List.length_set]; exact h.len, fun i z hz => ?_, fun i z j hz hj => ?_⟩
  · by_cases e : i = a
    · subst e
      rw [List.getElem?_set_self ha] at hz
      injection hz with hz
      rw [← hz]
      exact lor_lt (h.bd _ _ hx) hy
    · rw [List.getElem?_set_ne (fun q => e q.symm)] at hz
      exact h.bd i z hz
  · by_cases e : i = a
    · subst e
      rw [List.getElem?_set_self ha] at hz
      injection hz with hz
      rw [← hz, Nat.testBit_or, Bool.or_eq_true, h.bit i x j hx hj]
      simp
    · rw [List.getElem?_set_ne (fun q => e q.symm)] at hz
      rw [h.bit i z j hz hj]
      simp [e]
theorem pow_bit {b j : Nat} : (2 ^ b).testBit j = true ↔ b = j := by rw [Nat.testBit_two_pow]; simp
/-- The relations of the first k. -/
theorem ed_next {l m : Ps} {k : Nat} {x y : Int} {a b : Nat} (hx : m[k]? = some (x, y)) (ha : isAt l x = some a) (hb : isAt l y = some b) (i j : Nat) :
    Ed l (m.take (k + 1)) i j ↔ Ed l (m.take k) i j ∨ (i = a ∧ (2 ^ b).testBit j = true) := by
  rw [pow_bit]
  have e : m.take (k + 1) = m.take k ++ [(x, y)] := by rw [List.take_add_one, hx]; rfl
  unfold Ed
  rw [e]
  constructor
  · rintro ⟨c, d, hm, hc, hd⟩
    rcases List.mem_append.1 hm with hm | hm
    · exact .inl ⟨c, d, hm, hc, hd⟩
    · simp only [List.mem_singleton, Prod.mk.injEq] at hm
      obtain ⟨rfl, rfl⟩ := hm
      rw [ha] at hc
      rw [hb] at hd
      exact .inr ⟨(Option.some.inj hc).symm, Option.some.inj hd⟩
  · rintro (⟨c, d, hm, hc, hd⟩ | ⟨rfl, rfl⟩)
    · exact ⟨c, d, List.mem_append_left _ hm, hc, hd⟩
    · exact ⟨x, y, List.mem_append_right _ (by simp), ha, hb⟩
/-- Round k of the table, the rows before i done. -/
def Mid (E : Nat → Nat → Prop) (k i r j : Nat) : Prop := if r < i then W E (k + 1) r j else W E k r j
theorem mid_row {E : Nat → Nat → Prop} {k i j : Nat} : Mid E k i k j ↔ W E k k j := by
  unfold Mid
  split
  · exact ⟨W.row, W.up⟩
  · exact Iff.rfl
theorem mid_hit {E : Nat → Nat → Prop} {k i r j : Nat} (h : W E k i k) : Mid E k (i + 1) r j ↔ Mid E k i r j ∨ (r = i ∧ W E k k j) := by
  unfold Mid
  by_cases e : r = i
  · subst e
    rw [if_pos (by omega), if_neg (by omega)]
    constructor
    · rintro (h1 | ⟨_, h2⟩)
      · exact .inl h1
      · exact .inr ⟨rfl, h2⟩
    · rintro (h1 | ⟨_, h2⟩)
      · exact .inl h1
      · exact .inr ⟨h, h2⟩
  · by_cases hr : r < i
    · rw [if_pos (by omega), if_pos hr]
      simp [e]
    · rw [if_neg (by omega), if_neg hr]
      simp [e]
theorem mid_miss {E : Nat → Nat → Prop} {k i r j : Nat} (h : ¬ W E k i k) : Mid E k (i + 1) r j ↔ Mid E k i r j := by
  unfold Mid
  by_cases e : r = i
  · subst e
    rw [if_pos (by omega), if_neg (by omega)]
    constructor
    · rintro (h1 | ⟨h2, _⟩)
      · exact h1
      · exact absurd h2 h
    · exact W.up
  · by_cases hr : r < i
    · rw [if_pos (by omega), if_pos hr]
    · rw [if_neg (by omega), if_neg hr]

/-! ### The search -/
def lows (m : Ps) (a : Int) : List Int := (m.filter (fun p => p.1 == a)).map (·.2)
theorem mem_lows {m : Ps} {a b : Int} : b ∈ lows m a ↔ (a, b) ∈ m := by
  unfold lows
  simp
theorem lows_next {m : Ps} {k : Nat} {x y : Int} (hx : m[k]? = some (x, y)) (a : Int) : lows (m.take (k + 1)) a = lows (m.take k) a ++ (if x = a then [y] else []) := by
  unfold lows
  rw [List.take_add_one, hx]
  simp only [Option.toList_some, List.filter_append, List.map_append]
  by_cases h : x = a <;> simp [h]
theorem lows_len (m : Ps) (a : Int) : (lows m a).length ≤ m.length := by
  unfold lows
  rw [List.length_map]
  exact List.length_filter_le _ _
/-- A state: the queue, and what has been found with the context before it. -/
abbrev St := List Int × Ps
def vis (h : Int) (s : St) (x : Int) : St := if (isAt s.2 x).isSome = true then s else (s.1 ++ [x], s.2 ++ [(x, h)])
def visAll (h : Int) (s : St) (xs : List Int) : St := xs.foldl (vis h) s
theorem visAll_next (h : Int) (s : St) (xs : List Int) (x : Int) : visAll h s (xs ++ [x]) = vis h (visAll h s xs) x := by unfold visAll; rw [List.foldl_append]; rfl
def keys (pv : Ps) : List Int := pv.map (·.1)
theorem isAt_keys {pv : Ps} {x : Int} : (isAt pv x).isSome = true ↔ x ∈ keys pv := by
  unfold isAt keys
  rw [List.findIdx?_isSome, List.any_eq_true, List.mem_map]
  constructor
  · rintro ⟨p, h1, h2⟩
    exact ⟨p, h1, by simpa using h2⟩
  · rintro ⟨p, h1, h2⟩
    exact ⟨p, h1, by simpa using h2⟩
structure Good (m : Ps) (a : Int) (s : St) : Prop where
  sound : ∀ x ∈ keys s.2, Reach m a x
  queue : ∀ x ∈ s.1, x = a ∨ x ∈ keys s.2
  nodup : (keys s.2).Nodup
  inside : ∀ x ∈ keys s.2, x ∈ m.map (·.2)
theorem keys_snoc (pv : Ps) (x h : Int) : keys (pv ++ [(x, h)]) = keys pv ++ [x] := by unfold keys; simp
theorem vis_keeps {h x : Int} {s : St} : ∀ y, y ∈ keys s.2 → y ∈ keys (vis h s x).2 := by
  intro y hy
  unfold vis
  split
  · exact hy
  · rw [keys_snoc]
    exact List.mem_append_left _ hy
theorem vis_has {h x : Int} {s : St} : x ∈ keys (vis h s x).2 := by
  unfold vis
  split
  · rename_i e
    exact isAt_keys.1 e
  · rw [keys_snoc]
    simp
theorem visAll_keeps {h : Int} : ∀ (xs : List Int) (s : St), ∀ y, y ∈ keys s.2 → y ∈ keys (visAll h s xs).2
  | [], _, _, hy => hy
  | x :: xs, s, y, hy => visAll_keeps xs (vis h s x) y (vis_keeps y hy)
theorem visAll_has {h : Int} : ∀ (xs : List Int) (s : St), ∀ x ∈ xs, x ∈ keys (visAll h s xs).2
  | x :: xs, s, y, hy => by
    rcases List.mem_cons.1 hy with rfl | hy
    · exact visAll_keeps xs _ _ vis_has
    · exact visAll_has xs (vis h s x) y hy
theorem vis_queue {h x : Int} {s : St} : ∃ t, (vis h s x).1 = s.1 ++ t ∧ t.length + s.2.length = (vis h s x).2.length := by
  unfold vis
  split
  · exact ⟨[], by simp, by simp⟩
  · exact ⟨[x], rfl, by simp; omega⟩
theorem visAll_queue {h : Int} : ∀ (xs : List Int) (s : St), ∃ t, (visAll h s xs).1 = s.1 ++ t ∧ t.length + s.2.length = (visAll h s xs).2.length
  | [], s => ⟨[], by simp [visAll], by simp [visAll]⟩
  | x :: xs, s => by
    obtain ⟨t, h1, h2⟩ := vis_queue (h := h) (x := x) (s := s)
    obtain ⟨u, h3, h4⟩ := visAll_queue xs (vis h s x)
    refine ⟨t ++ u, ?_, ?_⟩
    · show (visAll h (vis h s x) xs).1 = _
      rw [h3, h1, List.append_assoc]
    · show _ = (visAll h (vis h s x) xs).2.length
      rw [List.length_append]
      omega
theorem Good.vis {m : Ps} {a h x : Int} {s : St} (g : Good m a s) (hh : h = a ∨ h ∈ keys s.2) (hx : (h, x) ∈ m) : Good m a (vis h s x) := by
  have hr : Reach m a x := by
    rcases hh with rfl | hh
    · exact .one hx
    · exact .more (g.sound _ hh) hx
  unfold Chain.vis
  split
  · exact g
  · rename_i e
    have ne : x ∉ keys s.2 := fun hk => e (isAt_keys.2 hk)
    refine ⟨fun y hy => ?_, fun y hy => ?_, ?_, fun y hy => ?_⟩
    · rw [keys_snoc] at hy
      rcases List.mem_append.1 hy with hy | hy
      · exact g.sound y hy
      · simp at hy; subst hy; exact hr
    · rw [keys_snoc]
      rcases List.mem_append.1 hy with hy | hy
      · rcases g.queue y hy with hq | hq
        · exact .inl hq
        · exact .inr (List.mem_append_left _ hq)
      · simp at hy; subst hy; exact .inr (by simp)
    · rw [keys_snoc]
      rw [List.nodup_append]
      refine ⟨g.nodup, by simp, fun y hy z hz => ?_⟩
      simp at hz
      subst hz
      exact fun e2 => ne (e2 ▸ hy)
    · rw [keys_snoc] at hy
      rcases List.mem_append.1 hy with hy | hy
      · exact g.inside y hy
      · simp at hy; subst hy; exact List.mem_map.2 ⟨_, hx, rfl⟩
theorem Good.visAll {m : Ps} {a h : Int} : ∀ (xs : List Int) (s : St), Good m a s → (h = a ∨ h ∈ keys s.2) → (∀ x ∈ xs, (h, x) ∈ m) → Good m a (visAll h s xs)
  | [], _, g, _, _ => g
  | x :: xs, s, g, hh, hx => Good.visAll xs (Chain.vis h s x) (g.vis hh (hx x (by simp))) (hh.imp id (vis_keeps h)) (fun y hy => hx y (by simp [hy]))
/-- One round: the head's lower contexts are found. -/
def round (m : Ps) : St → St
  | ([], pv) => ([], pv)
  | (h :: t, pv) => ((visAll h (h :: t, pv) (lows m h)).1.tail, (visAll h (h :: t, pv) (lows m h)).2)
structure Inv (m : Ps) (a : Int) (s : St) : Prop where
  good : Good m a s
  done : ∀ x, x = a ∨ x ∈ keys s.2 → x ∈ s.1 ∨ ∀ y ∈ lows m x, y ∈ keys s.2
theorem inv_start (m : Ps) (a : Int) : Inv m a ([a], []) :=
  ⟨⟨by simp [keys], by simp, by simp [keys], by simp [keys]⟩, fun x hx => by
    rcases hx with rfl | hx
    · exact .inl (by simp)
    · simp [keys] at hx⟩
theorem Inv.next {m : Ps} {a h : Int} {t : List Int} {pv : Ps} (i : Inv m a (h :: t, pv)) : Inv m a ((visAll h (h :: t, pv) (lows m h)).1.tail, (visAll h (h :: t, pv) (lows m h)).2) := by
  have hh := i.good.queue h (by simp)
  have g := i.good.visAll (lows m h) _ hh (fun x hx => mem_lows.1 hx)
  have hk := fun y hy => visAll_keeps (h := h) (lows m h) (h :: t, pv) y hy
  obtain ⟨u, hu, _⟩ := visAll_queue (h := h) (lows m h) (h :: t, pv)
  have htail : (visAll h (h :: t, pv) (lows m h)).1.tail = t ++ u := by rw [hu]; rfl
  refine ⟨⟨g.sound, fun x hx => g.queue x (List.mem_of_mem_tail hx), g.nodup, g.inside⟩, fun x hx => ?_⟩
  by_cases e : x = h
  · subst e
    exact .inr fun y hy => visAll_has _ _ y hy
  · by_cases ho : x = a ∨ x ∈ keys pv
    · rcases i.done x ho with hq | hd
      · left
        rw [htail]
        rcases List.mem_cons.1 hq with hq | hq
        · exact absurd hq e
        · exact List.mem_append_left _ hq
      · exact .inr fun y hy => hk y (hd y hy)
    · left
      have hx2 : x ∈ keys (visAll h (h :: t, pv) (lows m h)).2 := by
        rcases hx with hx | hx
        · exact absurd (.inl hx) ho
        · exact hx
      have key : ∀ (xs : List Int) (s : St), x ∉ keys s.2 → x ∈ keys (visAll h s xs).2 → x ∈ (visAll h s xs).1 := by
        intro xs
        induction xs with
        | nil => intro s h1 h2; exact absurd h2 h1
        | cons y ys ih =>
          intro s h1 h2
          by_cases e2 : x ∈ keys (vis h s y).2
          · obtain ⟨v, hv, _⟩ := visAll_queue (h := h) ys (vis h s y)
            show x ∈ (visAll h (vis h s y) ys).1
            rw [hv]
            apply List.mem_append_left
            unfold vis at e2 ⊢
            split at e2
            · exact absurd e2 h1
            · rename_i e3
              rw [if_neg e3]
              rw [keys_snoc] at e2
              rcases List.mem_append.1 e2 with e2 | e2
              · exact absurd e2 h1
              · simp at e2; subst e2; simp
          · exact ih (vis h s y) e2 h2
      have := key (lows m h) (h :: t, pv) (fun hc => ho (.inr hc)) hx2
      rw [hu] at this
      rw [htail]
      rcases List.mem_append.1 this with hq | hq
      · rcases List.mem_cons.1 hq with hq | hq
        · exact absurd hq e
        · exact List.mem_append_left _ hq
      · exact List.mem_append_right _ hq
theorem Inv.end {m : Ps} {a : Int} {pv : Ps} (i : Inv m a ([], pv)) (x : Int) : x ∈ keys pv ↔ Reach m a x := by
  refine ⟨i.good.sound x, fun r => ?_⟩
  induction r with
  | one e =>
    rcases i.done a (.inl rfl) with h | h
    · cases h
    · exact h _ (mem_lows.2 e)
  | more _ e ih =>
    rcases i.done _ (.inr ih) with h | h
    · cases h
    · exact h _ (mem_lows.2 e)
theorem nodup_le : ∀ (a b : List Int), a.Nodup → (∀ x ∈ a, x ∈ b) → a.length ≤ b.length
  | [], _, _, _ => Nat.zero_le _
  | x :: a, b, h, hs => by
    rw [List.nodup_cons] at h
    have hx := hs x (by simp)
    have := nodup_le a (b.erase x) h.2 (fun y hy => by
      have hne : y ≠ x := fun e => h.1 (e ▸ hy)
      exact (List.mem_erase_of_ne hne).2 (hs y (by simp [hy])))
    rw [List.length_erase_of_mem hx] at this
    have := List.length_pos_of_mem hx
    simp
    omega
theorem Good.few {m : Ps} {a : Int} {s : St} (g : Good m a s) : s.2.length ≤ m.length := by
  have := nodup_le _ _ g.nodup g.inside
  unfold keys at this
  simpa using this
end Go.Proofs.Ythcjembekadijaa.Chain
/- Which records are valid, and where a number stands among ascending contexts. -/
namespace Go.Proofs.Ythcjembekadijaa.GoodM
open Go.RowKit Pairs Find2

def okC (l : List (Int × Int)) (i : Nat) : Bool :=
  match l[i]? with
  | none => true
  | some x => decide (1 ≤ x.1) && decide (x.1 ≤ 999) && decide (1 ≤ x.2) && decide (x.2 ≤ 4) && (decide (i = 0) || match l[i - 1]? with | none => true | some p => decide (p.1 < x.1))
def okR (l m : List (Int × Int)) (i : Nat) : Bool :=
  match m[i]? with
  | none => true
  | some x => decide (x.1 ≠ x.2) && (isAt l x.1).isSome && (isAt l x.2).isSome && (decide (i = 0) || match m[i - 1]? with | none => true | some p => decide (p.1 < x.1 ∨ p.1 = x.1 ∧ p.2 < x.2))
def good (l m : List (Int × Int)) : Bool :=
  decide (l.length ≤ 10) && decide (m.length ≤ 24) && (List.range l.length).all (okC l) && (List.range m.length).all (okR l m)

def before (p q : Int × Int) : Bool := decide (p.1 < q.1 ∨ p.1 = q.1 ∧ p.2 < q.2)
theorem okC_first {l : List (Int × Int)} {x y : Int} (hx : l[0]? = some (x, y)) (h1 : 1 ≤ x ∧ x ≤ 999) (h2 : 1 ≤ y ∧ y ≤ 4) : okC l 0 = true := by
  unfold okC
  rw [hx]
  simp [h1, h2]
theorem okC_next {l : List (Int × Int)} {j : Nat} {x y p q : Int} (hx : l[j + 1]? = some (x, y)) (hp : l[j]? = some (p, q)) (h1 : 1 ≤ x ∧ x ≤ 999) (h2 : 1 ≤ y ∧ y ≤ 4) (h3 : p < x) : okC l (j + 1) = true := by
  unfold okC
  rw [hx, Nat.add_sub_cancel, hp]
  simp [h1, h2, h3]
theorem okC_bad1 {l : List (Int × Int)} {k : Nat} {x y : Int} (hx : l[k]? = some (x, y)) (h : ¬ (1 ≤ x ∧ x ≤ 999)) : okC l k = false := by
  unfold okC
  rw [hx]
  by_cases h1 : 1 ≤ x
  · have h2 : ¬ x ≤ 999 := fun h2 => h ⟨h1, h2⟩
    simp [h2]
  · simp [h1]
theorem okC_bad2 {l : List (Int × Int)} {k : Nat} {x y : Int} (hx : l[k]? = some (x, y)) (h : ¬ (1 ≤ y ∧ y ≤ 4)) : okC l k = false := by
  unfold okC
  rw [hx]
  by_cases h1 : 1 ≤ y
  · have h2 : ¬ y ≤ 4 := fun h2 => h ⟨h1, h2⟩
    simp [h2]
  · simp [h1]
theorem okC_bad3 {l : List (Int × Int)} {j : Nat} {x y p q : Int} (hx : l[j + 1]? = some (x, y)) (hp : l[j]? = some (p, q)) (h : ¬ p < x) : okC l (j + 1) = false := by
  unfold okC
  rw [hx, Nat.add_sub_cancel, hp]
  simp [h]
theorem good_badC {l m : List (Int × Int)} {k : Nat} (hk : k < l.length) (h : okC l k = false) : good l m = false := by
  unfold good
  have e : (List.range l.length).all (okC l) = false := by
    rw [List.all_eq_false]
    exact ⟨k, List.mem_range.2 hk, by rw [h]; simp⟩
  rw [e]
  simp
theorem good_badR {l m : List (Int × Int)} {k : Nat} (hk : k < m.length) (h : okR l m k = false) : good l m = false := by
  unfold good
  have e : (List.range m.length).all (okR l m) = false := by
    rw [List.all_eq_false]
    exact ⟨k, List.mem_range.2 hk, by rw [h]; simp⟩
  rw [e, Bool.and_false]
theorem good_true {l m : List (Int × Int)} (h1 : l.length ≤ 10) (h2 : m.length ≤ 24) (h3 : ∀ j, j < l.length → okC l j = true) (h4 : ∀ j, j < m.length → okR l m j = true) : good l m = true := by
  unfold good
  rw [decide_eq_true h1, decide_eq_true h2, List.all_eq_true.2 (fun j hj => h3 j (List.mem_range.1 hj)), List.all_eq_true.2 (fun j hj => h4 j (List.mem_range.1 hj))]
  rfl
theorem good_big {l m : List (Int × Int)} (h : ¬ (l.length ≤ 10 ∧ m.length ≤ 24)) : good l m = false := by
  unfold good
  by_cases h1 : l.length ≤ 10
  · rw [decide_eq_false (p := m.length ≤ 24) (fun h2 => h ⟨h1, h2⟩)]
    simp
  · rw [decide_eq_false (p := l.length ≤ 10) h1]
    simp
def Past (l : List (Int × Int)) (k : Nat) : Prop := ∀ j, j < k → okC l j = true
theorem Past.next {l : List (Int × Int)} {k : Nat} (h : Past l k) (hk : okC l k = true) : Past l (k + 1) := by
  intro j hj
  by_cases e : j = k
  · exact e ▸ hk
  · exact h j (by omega)
theorem okR_bad1 {l m : List (Int × Int)} {k : Nat} {x : Int} (hx : m[k]? = some (x, x)) : okR l m k = false := by
  unfold okR
  rw [hx]
  simp
theorem okR_bad2 {l m : List (Int × Int)} {k : Nat} {x y : Int} (hx : m[k]? = some (x, y)) (h : isAt l x = none) : okR l m k = false := by
  unfold okR
  rw [hx]
  simp [h]
theorem okR_bad3 {l m : List (Int × Int)} {k : Nat} {x y : Int} (hx : m[k]? = some (x, y)) (h : isAt l y = none) : okR l m k = false := by
  unfold okR
  rw [hx]
  simp [h]
theorem okR_first {l m : List (Int × Int)} {x y : Int} {i j : Nat} (hx : m[0]? = some (x, y)) (h0 : x ≠ y) (h1 : isAt l x = some i) (h2 : isAt l y = some j) : okR l m 0 = true := by
  unfold okR
  rw [hx]
  simp [h0, h1, h2]
theorem okR_prev {l m : List (Int × Int)} {k : Nat} {x y p q : Int} {i j : Nat} (hx : m[k + 1]? = some (x, y)) (hp : m[k]? = some (p, q)) (h0 : x ≠ y) (h1 : isAt l x = some i) (h2 : isAt l y = some j) : okR l m (k + 1) = before (p, q) (x, y) := by
  unfold okR before
  rw [hx, Nat.add_sub_cancel, hp]
  simp [h0, h1, h2]
def PastR (l m : List (Int × Int)) (k : Nat) : Prop := ∀ j, j < k → okR l m j = true
theorem PastR.next {l m : List (Int × Int)} {k : Nat} (h : PastR l m k) (hk : okR l m k = true) : PastR l m (k + 1) := by
  intro j hj
  by_cases e : j = k
  · exact e ▸ hk
  · exact h j (by omega)

def Asc (l : List (Int × Int)) : Prop := ∀ i x y, l[i]? = some x → l[i + 1]? = some y → x.1 < y.1
theorem Asc.lt {l : List (Int × Int)} (h : Asc l) : ∀ (d i : Nat) (x y : Int × Int), l[i]? = some x → l[i + d + 1]? = some y → x.1 < y.1
  | 0, i, x, y, hx, hy => h i x y hx hy
  | d + 1, i, x, y, hx, hy => by
    have hl : i + d + 1 < l.length := by
      have := (List.getElem?_eq_some_iff.1 hy).1
      omega
    have hz : l[i + d + 1]? = some l[i + d + 1] := List.getElem?_eq_getElem hl
    have h1 := Asc.lt h d i x _ hx hz
    have h2 := h (i + d + 1) _ y hz hy
    omega
theorem Asc.le {l : List (Int × Int)} (h : Asc l) {i j : Nat} {x y : Int × Int} (hij : i ≤ j) (hx : l[i]? = some x) (hy : l[j]? = some y) : x.1 ≤ y.1 := by
  by_cases e : i = j
  · subst e; rw [hx] at hy; cases hy; exact Int.le_refl _
  · obtain ⟨d, rfl⟩ : ∃ d, j = i + d + 1 := ⟨j - i - 1, by omega⟩
    have := h.lt d i x y hx hy
    omega
/-- The place of a number among ascending contexts. -/
def pl (l : List (Int × Int)) (t : Int) : Nat := l.findIdx (fun p => decide (t ≤ p.1))
theorem pl_eq {l : List (Int × Int)} {t : Int} {i : Nat} (hi : i ≤ l.length) (h1 : ∀ j x, j < i → l[j]? = some x → x.1 < t) (h2 : ∀ x, l[i]? = some x → t ≤ x.1) : pl l t = i := by
  unfold pl
  by_cases e : i < l.length
  · rw [List.findIdx_eq e]
    refine ⟨decide_eq_true (h2 _ (List.getElem?_eq_getElem e)), fun j hj => decide_eq_false ?_⟩
    have := h1 j _ hj (List.getElem?_eq_getElem (by omega))
    omega
  · obtain rfl : i = l.length := by omega
    rw [List.findIdx_eq_length]
    intro x hx
    obtain ⟨j, hj, rfl⟩ := List.getElem_of_mem hx
    have := h1 j _ hj (List.getElem?_eq_getElem hj)
    exact decide_eq_false (by omega)
theorem isAt_pl {l : List (Int × Int)} (h : Asc l) {t : Int} {i : Nat} (h1 : ∀ j x, j < i → l[j]? = some x → x.1 < t) (h2 : ∀ x, l[i]? = some x → t ≤ x.1) :
    isAt l t = (match l[i]? with | some x => if x.1 = t then some i else none | none => none) := by
  unfold isAt
  cases hx : l[i]? with
  | none =>
    have hl := List.getElem?_eq_none_iff.1 hx
    rw [List.findIdx?_eq_none_iff]
    intro x hx
    obtain ⟨j, hj, rfl⟩ := List.getElem_of_mem hx
    have := h1 j _ (by omega) (List.getElem?_eq_getElem hj)
    simp; omega
  | some x =>
    have hl := (List.getElem?_eq_some_iff.1 hx).1
    show _ = if x.1 = t then some i else none
    by_cases e : x.1 = t
    · rw [if_pos e, List.findIdx?_eq_some_iff_getElem]
      refine ⟨hl, ?_, ?_⟩
      · rw [(List.getElem?_eq_some_iff.1 hx).2]; simp [e]
      · intro j hj
        have := h1 j _ hj (List.getElem?_eq_getElem (by omega))
        simp; omega
    · rw [if_neg e, List.findIdx?_eq_none_iff]
      intro z hz
      obtain ⟨j, hj, rfl⟩ := List.getElem_of_mem hz
      simp
      by_cases hji : j < i
      · have := h1 j _ hji (List.getElem?_eq_getElem hj)
        omega
      · have := h.le (i := i) (j := j) (by omega) hx (List.getElem?_eq_getElem hj)
        have := h2 x hx
        omega
theorem asc_of_ok {l : List (Int × Int)} (h : ∀ j, j < l.length → okC l j = true) : Asc l := by
  intro i x y hx hy
  have hl := (List.getElem?_eq_some_iff.1 hy).1
  have := h (i + 1) hl
  unfold okC at this
  rw [hy, Nat.add_sub_cancel, hx] at this
  simp at this
  omega
end Go.Proofs.Ythcjembekadijaa.GoodM
