/- Being later, in plain words: chains of relations; the table of the model (Warshall's); the search of the program. -/
import Derived.Test.YtmjhgjlnpnkmkaaFind2
namespace Go.Proofs.Ytmjhgjlnpnkmkaa.Chain
open Pairs Find2

abbrev Ps := List (Int × Int)
inductive Reach (m : Ps) : Int → Int → Prop
  | one {a b : Int} : (a, b) ∈ m → Reach m a b
  | more {a b c : Int} : Reach m a b → (b, c) ∈ m → Reach m a c
theorem Reach.trans {m : Ps} {a b c : Int} (h : Reach m a b) (k : Reach m b c) : Reach m a c := by
  induction k with
  | one e => exact .more h e
  | more _ e ih => exact .more ih e
open Classical in
noncomputable def later (m : Ps) (a b : Int) : Bool := decide (Reach m a b)
theorem later_iff {m : Ps} {a b : Int} : later m a b = true ↔ Reach m a b := by unfold later; simp

/-! ### The table -/
def W (E : Nat → Nat → Prop) : Nat → Nat → Nat → Prop
  | 0 => E
  | k + 1 => fun i j => W E k i j ∨ (W E k i k ∧ W E k k j)
theorem W.up {E : Nat → Nat → Prop} {k i j : Nat} (h : W E k i j) : W E (k + 1) i j := .inl h
theorem W.col {E : Nat → Nat → Prop} {k i : Nat} (h : W E (k + 1) i k) : W E k i k := by rcases h with h | h; exact h; exact h.1
theorem W.row {E : Nat → Nat → Prop} {k j : Nat} (h : W E (k + 1) k j) : W E k k j := by rcases h with h | h; exact h; exact h.2
theorem W.thru {E : Nat → Nat → Prop} : ∀ K i k j, k < K → W E K i k → W E K k j → W E K i j
  | 0, _, _, _, h, _, _ => absurd h (Nat.not_lt_zero _)
  | K + 1, i, k, j, h, h1, h2 => by
    by_cases e : k = K
    · subst e
      exact .inr ⟨h1.col, h2.row⟩
    · have hk : k < K := by omega
      rcases h1 with h1 | ⟨h1, h1'⟩
      · rcases h2 with h2 | ⟨h2, h2'⟩
        · exact .inl (W.thru K i k j hk h1 h2)
        · exact .inr ⟨W.thru K i k K hk h1 h2, h2'⟩
      · rcases h2 with h2 | ⟨h2, h2'⟩
        · exact .inr ⟨h1, W.thru K K k j hk h1' h2⟩
        · exact .inr ⟨h1, h2'⟩
theorem W.of {E : Nat → Nat → Prop} {i j : Nat} (h : E i j) : ∀ K, W E K i j
  | 0 => h
  | K + 1 => .inl (W.of h K)
/-- A relation by the places of its contexts. -/
def Ed (l m : Ps) (i j : Nat) : Prop := ∃ a b, (a, b) ∈ m ∧ isAt l a = some i ∧ isAt l b = some j
theorem isAt_num {l : Ps} {a : Int} {i : Nat} (h : isAt l a = some i) : ∃ y, l[i]? = some (a, y) := by
  unfold isAt at h
  rw [List.findIdx?_eq_some_iff_getElem] at h
  obtain ⟨hl, h1, _⟩ := h
  refine ⟨l[i].2, ?_⟩
  rw [List.getElem?_eq_getElem hl]
  have : l[i].1 = a := by simpa using h1
  rw [← this]
theorem isAt_lt {l : Ps} {a : Int} {i : Nat} (h : isAt l a = some i) : i < l.length := by
  obtain ⟨y, hy⟩ := isAt_num h
  exact (List.getElem?_eq_some_iff.1 hy).1
theorem isAt_inj {l : Ps} {a b : Int} {i : Nat} (h : isAt l a = some i) (k : isAt l b = some i) : a = b := by
  obtain ⟨y, hy⟩ := isAt_num h
  obtain ⟨z, hz⟩ := isAt_num k
  rw [hy] at hz
  injection hz with hz
  exact congrArg Prod.fst hz
/-- The contexts of every relation are there. -/
def EndsIn (l m : Ps) : Prop := ∀ a b, (a, b) ∈ m → (∃ i, isAt l a = some i) ∧ ∃ j, isAt l b = some j
theorem reach_w {l m : Ps} (h : EndsIn l m) {a b : Int} (r : Reach m a b) : ∀ i j, isAt l a = some i → isAt l b = some j → W (Ed l m) l.length i j := by
  induction r with
  | one e => intro i j hi hj; exact W.of ⟨_, _, e, hi, hj⟩ _
  | more r e ih =>
    intro i j hi hj
    obtain ⟨⟨k, hk⟩, _⟩ := h _ _ e
    exact W.thru _ i k j (isAt_lt hk) (ih i k hi hk) (W.of ⟨_, _, e, hk, hj⟩ _)
theorem w_reach {l m : Ps} : ∀ K i j, W (Ed l m) K i j → K ≤ l.length → ∃ a b, isAt l a = some i ∧ isAt l b = some j ∧ Reach m a b
  | 0, i, j, h, _ => by
    obtain ⟨a, b, e, h1, h2⟩ := h
    exact ⟨a, b, h1, h2, .one e⟩
  | K + 1, i, j, h, hK => by
    rcases h with h | ⟨h1, h2⟩
    · exact w_reach K i j h (by omega)
    · obtain ⟨a, b, ha, hb, r⟩ := w_reach K i K h1 (by omega)
      obtain ⟨c, d, hc, hd, q⟩ := w_reach K K j h2 (by omega)
      obtain rfl := isAt_inj hb hc
      exact ⟨a, d, ha, hd, r.trans q⟩
theorem w_iff {l m : Ps} (h : EndsIn l m) {a b : Int} {i j : Nat} (hi : isAt l a = some i) (hj : isAt l b = some j) : W (Ed l m) l.length i j ↔ Reach m a b := by
  constructor
  · intro hw
    obtain ⟨c, d, hc, hd, r⟩ := w_reach _ _ _ hw (Nat.le_refl _)
    obtain rfl := isAt_inj hi hc
    obtain rfl := isAt_inj hj hd
    exact r
  · intro r
    exact reach_w h r i j hi hj
/-- The rows of the table, as sets of bits. -/
structure Tbl (n : Nat) (L : List Nat) (R : Nat → Nat → Prop) : Prop where
  len : L.length = n
  bd : ∀ (i x : Nat), L[i]? = some x → x < 2 ^ n
  bit : ∀ (i x j : Nat), L[i]? = some x → j < n → (x.testBit j = true ↔ R i j)
theorem Tbl.imp {n : Nat} {L : List Nat} {R S : Nat → Nat → Prop} (h : Tbl n L R) (e : ∀ i j, i < n → j < n → (R i j ↔ S i j)) : Tbl n L S :=
  ⟨h.len, h.bd, fun i x j hx hj => (h.bit i x j hx hj).trans (e i j (by have := (List.getElem?_eq_some_iff.1 hx).1; have := h.len; omega) hj)⟩
theorem tbl_zero (n : Nat) : Tbl n (List.replicate n 0) (fun _ _ => False) :=
  ⟨by simp, fun i x hx => by
    have := List.mem_replicate.1 (List.mem_of_getElem? hx)
    rw [this.2]
    exact Nat.two_pow_pos n, fun i x j hx hj => by
    have := List.mem_replicate.1 (List.mem_of_getElem? hx)
    rw [this.2]
    simp⟩
theorem lor_lt {x y n : Nat} (hx : x < 2 ^ n) (hy : y < 2 ^ n) : x ||| y < 2 ^ n := Nat.or_lt_two_pow hx hy
theorem Tbl.set {n : Nat} {L : List Nat} {R : Nat → Nat → Prop} (h : Tbl n L R) {a x y : Nat} (hx : L[a]? = some x) (hy : y < 2 ^ n) : Tbl n (L.set a (x ||| y)) (fun i j => R i j ∨ (i = a ∧ y.testBit j = true)) := by
  have ha : a < L.length := (List.getElem?_eq_some_iff.1 hx).1
  refine ⟨by rw [List.length_set]; exact h.len, fun i z hz => ?_, fun i z j hz hj => ?_⟩
  · by_cases e : i = a
    · subst e
      rw [List.getElem?_set_self ha] at hz
      injection hz with hz
      rw [← hz]
      exact lor_lt (h.bd _ _ hx) hy
    · rw [List.getElem?_set_ne (fun q => e q.symm)] at hz
      exact h.bd i z hz
  · by_cases e : i = a
    · subst e
      rw [List.getElem?_set_self ha] at hz
      injection hz with hz
      rw [← hz, Nat.testBit_or, Bool.or_eq_true, h.bit i x j hx hj]
      simp
    · rw [List.getElem?_set_ne (fun q => e q.symm)] at hz
      rw [h.bit i z j hz hj]
      simp [e]
theorem pow_bit {b j : Nat} : (2 ^ b).testBit j = true ↔ b = j := by rw [Nat.testBit_two_pow]; simp
/-- The relations of the first k. -/
theorem ed_next {l m : Ps} {k : Nat} {x y : Int} {a b : Nat} (hx : m[k]? = some (x, y)) (ha : isAt l x = some a) (hb : isAt l y = some b) (i j : Nat) :
    Ed l (m.take (k + 1)) i j ↔ Ed l (m.take k) i j ∨ (i = a ∧ (2 ^ b).testBit j = true) := by
  rw [pow_bit]
  have e : m.take (k + 1) = m.take k ++ [(x, y)] := by rw [List.take_add_one, hx]; rfl
  unfold Ed
  rw [e]
  constructor
  · rintro ⟨c, d, hm, hc, hd⟩
    rcases List.mem_append.1 hm with hm | hm
    · exact .inl ⟨c, d, hm, hc, hd⟩
    · simp only [List.mem_singleton, Prod.mk.injEq] at hm
      obtain ⟨rfl, rfl⟩ := hm
      rw [ha] at hc
      rw [hb] at hd
      exact .inr ⟨(Option.some.inj hc).symm, Option.some.inj hd⟩
  · rintro (⟨c, d, hm, hc, hd⟩ | ⟨rfl, rfl⟩)
    · exact ⟨c, d, List.mem_append_left _ hm, hc, hd⟩
    · exact ⟨x, y, List.mem_append_right _ (by simp), ha, hb⟩
/-- Round k of the table, the rows before i done. -/
def Mid (E : Nat → Nat → Prop) (k i r j : Nat) : Prop := if r < i then W E (k + 1) r j else W E k r j
theorem mid_row {E : Nat → Nat → Prop} {k i j : Nat} : Mid E k i k j ↔ W E k k j := by
  unfold Mid
  split
  · exact ⟨W.row, W.up⟩
  · exact Iff.rfl
theorem mid_hit {E : Nat → Nat → Prop} {k i r j : Nat} (h : W E k i k) : Mid E k (i + 1) r j ↔ Mid E k i r j ∨ (r = i ∧ W E k k j) := by
  unfold Mid
  by_cases e : r = i
  · subst e
    rw [if_pos (by omega), if_neg (by omega)]
    constructor
    · rintro (h1 | ⟨_, h2⟩)
      · exact .inl h1
      · exact .inr ⟨rfl, h2⟩
    · rintro (h1 | ⟨_, h2⟩)
      · exact .inl h1
      · exact .inr ⟨h, h2⟩
  · by_cases hr : r < i
    · rw [if_pos (by omega), if_pos hr]
      simp [e]
    · rw [if_neg (by omega), if_neg hr]
      simp [e]
theorem mid_miss {E : Nat → Nat → Prop} {k i r j : Nat} (h : ¬ W E k i k) : Mid E k (i + 1) r j ↔ Mid E k i r j := by
  unfold Mid
  by_cases e : r = i
  · subst e
    rw [if_pos (by omega), if_neg (by omega)]
    constructor
    · rintro (h1 | ⟨h2, _⟩)
      · exact h1
      · exact absurd h2 h
    · exact W.up
  · by_cases hr : r < i
    · rw [if_pos (by omega), if_pos hr]
    · rw [if_neg (by omega), if_neg hr]

/-! ### The search -/
def lows (m : Ps) (a : Int) : List Int := (m.filter (fun p => p.1 == a)).map (·.2)
theorem mem_lows {m : Ps} {a b : Int} : b ∈ lows m a ↔ (a, b) ∈ m := by
  unfold lows
  simp
theorem lows_next {m : Ps} {k : Nat} {x y : Int} (hx : m[k]? = some (x, y)) (a : Int) : lows (m.take (k + 1)) a = lows (m.take k) a ++ (if x = a then [y] else []) := by
  unfold lows
  rw [List.take_add_one, hx]
  simp only [Option.toList_some, List.filter_append, List.map_append]
  by_cases h : x = a <;> simp [h]
theorem lows_len (m : Ps) (a : Int) : (lows m a).length ≤ m.length := by
  unfold lows
  rw [List.length_map]
  exact List.length_filter_le _ _
/-- A state: the queue, and what has been found with the context before it. -/
abbrev St := List Int × Ps
def vis (h : Int) (s : St) (x : Int) : St := if (isAt s.2 x).isSome = true then s else (s.1 ++ [x], s.2 ++ [(x, h)])
def visAll (h : Int) (s : St) (xs : List Int) : St := xs.foldl (vis h) s
theorem visAll_next (h : Int) (s : St) (xs : List Int) (x : Int) : visAll h s (xs ++ [x]) = vis h (visAll h s xs) x := by unfold visAll; rw [List.foldl_append]; rfl
def keys (pv : Ps) : List Int := pv.map (·.1)
theorem isAt_keys {pv : Ps} {x : Int} : (isAt pv x).isSome = true ↔ x ∈ keys pv := by
  unfold isAt keys
  rw [List.findIdx?_isSome, List.any_eq_true, List.mem_map]
  constructor
  · rintro ⟨p, h1, h2⟩
    exact ⟨p, h1, by simpa using h2⟩
  · rintro ⟨p, h1, h2⟩
    exact ⟨p, h1, by simpa using h2⟩
structure Good (m : Ps) (a : Int) (s : St) : Prop where
  sound : ∀ x ∈ keys s.2, Reach m a x
  queue : ∀ x ∈ s.1, x = a ∨ x ∈ keys s.2
  nodup : (keys s.2).Nodup
  inside : ∀ x ∈ keys s.2, x ∈ m.map (·.2)
theorem keys_snoc (pv : Ps) (x h : Int) : keys (pv ++ [(x, h)]) = keys pv ++ [x] := by unfold keys; simp
theorem vis_keeps {h x : Int} {s : St} : ∀ y, y ∈ keys s.2 → y ∈ keys (vis h s x).2 := by
  intro y hy
  unfold vis
  split
  · exact hy
  · rw [keys_snoc]
    exact List.mem_append_left _ hy
theorem vis_has {h x : Int} {s : St} : x ∈ keys (vis h s x).2 := by
  unfold vis
  split
  · rename_i e
    exact isAt_keys.1 e
  · rw [keys_snoc]
    simp
theorem visAll_keeps {h : Int} : ∀ (xs : List Int) (s : St), ∀ y, y ∈ keys s.2 → y ∈ keys (visAll h s xs).2
  | [], _, _, hy => hy
  | x :: xs, s, y, hy => visAll_keeps xs (vis h s x) y (vis_keeps y hy)
theorem visAll_has {h : Int} : ∀ (xs : List Int) (s : St), ∀ x ∈ xs, x ∈ keys (visAll h s xs).2
  | x :: xs, s, y, hy => by
    rcases List.mem_cons.1 hy with rfl | hy
    · exact visAll_keeps xs _ _ vis_has
    · exact visAll_has xs (vis h s x) y hy
theorem vis_queue {h x : Int} {s : St} : ∃ t, (vis h s x).1 = s.1 ++ t ∧ t.length + s.2.length = (vis h s x).2.length := by
  unfold vis
  split
  · exact ⟨[], by simp, by simp⟩
  · exact ⟨[x], rfl, by simp; omega⟩
theorem visAll_queue {h : Int} : ∀ (xs : List Int) (s : St), ∃ t, (visAll h s xs).1 = s.1 ++ t ∧ t.length + s.2.length = (visAll h s xs).2.length
  | [], s => ⟨[], by simp [visAll], by simp [visAll]⟩
  | x :: xs, s => by
    obtain ⟨t, h1, h2⟩ := vis_queue (h := h) (x := x) (s := s)
    obtain ⟨u, h3, h4⟩ := visAll_queue xs (vis h s x)
    refine ⟨t ++ u, ?_, ?_⟩
    · show (visAll h (vis h s x) xs).1 = _
      rw [h3, h1, List.append_assoc]
    · show _ = (visAll h (vis h s x) xs).2.length
      rw [List.length_append]
      omega
theorem Good.vis {m : Ps} {a h x : Int} {s : St} (g : Good m a s) (hh : h = a ∨ h ∈ keys s.2) (hx : (h, x) ∈ m) : Good m a (vis h s x) := by
  have hr : Reach m a x := by
    rcases hh with rfl | hh
    · exact .one hx
    · exact .more (g.sound _ hh) hx
  unfold Chain.vis
  split
  · exact g
  · rename_i e
    have ne : x ∉ keys s.2 := fun hk => e (isAt_keys.2 hk)
    refine ⟨fun y hy => ?_, fun y hy => ?_, ?_, fun y hy => ?_⟩
    · rw [keys_snoc] at hy
      rcases List.mem_append.1 hy with hy | hy
      · exact g.sound y hy
      · simp at hy; subst hy; exact hr
    · rw [keys_snoc]
      rcases List.mem_append.1 hy with hy | hy
      · rcases g.queue y hy with hq | hq
        · exact .inl hq
        · exact .inr (List.mem_append_left _ hq)
      · simp at hy; subst hy; exact .inr (by simp)
    · rw [keys_snoc]
      rw [List.nodup_append]
      refine ⟨g.nodup, by simp, fun y hy z hz => ?_⟩
      simp at hz
      subst hz
      exact fun e2 => ne (e2 ▸ hy)
    · rw [keys_snoc] at hy
      rcases List.mem_append.1 hy with hy | hy
      · exact g.inside y hy
      · simp at hy; subst hy; exact List.mem_map.2 ⟨_, hx, rfl⟩
theorem Good.visAll {m : Ps} {a h : Int} : ∀ (xs : List Int) (s : St), Good m a s → (h = a ∨ h ∈ keys s.2) → (∀ x ∈ xs, (h, x) ∈ m) → Good m a (visAll h s xs)
  | [], _, g, _, _ => g
  | x :: xs, s, g, hh, hx => Good.visAll xs (Chain.vis h s x) (g.vis hh (hx x (by simp))) (hh.imp id (vis_keeps h)) (fun y hy => hx y (by simp [hy]))
/-- One round: the head's lower contexts are found. -/
def round (m : Ps) : St → St
  | ([], pv) => ([], pv)
  | (h :: t, pv) => ((visAll h (h :: t, pv) (lows m h)).1.tail, (visAll h (h :: t, pv) (lows m h)).2)
structure Inv (m : Ps) (a : Int) (s : St) : Prop where
  good : Good m a s
  done : ∀ x, x = a ∨ x ∈ keys s.2 → x ∈ s.1 ∨ ∀ y ∈ lows m x, y ∈ keys s.2
theorem inv_start (m : Ps) (a : Int) : Inv m a ([a], []) :=
  ⟨⟨by simp [keys], by simp, by simp [keys], by simp [keys]⟩, fun x hx => by
    rcases hx with rfl | hx
    · exact .inl (by simp)
    · simp [keys] at hx⟩
theorem Inv.next {m : Ps} {a h : Int} {t : List Int} {pv : Ps} (i : Inv m a (h :: t, pv)) : Inv m a ((visAll h (h :: t, pv) (lows m h)).1.tail, (visAll h (h :: t, pv) (lows m h)).2) := by
  have hh := i.good.queue h (by simp)
  have g := i.good.visAll (lows m h) _ hh (fun x hx => mem_lows.1 hx)
  have hk := fun y hy => visAll_keeps (h := h) (lows m h) (h :: t, pv) y hy
  obtain ⟨u, hu, _⟩ := visAll_queue (h := h) (lows m h) (h :: t, pv)
  have htail : (visAll h (h :: t, pv) (lows m h)).1.tail = t ++ u := by rw [hu]; rfl
  refine ⟨⟨g.sound, fun x hx => g.queue x (List.mem_of_mem_tail hx), g.nodup, g.inside⟩, fun x hx => ?_⟩
  by_cases e : x = h
  · subst e
    exact .inr fun y hy => visAll_has _ _ y hy
  · by_cases ho : x = a ∨ x ∈ keys pv
    · rcases i.done x ho with hq | hd
      · left
        rw [htail]
        rcases List.mem_cons.1 hq with hq | hq
        · exact absurd hq e
        · exact List.mem_append_left _ hq
      · exact .inr fun y hy => hk y (hd y hy)
    · left
      have hx2 : x ∈ keys (visAll h (h :: t, pv) (lows m h)).2 := by
        rcases hx with hx | hx
        · exact absurd (.inl hx) ho
        · exact hx
      have key : ∀ (xs : List Int) (s : St), x ∉ keys s.2 → x ∈ keys (visAll h s xs).2 → x ∈ (visAll h s xs).1 := by
        intro xs
        induction xs with
        | nil => intro s h1 h2; exact absurd h2 h1
        | cons y ys ih =>
          intro s h1 h2
          by_cases e2 : x ∈ keys (vis h s y).2
          · obtain ⟨v, hv, _⟩ := visAll_queue (h := h) ys (vis h s y)
            show x ∈ (visAll h (vis h s y) ys).1
            rw [hv]
            apply List.mem_append_left
            unfold vis at e2 ⊢
            split at e2
            · exact absurd e2 h1
            · rename_i e3
              rw [if_neg e3]
              rw [keys_snoc] at e2
              rcases List.mem_append.1 e2 with e2 | e2
              · exact absurd e2 h1
              · simp at e2; subst e2; simp
          · exact ih (vis h s y) e2 h2
      have := key (lows m h) (h :: t, pv) (fun hc => ho (.inr hc)) hx2
      rw [hu] at this
      rw [htail]
      rcases List.mem_append.1 this with hq | hq
      · rcases List.mem_cons.1 hq with hq | hq
        · exact absurd hq e
        · exact List.mem_append_left _ hq
      · exact List.mem_append_right _ hq
theorem Inv.end {m : Ps} {a : Int} {pv : Ps} (i : Inv m a ([], pv)) (x : Int) : x ∈ keys pv ↔ Reach m a x := by
  refine ⟨i.good.sound x, fun r => ?_⟩
  induction r with
  | one e =>
    rcases i.done a (.inl rfl) with h | h
    · cases h
    · exact h _ (mem_lows.2 e)
  | more _ e ih =>
    rcases i.done _ (.inr ih) with h | h
    · cases h
    · exact h _ (mem_lows.2 e)
theorem nodup_le : ∀ (a b : List Int), a.Nodup → (∀ x ∈ a, x ∈ b) → a.length ≤ b.length
  | [], _, _, _ => Nat.zero_le _
  | x :: a, b, h, hs => by
    rw [List.nodup_cons] at h
    have hx := hs x (by simp)
    have := nodup_le a (b.erase x) h.2 (fun y hy => by
      have hne : y ≠ x := fun e => h.1 (e ▸ hy)
      exact (List.mem_erase_of_ne hne).2 (hs y (by simp [hy])))
    rw [List.length_erase_of_mem hx] at this
    have := List.length_pos_of_mem hx
    simp
    omega
theorem Good.few {m : Ps} {a : Int} {s : St} (g : Good m a s) : s.2.length ≤ m.length := by
  have := nodup_le _ _ g.nodup g.inside
  unfold keys at this
  simpa using this
end Go.Proofs.Ytmjhgjlnpnkmkaa.Chain
