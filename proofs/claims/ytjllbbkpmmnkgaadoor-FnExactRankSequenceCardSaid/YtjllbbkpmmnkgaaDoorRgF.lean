/- A range over a function whose iterator keeps its state in a cell of its own (block B): one law for the caller, and the contract that the iterator owes. -/
import Derived.RangeFuncNested
import Derived.RangeFuncLeaves
import Derived.Test.YtjllbbkpmmnkgaaDoorGivesI
namespace Go.Proofs.YtjllbbkpmmnkgaaDoor.RgF
open Go.RowKit
set_option linter.unusedVariables false
/-- It bears new blocks and whatever turns block B. -/
def Bears {β : Type} (B : Nat) (J : β → World → Prop) : Prop := ∀ s W W' row, J s W → W.grownBy W' row → (∀ r, row = some r → r = B) → J s W'
/-- The caller's: it bears besides that a block that is no cells, from b on, is turned. -/
def BearsC {β : Type} (b B : Nat) (J : β → World → Prop) : Prop := ∀ s W W' row, J s W → W.grownBy W' row → (∀ r, row = some r → r = B ∨ (b ≤ r ∧ ∃ o : Obj, W.heap[r]? = some o ∧ o.isCells = false)) → J s W'
theorem BearsC.put {β : Type} {b B : Nat} {J : β → World → Prop} (h : BearsC b B J) {s : β} {W : World} {l : Nat} {o : Obj} (o' : Obj) (hs : J s W) (hl : b ≤ l) (ho : W.heap[l]? = some o) (hc : o.isCells = false) : J s (W.putObj l o') :=
  h s W _ (some l) hs (grownBy_putObj' W l o') (fun r e => by cases e; exact .inr ⟨hl, o, ho, hc⟩)
theorem BearsC.new {β : Type} {b B : Nat} {J : β → World → Prop} (h : BearsC b B J) {s : β} {W : World} (o : Obj) (hs : J s W) : J s (W.alloc o) :=
  h s W _ none hs (World.grownBy_alloc W o none) (fun r e => by cases e)
theorem BearsC.and {β : Type} {b B : Nat} {J K : β → World → Prop} (h : BearsC b B J) (k : BearsC b B K) : BearsC b B (fun s W => J s W ∧ K s W) :=
  fun s W W' row hs hg hr => ⟨h s W W' row hs.1 hg hr, k s W W' row hs.2 hg hr⟩
/-- What lies below n₀ lies as it lay: with n₀ ≤ B and n₀ ≤ b. -/
theorem bears_below {β : Type} {b B n₀ : Nat} {w : World} (hn : n₀ ≤ w.heap.size) (hb : n₀ ≤ b) (hB : n₀ ≤ B) : BearsC b B (fun (_ : β) W => Below n₀ w W) :=
  fun s W W' row hs hg hr => hs.grown hg (Nat.le_trans hn hs.size) (fun k e => by rcases hr k e with h | h; omega; have := h.1; omega)
/-- A block of cells other than B lies as it lay. -/
theorem bears_block {β : Type} {b B k : Nat} (f : β → Obj) (hf : ∀ s, (f s).isCells = true) (hne : k ≠ B) : BearsC b B (fun (s : β) W => W.heap[k]? = some (f s)) :=
  fun s W W' row hs hg hr => by
    refine (hg.block k (Array.getElem?_eq_some_iff.1 hs).1 (fun e => ?_)).trans hs
    rcases hr k e.symm with h | ⟨_, o, ho, hc⟩
    · exact hne h
    · rw [hs] at ho
      injection ho with ho
      rw [← ho, hf s] at hc
      cases hc
/-- The contract of the iterator: the numbers of S, one a round. -/
def SeqB (F : Fence) (n : Nat) (P : Program) (g : Nat) (lb : Array Value) (B : Nat) (o : Obj) (S : List Nat) (V : World → Prop) : Prop :=
  ∀ (l : Nat) (J Jx : List Nat → World → Prop) (W : World), W.heap[B]? = some o → Bears B J → Bears B Jx → (∀ s W1, J s W1 → V W1) →
    (∀ (pre : List Nat) (x : Nat) (W1 : World), J pre W1 → pre ++ [x] <+: S → YieldAt F (n - 1) P l #[.int .i64 (x : Int)] W1 fun e W' =>
      (e = .returned (.bool true) ∧ J (pre ++ [x]) W' ∧ W'.heap[B]? = W1.heap[B]?) ∨ (e = .returned (.bool false) ∧ Jx (pre ++ [x]) W')) →
    J [] W →
    CallsIn F n P g (#[.func (.yield l) #[] #[]] ++ lb) W fun e W' => (∃ v, e = .returned v) ∧ (J S W' ∨ ∃ pre, pre <+: S ∧ Jx pre W')
def Post (b B : Nat) (I : List Nat → World → Prop) (Ix : Code → List Nat → World → Prop) (xs : List Nat) (W : World) : Exit → Act → World → Prop
  | .normal, _, W' => KeepsFrom b W W' ∧ W'.heap[B]? = W.heap[B]? ∧ I xs W'
  | .ret, _, W' => KeepsFrom b W W' ∧ Ix .ret xs W'
  | .exit id, _, W' => KeepsFrom b W W' ∧ Ix (.exit id) xs W'
  | .goto _, _, _ => False
  | .panic _, _, _ => False
  | .outgrown, _, _ => False
theorem range_own {F : Fence} {n : Nat} {P : Program} {g : Operand} {p : Tmp} {assign body : Code} {Q : Exit → Act → World → Prop} {a : Act} {w : World} {B : Nat} {ob : Obj} {S : List Nat} {V : World → Prop}
    (hro : F.round = none) (h1 : 1 ≤ n) {gf : Nat} {lb : Array Value} (hg : a.eval g = .func (.func gf) #[] lb) (hFg : F.fn gf) (eg : ∀ args w, (callFunc gf args).run P w = .ok (.enter gf args) w)
    (hseq : SeqB F (n - 1) P gf lb B ob S V) (hob : w.heap[B]? = some ob)
    (I : List Nat → World → Prop) (Ix : Code → List Nat → World → Prop) (hI : BearsC w.heap.size B I) (hIx : ∀ c, BearsC w.heap.size B (Ix c)) (hIV : ∀ s W, I s W → V W) (h0 : I [] w) (a₁ : Nat → Act)
    (hassign : ∀ (l : Nat) (x : Nat) (W : World) (K : Act → World → Prop), K (a₁ x) W →
      assign.wpIn (F.inRound l) (n - 1 - 1) P (Exit.then K (fun _ _ _ => False)) { tmps := (#[p].zip #[Value.int .i64 (x : Int)]).foldl (fun t (p, v) => t.setIfInBounds p v) a.tmps, defers := [] } W)
    (hbody : ∀ (l : Nat) (pre : List Nat) (x : Nat) (W : World), I pre W → pre ++ [x] <+: S → w.heap.size ≤ W.heap.size → body.wpIn (F.inRound l) (n - 1 - 1) P (Post w.heap.size B I Ix (pre ++ [x]) W) (a₁ x) W)
    (hdone : ∀ (D : Nat) (W : World), w.heap.size ≤ D → I S W → W.heap[D]? = some (.deferred (some [])) → Q .normal { a with defers := { target := .collected D, args := #[] } :: a.defers } W)
    (hstop : ∀ (D : Nat) (c : Code) (pre : List Nat) (W : World), w.heap.size ≤ D → pre <+: S → Ix c pre W → W.heap[D]? = some (.deferred (some [])) → c.wpIn F n P Q { a with defers := { target := .collected D, args := #[] } :: a.defers } W) :
    (Code.rangeFunc g #[p] assign body).wpIn F n P Q a w := by
  have hBw : B < w.heap.size := (Array.getElem?_eq_some_iff.1 hob).1
  refine wpIn_rangeFunc fun fn hfn => ?_
  rw [hro]
  obtain ⟨D, hD⟩ : ∃ D, D = w.heap.size := ⟨_, rfl⟩
  obtain ⟨l, hl⟩ : ∃ l, l = w.heap.size + 1 := ⟨_, rfl⟩
  obtain ⟨R, hR⟩ : ∃ R : LoopState → Option Code → Loop, R = fun st pe => { state := st, pending := pe, fn, tmps := a.tmps, params := #[p], assign, body, defers := w.heap.size } := ⟨_, rfl⟩
  -- the two facts of book-keeping
  have bkA : ∀ st pe, (Obj.loop (R st pe)).isCells = false := fun _ _ => rfl
  let Bk : LoopState → Option Code → World → Prop := fun st pe W => W.heap[l]? = some (.loop (R st pe)) ∧ W.heap[D]? = some (.deferred (some []))
  obtain ⟨W1, hW1⟩ : ∃ W1, (w.alloc (.deferred (some []))).alloc (.loop (R .ready none)) = W1 := ⟨_, rfl⟩
  have k1 : Bk .ready none W1 := by
    constructor
    · rw [← hW1, hl]
      have := World.alloc_heap_new (w.alloc (.deferred (some []))) (.loop (R .ready none))
      rwa [World.size_alloc] at this
    · rw [← hW1, hD]
      exact (Below.heap_alloc _ _ _ (by simp)).trans (World.alloc_heap_new w _)
  have hI1 : I [] W1 := by rw [← hW1]; exact hI.new _ (hI.new _ h0)
  have hob1 : W1.heap[B]? = some ob := by
    rw [← hW1, Below.heap_alloc _ _ _ (by simp; omega), Below.heap_alloc _ _ _ hBw]
    exact hob
  have hsz1 : w.heap.size ≤ W1.heap.size := by rw [← hW1]; simp; omega
  refine ⟨l, [{ target := .collected D, args := #[] }], W1, { target := .fn (.func gf) lb, args := #[.func (.yield l) #[] #[]] }, W1, gf, #[.func (.yield l) #[] #[]] ++ lb, W1, ?_, ?_, ?_, ?_, fun _ => h1, ?_⟩
  · rw [← hW1, hR, hl, hD]
    exact run_enterLoop_outer _ _ _ _ _
  · simp only [resolve, hg]
    simp [go_sem]
  · intro f' hf'
    simp [Target.leads] at hf'
    subst hf'
    exact hFg
  · simp [invoke, go_sem, eg]
  -- turning the record keeps the rest
  have turn : ∀ {st pe st' pe'} {W : World}, Bk st pe W → Bk st' pe' (W.putObj l (.loop (R st' pe'))) := fun h =>
    ⟨World.putObj_heap_same (Array.getElem?_eq_some_iff.1 h.1).1, (World.putObj_heap_other (by omega)).trans h.2⟩
  have keep : ∀ {st pe} {W W' : World} {row : Option Nat}, Bk st pe W → W.grownBy W' row → (∀ r, row = some r → r = B) → Bk st pe W' := fun h hg' hr =>
    ⟨(hg'.block l (Array.getElem?_eq_some_iff.1 h.1).1 (fun e => by have := hr l e.symm; omega)).trans h.1, (hg'.block D (Array.getElem?_eq_some_iff.1 h.2).1 (fun e => by have := hr D e.symm; omega)).trans h.2⟩
  refine (hseq l (fun pre W => I pre W ∧ Bk .ready none W ∧ w.heap.size ≤ W.heap.size) (fun pre W => ∃ c, Ix c pre W ∧ Bk .done (some c) W) W1 hob1
    (fun s X Y row hs hg' hr => ⟨hI s X Y row hs.1 hg' (fun r e => .inl (hr r e)), keep hs.2.1 hg' hr, Nat.le_trans hs.2.2 hg'.size⟩)
    (fun s X Y row ⟨c, hc, hk⟩ hg' hr => ⟨c, hIx c s X Y row hc hg' (fun r e => .inl (hr r e)), keep hk hg' hr⟩) (fun s X h => hIV s X h.1) ?_ ⟨hI1, k1, hsz1⟩).mono ?_
  · -- one round
    rintro pre x W ⟨hi, hk, hsz⟩ hpre
    have hy := run_yield (P := P) (args := #[.int .i64 (x : Int)]) hk.1 (by rw [hR]; rfl)
    rw [hR] at hy
    have hb := run_beginRound (P := P) hk.1 (by rw [hR])
    rw [show ({ R .ready none with state := .busy } : Loop) = R .busy none by rw [hR]] at hb
    refine ⟨fn, _, assign, body, hy, roundIn_of_wpIn hfn (hassign l x W _ ⟨_, hb, ?_⟩)⟩
    have hk2 := turn (st' := .busy) (pe' := none) hk
    have hi2 := hI.put (.loop (R .busy none)) hi (by omega) hk.1 (bkA _ _)
    have hB2 : (W.putObj l (.loop (R .busy none))).heap[B]? = W.heap[B]? := World.putObj_heap_other (by omega)
    have hs2 : w.heap.size ≤ (W.putObj l (.loop (R .busy none))).heap.size := by simpa using hsz
    refine wpIn_mono (hbody l pre x _ hi2 hpre hs2) ?_
    generalize W.putObj l (.loop (R .busy none)) = W2 at *
    have fin : ∀ (j : Option Code) (W3 : World), KeepsFrom w.heap.size W2 W3 → Bk .busy none W3 ∧ (Instr.endRound l j).run P W3 = .ok (.bool j.isNone) (W3.putObj l (.loop (R (if j.isNone then .ready else .done) j))) := fun j W3 hk3 => by
      have h3 : Bk .busy none W3 := ⟨hk3.same _ _ (by omega) hk2.1 (bkA _ _), hk3.same _ _ (by omega) hk2.2 rfl⟩
      refine ⟨h3, ?_⟩
      have := run_endRound (P := P) j h3.1
      rw [hR] at this ⊢
      exact this
    rintro e a3 W3 hp
    cases e with
    | normal =>
      obtain ⟨hk3, hb3, hi3⟩ := hp
      obtain ⟨h3, hr⟩ := fin none W3 hk3
      exact ⟨_, _, hr, .inl ⟨rfl, ⟨hI.put _ hi3 (by omega) h3.1 (bkA _ _), turn h3, by simpa using Nat.le_trans hs2 hk3.size⟩, ((World.putObj_heap_other (by omega)).trans hb3).trans hB2⟩⟩
    | ret =>
      obtain ⟨hk3, hi3⟩ := hp
      obtain ⟨h3, hr⟩ := fin (some .ret) W3 hk3
      exact ⟨_, _, hr, .inr ⟨rfl, .ret, (hIx _).put _ hi3 (by omega) h3.1 (bkA _ _), turn h3⟩⟩
    | exit id =>
      obtain ⟨hk3, hi3⟩ := hp
      obtain ⟨h3, hr⟩ := fin (some (.exit id)) W3 hk3
      exact ⟨_, _, hr, .inr ⟨rfl, .exit id, (hIx _).put _ hi3 (by omega) h3.1 (bkA _ _), turn h3⟩⟩
    | goto t => exact hp.elim
    | panic ch => exact hp.elim
    | outgrown => exact hp.elim
  · -- behind the iterator
    rintro e W2 ⟨⟨v, rfl⟩, hJ⟩
    have last : ∀ (st : LoopState) (pe : Option Code), st ≠ .busy → Bk st pe W2 → (Instr.endLoop l).run P W2 = .ok pe (W2.putObj l (.loop (R .exhausted pe))) := fun st pe hst h => by
      have := run_endLoop (P := P) h.1 (by rw [hR]; exact hst)
      rw [hR] at this ⊢
      exact this
    rcases hJ with ⟨hi, hk, _⟩ | ⟨pre, hpre, c, hi, hk⟩
    · exact ⟨none, _, last _ _ (by simp) hk, hdone D _ (by omega) (hI.put _ hi (by omega) hk.1 (bkA _ _)) ((World.putObj_heap_other (by omega)).trans hk.2)⟩
    · exact ⟨some c, _, last _ _ (by simp) hk, hstop D c pre _ (by omega) hpre ((hIx c).put _ hi (by omega) hk.1 (bkA _ _)) ((World.putObj_heap_other (by omega)).trans hk.2)⟩
end Go.Proofs.YtjllbbkpmmnkgaaDoor.RgF
