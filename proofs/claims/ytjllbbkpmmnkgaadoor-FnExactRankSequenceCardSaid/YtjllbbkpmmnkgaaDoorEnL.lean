/- Leaving a function that holds ranges over functions in a loop: its marks, one after another. -/
import Derived.Test.YtjllbbkpmmnkgaaDoorRgF
namespace Go.Proofs.YtjllbbkpmmnkgaaDoor.EnL
open Go.RowKit RgF
set_option linter.unusedVariables false
def mrk (D : Nat) : Deferred := { target := .collected D, args := #[] }
def Turned (Ds : List Nat) (W W' : World) : Prop := (∀ k, k ∉ Ds → W'.heap[k]? = W.heap[k]?) ∧ ∀ w : World, Below w.heap.size w W → (∀ D ∈ Ds, w.heap.size ≤ D) → Below w.heap.size w W'
theorem leaves_all {F : Fence} {n : Nat} {P : Program} {fn : Func} {tmps : Array Value} {R : Ending → World → Prop} : ∀ (Ds : List Nat) (W : World), Ds.Nodup → (∀ D ∈ Ds, W.heap[D]? = some (.deferred (some []))) →
    (∀ W', Turned Ds W W' → LeavesInM F n P fn tmps R [] .returning W') → LeavesInM F n P fn tmps R (Ds.map mrk) .returning W
  | [], W, _, _, h => h W ⟨fun _ _ => rfl, fun _ hb _ => hb⟩
  | D :: r, W, hn, hd, h => by
    have hD := hd D (by simp)
    obtain ⟨h1, h2⟩ := List.nodup_cons.1 hn
    refine ⟨by simp, .inl ⟨D, _, rfl, run_takeDeferred hD, ?_⟩⟩
    refine leaves_all r _ h2 (fun E hE => ?_) (fun W' hT => h W' ⟨fun k hk => ?_, fun w hb hle => ?_⟩)
    · have : E ≠ D := fun e => h1 (by rw [← e]; exact hE)
      exact (World.putObj_heap_other this).trans (hd E (by simp [hE]))
    · have e1 : k ≠ D := fun e => hk (by simp [e])
      exact (hT.1 k (fun e => hk (by simp [e]))).trans (World.putObj_heap_other e1)
    · exact hT.2 w (hb.trans (belowK_b (w := w) (Nat.le_refl _) W D _ _ (hle D (by simp)) hD rfl rfl)) (fun E hE => hle E (by simp [hE]))
/-- Old blocks that are no cells lie as they lay. -/
theorem bears_old {β : Type} {b B k : Nat} (o : Obj) (hk : k < b) (hne : k ≠ B) : BearsC b B (fun (_ : β) W => W.heap[k]? = some o) :=
  fun s W W' row hs hg hr => by
    refine (hg.block k (Array.getElem?_eq_some_iff.1 hs).1 (fun e => ?_)).trans hs
    rcases hr k e.symm with h | ⟨h, _⟩
    · exact hne h
    · omega
theorem bears_all {β : Type} {b B : Nat} (Ds : List Nat) (o : Obj) (h : ∀ D ∈ Ds, D < b ∧ D ≠ B) : BearsC b B (fun (_ : β) W => ∀ D ∈ Ds, W.heap[D]? = some o) :=
  fun s W W' row hs hg hr D hD => bears_old (β := β) o (h D hD).1 (h D hD).2 s W W' row (hs D hD) hg hr
theorem bears_ex {β γ : Type} {b B k : Nat} (f : γ → Obj) (hf : ∀ s, (f s).isCells = true) (Φ : β → γ → Prop) (hne : k ≠ B) : BearsC b B (fun (s : β) W => ∃ C, W.heap[k]? = some (f C) ∧ Φ s C) :=
  fun s W W' row ⟨C, hs, hc⟩ hg hr => ⟨C, bears_block (fun _ => f C) (fun _ => hf C) hne s W W' row hs hg hr, hc⟩
end Go.Proofs.YtjllbbkpmmnkgaaDoor.EnL
