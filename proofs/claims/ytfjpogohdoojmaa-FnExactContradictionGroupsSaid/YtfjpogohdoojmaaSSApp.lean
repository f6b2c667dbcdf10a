/- A row more, for rows of rows that lie in a variable. -/
import Derived.Test.YtfjpogohdoojmaaSS
import Derived.Test.YtfjpogohdoojmaaThat
namespace Go.Proofs.Ytfjpogohdoojmaa.SSApp
open Go.RowKit Pairs Rec Keep GivesI That
theorem infoSlice : (Try.prog.info? 29).map (fun i => (i.zero, i.size, i.bytes)) = some (some (.slice none 0 0), 1, 24) := by kernel_rfl
theorem kept_row {X w1 : World} {B e s : Nat} {v : Value} {n : Nat} {xs : List Value} {row : Option Nat} (h : X.ownsRow B e s v n xs) (hg : X.grownBy w1 row) (hne : ∀ b, v.ownBlock = some b → row ≠ some b) : w1.ownsRow B e s v n xs := by
  refine World.ownsRow.kept (w := X) h hg ?_
  cases hv : v.ownBlock with
  | none => exact .inl rfl
  | some b => exact .inr (fun e => hne b hv e.symm)
/-- A row more, for rows that lie in a variable. -/
theorem ownSS_app {V X w1 : World} {B : Nat} {p : Option Addr} {d : Nat} {R : List (List Int)} {vs : List Value} (h : SS.OwnSS V B p R.length d R vs) (hB : B ≤ V.heap.size) (hX : Below V.heap.size V X) {pr : Option Addr} {dr : Nat} {r : List Int}
    (hr : X.ownsRow V.heap.size 3 1 (.slice pr r.length dr) r.length (ints r)) {g9 cap : Nat} (hown : w1.ownsRow B 29 1 (.slice (some ⟨g9, 0, none⟩) (R.length + 1) cap) (R.length + 1) (vs ++ [.slice pr r.length dr]))
    (hgrow : X.grownBy w1 (Value.slice p R.length d).ownBlock) (hat : (Value.slice p R.length d).ownBlock = some g9 ∨ X.heap.size ≤ g9) :
    SS.OwnSS w1 B (some ⟨g9, 0, none⟩) (R.length + 1) cap (R ++ [r]) (vs ++ [.slice pr r.length dr]) := by
  have hXs := hX.size
  have hg9 : ∀ b, (Value.slice (some ⟨g9, 0, none⟩) (R.length + 1) cap).ownBlock = some b → b = g9 := fun b hb => by simpa [Value.ownBlock] using hb.symm
  have hinl : ∀ b, SS.Inner vs b → b < V.heap.size := fun b hb => (h.inner hb).2
  have hrb : ∀ b, (Value.slice pr r.length dr).ownBlock = some b → V.heap.size ≤ b ∧ b < X.heap.size := fun b hb => hr.lt b hb
  have hout : ∀ b, (Value.slice p R.length d).ownBlock = some b → b < V.heap.size := fun b hb => (h.out.lt b hb).2
  have hlen : (R ++ [r]).length = R.length + 1 := by simp
  have hvl := h.vlen
  have get : ∀ (i : Nat) (v : Value), (vs ++ [Value.slice pr r.length dr])[i]? = some v → (i < R.length ∧ vs[i]? = some v) ∨ (i = R.length ∧ v = .slice pr r.length dr) := fun i v hv => by
    rcases Nat.lt_or_ge i R.length with hi | hi
    · rw [List.getElem?_append_left (by omega)] at hv
      exact .inl ⟨hi, hv⟩
    · rw [List.getElem?_append_right (by omega), hvl] at hv
      have hi2 : i < R.length + 1 := by
        rcases Nat.lt_or_ge (i - R.length) 1 with h1 | h1
        · omega
        · rw [List.getElem?_eq_none (by simpa using h1)] at hv
          cases hv
      have e : i = R.length := by omega
      subst e
      rw [Nat.sub_self] at hv
      injection hv with hv
      exact .inr ⟨rfl, hv.symm⟩
  refine ⟨hown, hlen, fun i s hs => ?_, fun i v b hv hb => ?_, fun i j u v b hu hv hbu hbv => ?_⟩
  · rcases Nat.lt_or_ge i R.length with hi | hi
    · rw [List.getElem?_append_left hi] at hs
      obtain ⟨pi, di, h1, h2⟩ := h.row i s hs
      exact ⟨pi, di, by rw [List.getElem?_append_left (by omega)]; exact h1, kept_row (ownsRow_below h2 hX) hgrow (fun b hb => h.far i _ b h1 hb)⟩
    · have hi2 : i = R.length := by
        have := (List.getElem?_eq_some_iff.1 hs).1
        rw [hlen] at this
        omega
      subst hi2
      rw [List.getElem?_append_right (Nat.le_refl _), Nat.sub_self] at hs
      injection hs with hs
      subst hs
      exact ⟨pr, dr, by rw [List.getElem?_append_right (by omega), hvl, Nat.sub_self]; rfl, kept_row (ownsRow_base hr hB) hgrow (fun b hb e => by have h1 := (hrb b hb).1; have h2 := hout b e; omega)⟩
  · intro e
    have e2 := hg9 b e
    subst e2
    rcases get i v hv with ⟨_, hv⟩ | ⟨_, hv⟩
    · rcases hat with hat | hat
      · exact h.far i v _ hv hb hat
      · have := hinl _ ⟨i, v, hv, hb⟩
        omega
    · subst hv
      have h1 := hrb _ hb
      rcases hat with hat | hat
      · have := hout _ hat
        omega
      · omega
  · rcases get i u hu with ⟨h1, hu⟩ | ⟨h1, hu⟩ <;> rcases get j v hv with ⟨h2, hv⟩ | ⟨h2, hv⟩
    · exact h.apart i j u v b hu hv hbu hbv
    · subst hv
      have e1 := hinl b ⟨i, u, hu, hbu⟩
      have e2 := (hrb b hbv).1
      omega
    · subst hu
      have e1 := hinl b ⟨j, v, hv, hbv⟩
      have e2 := (hrb b hbu).1
      omega
    · omega
theorem g1_app {B : Nat} {w wr X w9 : World} {v : Value} {L : List Int} {x : Int} {g9 cap9 : Nat} (h : That.G1 B w wr v L) (hs : B ≤ wr.heap.size) (hX : Below wr.heap.size wr X)
    (hown' : w9.ownsRow B 3 1 (.slice (some ⟨g9, 0, none⟩) (L.length + 1) cap9) (L.length + 1) (ints L ++ [.int .i64 x])) (hgrow : X.grownBy w9 v.ownBlock) : That.G1 B w w9 (.slice (some ⟨g9, 0, none⟩) (L.length + 1) cap9) (L ++ [x]) := by
  have hsx := hX.size
  refine ⟨?_, (h.2.trans (hX.mono hs)).grown hgrow (by omega) (fun j hj => (h.1.lt j hj).1)⟩
  rw [List.length_append, That.ints_append]
  exact hown'
end Go.Proofs.Ytfjpogohdoojmaa.SSApp
