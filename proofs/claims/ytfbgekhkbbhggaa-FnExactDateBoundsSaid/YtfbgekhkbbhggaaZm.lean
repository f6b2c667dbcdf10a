/- The laws' marks on rows of distributions and on dated records: which blocks they turn. -/
import Derived.Test.YtfbgekhkbbhggaaDr
import Derived.WalkLawsBesides
namespace Go.Proofs.Ytfbgekhkbbhggaa.Zm
open Go.RowKit Pairs Rec Keep GivesI Zh Dr
set_option linter.unusedVariables false
/-- A row of n cells that may be written, whatever they hold. -/
def Free (w : World) (g n : Nat) : Prop := ∀ j, j < n → (∃ v, w.cell? ⟨g, j, none⟩ = some v) ∧ w.frozen? ⟨g, j, none⟩ = false
theorem Free.below {w w' : World} {g n : Nat} (h : Free w g n) (hb : Below w.heap.size w w') : Free w' g n := fun j hj => by
  obtain ⟨⟨v, hv⟩, hf⟩ := h j hj
  have hlt := World.block_lt_of_cell? w _ hv
  exact ⟨⟨v, (hb.cell (p := ⟨g, j, none⟩) hlt).trans hv⟩, (hb.frozen (p := ⟨g, j, none⟩) hlt).trans hf⟩
theorem Free.set {w : World} {g n : Nat} (h : Free w g n) (a : Addr) (u : Value) : Free (w.setCell a u) g n := fun j hj => by
  obtain ⟨⟨v, hv⟩, hf⟩ := h j hj
  refine ⟨?_, by rw [World.frozen?_setCell]; exact hf⟩
  by_cases e : a = ⟨g, j, none⟩
  · subst e
    exact ⟨u, World.cell?_setCell_same _ _ _ hv⟩
  · exact ⟨v, (World.cell?_setCell_other _ _ _ _ e).trans hv⟩
theorem Free.of_row {w : World} {B g n : Nat} {ys : List Value} (h : w.ownsRow B 3 1 (.slice (some ⟨g, 0, none⟩) n n) n ys) : Free w g n := fun j hj => by
  have hlen : ys.length = n * 1 := h.1
  refine ⟨⟨ys[j], ?_⟩, h.frozenAt j⟩
  rw [h.cellAt j (by omega), List.getElem?_eq_getElem (by omega)]
def Frees (w w' : World) : Prop := ∀ g m, Free w g m → Free w' g m
set_option maxRecDepth 100000 in
set_option maxHeartbeats 1000000 in
/-- markIntS on such a row: nothing but the row is turned. -/
theorem markI_any (g n c : Nat) (k : Int) (hk0 : 0 ≤ k) (hk1 : k ≤ 10000000) (hz : n ≤ 1048576) (w : World) (h : Free w g n) :
    Calls Try.prog 33 #[.slice (some ⟨g, 0, none⟩) n c, .int .i64 k] w fun e w' => e = .returned (.int .i64 (k + n)) ∧ Kept (fun b => b = g) w w' ∧ Frees w w' := by
  have HF := Lib.hid h
  clear h
  go_enter Try.func33, Try.ntmps33
  go_wp2_with fail
  go_loopw [1, 5] (fun s1 s5 wr => ∃ j : Nat, j ≤ n ∧ s5 = .int .i64 j ∧ s1 = .int .i64 (k + j) ∧ Hid (Kept (fun b => b = g) w wr ∧ Frees w wr)) (fun _ s5 _ => n - (intOf s5).toNat)
  case atStart => exact ⟨0, Nat.zero_le _, rfl, by simp, Kept.refl _ _, fun _ _ h => h⟩
  case round =>
    obtain ⟨j, hj, rfl, rfl, HR⟩ := hrel
    by_cases hlt : j < n
    · have hi : (j : Int) < (n : Int) := by omega
      obtain ⟨⟨v0, hv0⟩, hf0⟩ := HR.out.2 g n HF.out j hlt
      have HR2 : Hid (Kept (fun b => b = g) w (wr.setCell ⟨g, j, none⟩ (.int .i64 (k + j))) ∧ Frees w (wr.setCell ⟨g, j, none⟩ (.int .i64 (k + j)))) := ⟨HR.out.1.setCell (g := g) rfl _, fun g' m h => (HR.out.2 g' m h).set _ _⟩
      go_wp2_with fail
      exact ⟨⟨j + 1, by omega, by go_num, by go_num, HR2⟩, by simp [intOf]; omega⟩
    · obtain rfl : j = n := by omega
      have HE := Lib.hid HR.out
      go_wp2_with fail
      go_ret
      exact ⟨rfl, HE.out⟩
/-- What a marking of distributions needs: the row, and rows of members of their own blocks, from B on and ahead of D. -/
def MkP (B D : Nat) (w : World) (g n : Nat) (L : List Pt) : Prop :=
  L.length = n ∧ B ≤ g ∧ g < D ∧ Free w g (n * 2) ∧ ∀ (i : Nat) (x : Pt), L[i]? = some x → ∃ gi : Nat, gi ≠ g ∧ B ≤ gi ∧ gi < D ∧ w.cell? ⟨g, i * 2 + 1, none⟩ = some (.slice (some ⟨gi, 0, none⟩) x.2.length x.2.length) ∧ Free w gi x.2.length
theorem mkP_of {B : Nat} {w : World} {g n : Nat} {L : List Pt} (h : ZhT.OwnP B w g n L n) (hl : L.length = n) : MkP B w.heap.size w g n L := by
  refine ⟨hl, h.lt.1, h.lt.2, h.facts, fun i x hx => ?_⟩
  obtain ⟨ys, h1, h2⟩ := h
  have hlen : ys.length = n * 2 := h1.1
  have hil := (List.getElem?_eq_some_iff.1 hx).1
  obtain ⟨e1, gi, e2, e3, e4⟩ := h2 i x (by omega) hx
  exact ⟨gi, e3, (e4.lt gi rfl).1, (e4.lt gi rfl).2, by rw [h1.cellAt _ (by omega)]; exact e2, Free.of_row e4⟩
theorem MkP.below {B D : Nat} {w w' : World} {g n : Nat} {L : List Pt} (h : MkP B D w g n L) (hb : Below w.heap.size w w') : MkP B D w' g n L :=
  ⟨h.1, h.2.1, h.2.2.1, h.2.2.2.1.below hb, fun i x hx => by
    obtain ⟨gi, h1, h2, h3, h4, h5⟩ := h.2.2.2.2 i x hx
    exact ⟨gi, h1, h2, h3, (hb.cell (p := ⟨g, i * 2 + 1, none⟩) (World.block_lt_of_cell? w _ h4)).trans h4, h5.below hb⟩⟩
theorem MkP.kept {B D : Nat} {w w' : World} {g n : Nat} {L : List Pt} {S : Nat → Prop} (h : MkP B D w g n L) (k : Kept S w w') (hS : ¬ S g) (hf : Frees w w') : MkP B D w' g n L :=
  ⟨h.1, h.2.1, h.2.2.1, hf _ _ h.2.2.2.1, fun i x hx => by
    obtain ⟨gi, h1, h2, h3, h4, h5⟩ := h.2.2.2.2 i x hx
    exact ⟨gi, h1, h2, h3, k.cell h4 hS, hf _ _ h5⟩⟩
theorem MkP.name {B D : Nat} {w : World} {g n : Nat} {L : List Pt} (h : MkP B D w g n L) (i : Nat) (u : Value) : MkP B D (w.setCell ⟨g, i * 2, none⟩ u) g n L :=
  ⟨h.1, h.2.1, h.2.2.1, h.2.2.2.1.set _ _, fun j x hx => by
    obtain ⟨gi, h1, h2, h3, h4, h5⟩ := h.2.2.2.2 j x hx
    exact ⟨gi, h1, h2, h3, (World.cell?_setCell_other _ _ _ _ (by intro e; have := congrArg Addr.off e; simp at this; omega)).trans h4, h5.set _ _⟩⟩
def MkAns (B D : Nat) (w : World) (e : Ending) (w' : World) : Prop := ∃ r : Nat, e = .returned (.int .i64 (r : Int)) ∧ Kept (fun b => B ≤ b ∧ b < D) w w'
set_option maxRecDepth 100000 in
set_option maxHeartbeats 2000000 in
theorem markP_any (B D g n c : Nat) (L : List Pt) (k0 : Nat) (hk0 : 1 ≤ k0) (hk1 : k0 ≤ 5000000) (hn : n ≤ 1048576) (hS : Sm L 1048576) (hT : ZhL.tot L ≤ 1048576) (w : World) (h : MkP B D w g n L) :
    Calls Try.prog 71 #[.slice (some ⟨g, 0, none⟩) n c, .int .i64 (k0 : Int)] w (MkAns B D w) := by
  have HL := Lib.hid h.1
  have HG := Lib.hid (And.intro h.2.1 h.2.2.1)
  have HS := Lib.hid hS
  have HT := Lib.hid hT
  have HM := Lib.hid h
  clear h hS hT
  go_enter Try.func71, Try.ntmps71
  go_wp2_with fail
  go_loopw [1, 5] (fun s1 s5 wr => ∃ i k : Nat, i ≤ n ∧ s5 = .int .i64 i ∧ s1 = .int .i64 (k : Int) ∧ Hid (k = k0 + i + ZhL.tot (L.take i)) ∧ Hid (MkP B D wr g n L ∧ Kept (fun b => B ≤ b ∧ b < D) w wr)) (fun _ s5 _ => n - (intOf s5).toNat)
  case atStart => exact ⟨0, k0, Nat.zero_le _, rfl, rfl, rfl, HM.out, Kept.refl _ _⟩
  case round =>
    obtain ⟨i, k, hi, rfl, rfl, HK0, HR⟩ := hrel
    by_cases hlt : i < n
    · have hk := HK0.out
      obtain ⟨x, hx⟩ : ∃ x, L[i]? = some x := ⟨L[i]'(by rw [HL.out]; exact hlt), List.getElem?_eq_getElem (by rw [HL.out]; exact hlt)⟩
      obtain ⟨gi, q1, q2, q3, q4, q5⟩ := HR.out.1.2.2.2.2 i x hx
      have htt : ZhL.tot (L.take (i + 1)) ≤ ZhL.tot L := ZhL.tot_le _ _
      have hnx := ZhL.tot_next hx
      have hTT := HT.out
      have hxl := HS.out x (List.mem_of_getElem? hx)
      have hki : k ≤ 9000000 := by omega
      have hk1' : 1 ≤ k := by omega
      have HK : Hid (k + 1 + x.2.length = k0 + (i + 1) + ZhL.tot (L.take (i + 1))) := by unfold Hid; omega
      have hii : (i : Int) < (n : Int) := by omega
      have hi0 : (0 : Int) ≤ (i : Int) := by omega
      have Q := Lib.hid (And.intro q1 (And.intro q2 q3))
      clear htt hnx hTT hk q1 q2 q3 q4 q5
      obtain ⟨⟨v0, hv0⟩, hf0⟩ := HR.out.1.2.2.2.1 (i * 2) (by omega)
      have HR3 : Hid (MkP B D (wr.setCell ⟨g, i * 2, none⟩ (.int .i64 (k : Int))) g n L ∧ Kept (fun b => B ≤ b ∧ b < D) w (wr.setCell ⟨g, i * 2, none⟩ (.int .i64 (k : Int)))) := ⟨HR.out.1.name i _, HR.out.2.setCell (g := g) HG.out _⟩
      obtain ⟨gj, p1, p2, p3, p4, p5⟩ := HR3.out.1.2.2.2.2 i x hx
      have P := Lib.hid (And.intro p1 (And.intro p2 (And.intro p3 p5)))
      clear p1 p2 p3 p5 hx
      go_wp2_with fail
      generalize wr.setCell ⟨g, i * 2, none⟩ (.int .i64 (k : Int)) = W3 at *
      clear p4 hv0 hf0
      refine (markI_any gj x.2.length x.2.length ((k : Int) + 1) (by omega) (by omega) hxl W3 P.out.2.2.2).mono ?_
      rintro e w4 ⟨rfl, q4, f4⟩
      have HR4 : Hid (MkP B D w4 g n L ∧ Kept (fun b => B ≤ b ∧ b < D) w w4) := ⟨HR3.out.1.kept q4 (fun e => P.out.1 e.symm) f4, HR3.out.2.trans (q4.mono fun b hb => by rw [hb]; exact ⟨P.out.2.1, P.out.2.2.1⟩)⟩
      clear q4 f4
      generalize x.2.length = xl at *
      have HKI : Hid ((k : Int) + 1 + (xl : Int) = ((k + 1 + xl : Nat) : Int)) := by unfold Hid; omega
      go_wp2_with fail
      exact ⟨⟨i + 1, k + 1 + xl, by omega, by go_num, by rw [HKI.out], HK, HR4⟩, by simp [intOf]; omega⟩
    · obtain rfl : i = n := by omega
      have hii : ¬ (i : Int) < (i : Int) := by omega
      have HE := Lib.hid HR.out.2
      go_wp2_with fail
      go_ret
      exact ⟨k, rfl, HE.out⟩
theorem Free.keptS {S : Nat → Prop} {w w' : World} {g n : Nat} (h : Free w g n) (k : Kept S w w') (hs : ¬ S g) : Free w' g n := fun j hj => by
  obtain ⟨⟨v, hv⟩, hf⟩ := h j hj
  refine ⟨⟨v, k.cell hv hs⟩, ?_⟩
  have hb := k.block g (World.block_lt_of_cell? w _ hv) hs
  unfold World.frozen? at *
  rw [hb]
  exact hf
theorem MkP.keptS {B D : Nat} {w w' : World} {g n : Nat} {L : List Pt} {S : Nat → Prop} (h : MkP B D w g n L) (k : Kept S w w') (hs : ∀ b, B ≤ b → b < D → ¬ S b) : MkP B D w' g n L :=
  ⟨h.1, h.2.1, h.2.2.1, h.2.2.2.1.keptS k (hs g h.2.1 h.2.2.1), fun i x hx => by
    obtain ⟨gi, h1, h2, h3, h4, h5⟩ := h.2.2.2.2 i x hx
    exact ⟨gi, h1, h2, h3, k.cell h4 (hs g h.2.1 h.2.2.1), h5.keptS k (hs gi h2 h3)⟩⟩
theorem row_type {V : World} {B s n : Nat} {T : TypeId} {v : Value} {xs : List Value} (h : V.ownsRow B T s v n xs) {b : Nat} (hb : v.ownBlock = some b) : ∃ cs z, V.heap[b]? = some (.cells cs T z) := by
  rcases h.2 with ⟨hv, _⟩ | ⟨g, cap, cur, hv, _, hh, _⟩
  · subst hv
    cases hb
  · subst hv
    have : g = b := by simpa [Value.ownBlock] using hb
    subst this
    exact ⟨_, _, hh⟩
theorem mkP_kept {B D : Nat} {w w' : World} {g n : Nat} {L : List Pt} {S : Nat → Prop} (h : MkP B D w g n L) (o : ZhT.OwnP B w g n L n) (k : Kept S w w')
    (hS : ∀ b, S b → ∃ T cs z, w.heap[b]? = some (.cells cs T z) ∧ T ≠ 50 ∧ T ≠ 3) : MkP B D w' g n L := by
  have key : ∀ {T s v m xs} {b : Nat}, w.ownsRow B T s v m xs → v.ownBlock = some b → (T = 50 ∨ T = 3) → ¬ S b := by
    intro T s v m xs b hr hb hT hs
    obtain ⟨T', cs, z, h1, h2, h3⟩ := hS b hs
    obtain ⟨cs', z', h4⟩ := row_type hr hb
    rw [h4] at h1
    injection h1 with h1
    injection h1 with _ e _
    subst e
    rcases hT with hT | hT
    · exact h2 hT
    · exact h3 hT
  obtain ⟨ys, o1, o2⟩ := o
  have hlen : ys.length = n * 2 := o1.1
  have hg : ¬ S g := key o1 rfl (.inl rfl)
  refine ⟨h.1, h.2.1, h.2.2.1, h.2.2.2.1.keptS k hg, fun i x hx => ?_⟩
  obtain ⟨gi, h1, h2, h3, h4, h5⟩ := h.2.2.2.2 i x hx
  have hil := (List.getElem?_eq_some_iff.1 hx).1
  have hL := h.1
  obtain ⟨e1, gj, e2, e3, e4⟩ := o2 i x (by omega) hx
  have e5 : w.cell? ⟨g, i * 2 + 1, none⟩ = some (.slice (some ⟨gj, 0, none⟩) x.2.length x.2.length) := by rw [o1.cellAt _ (by omega)]; exact e2
  have e6 : gi = gj := by
    rw [e5] at h4
    injection h4 with h4
    injection h4 with h4
    injection h4 with h4
    injection h4 with h4
    exact h4.symm
  have hgi : ¬ S gi := by rw [e6]; exact key e4 rfl (.inr rfl)
  exact ⟨gi, h1, h2, h3, k.cell h4 hg, h5.keptS k hgi⟩
/-- A dated record of one's own that is to be marked: its blocks lie from B on and ahead of D. -/
structure MkR (B D : Nat) (w : World) (g1 n1 g2 n2 g3 n3 : Nat) (l m : List (Int × Int)) (Z : List Pt) : Prop where
  own : OwnR w B g1 n1 g2 n2 g3 n3 l m Z
  l1 : g1 < D
  l2 : g2 < D
  mp : MkP B D w g3 n3 Z
theorem mkR_of {B : Nat} {w : World} {g1 n1 g2 n2 g3 n3 : Nat} {l m : List (Int × Int)} {Z : List Pt} (h : OwnR w B g1 n1 g2 n2 g3 n3 l m Z) (hZ : Z.length = n3) : MkR B w.heap.size w g1 n1 g2 n2 g3 n3 l m Z :=
  ⟨h, (h.rcd.ctx.lt g1 rfl).2, (h.rcd.rel.lt g2 rfl).2, mkP_of h.dat hZ⟩
theorem MkR.below {B D : Nat} {w w' : World} {g1 n1 g2 n2 g3 n3 : Nat} {l m : List (Int × Int)} {Z : List Pt} (h : MkR B D w g1 n1 g2 n2 g3 n3 l m Z) (b : Below w.heap.size w w') : MkR B D w' g1 n1 g2 n2 g3 n3 l m Z :=
  ⟨h.own.below b, h.l1, h.l2, h.mp.below b⟩
set_option maxRecDepth 100000 in
set_option maxHeartbeats 4000000 in
theorem markDR_any (B D g1 n1 g2 n2 g3 n3 : Nat) (l m : List (Int × Int)) (Z : List Pt) (w : World) (h : MkR B D w g1 n1 g2 n2 g3 n3 l m Z) (z1 : n1 ≤ 1048576) (z2 : n2 ≤ 1048576) (z3 : n3 ≤ 1048576) (hS : Sm Z 1048576) (hT : ZhL.tot Z ≤ 1048576) (hD : D ≤ w.heap.size) :
    Calls Try.prog 28 #[.agg #[.slice (some ⟨g1, 0, none⟩) n1 n1, .slice (some ⟨g2, 0, none⟩) n2 n2, .slice (some ⟨g3, 0, none⟩) n3 n3], .int .i64 1] w (MkAns B D w) := by
  have hb := below_alloc w (.cells #[.slice (some ⟨g1, 0, none⟩) n1 n1, .slice (some ⟨g2, 0, none⟩) n2 n2, .slice (some ⟨g3, 0, none⟩) n3 n3] 37)
  obtain ⟨f1, f2, f3⟩ := box3 w (.slice (some ⟨g1, 0, none⟩) n1 n1) (.slice (some ⟨g2, 0, none⟩) n2 n2) (.slice (some ⟨g3, 0, none⟩) n3 n3) 37
  have H := Lib.hid (h.below hb)
  have HB := Lib.hid hb
  have HD := Lib.hid hD
  have HS := Lib.hid hS
  have HT := Lib.hid hT
  have hB1 := Lib.hid (h.own.rcd.ctx.lt g1 rfl).1
  have hB2 := Lib.hid (h.own.rcd.rel.lt g2 rfl).1
  clear h hb hD hS hT
  go_enter Try.func28, Try.ntmps28
  go_wp2_with fail
  generalize w.alloc (.cells #[.slice (some ⟨g1, 0, none⟩) n1 n1, .slice (some ⟨g2, 0, none⟩) n2 n2, .slice (some ⟨g3, 0, none⟩) n3 n3] 37) = W at *
  refine (Mark2.markRecord_any B _ _ n1 n1 n2 n2 l m z1 z2 W (got_of_own H.out.own.rcd)).mono ?_
  rintro e w1 ⟨rfl, o1, q1⟩
  have hq : ∀ b, ((Value.slice (some ⟨g1, 0, none⟩) n1 n1).ownBlock = some b ∨ (Value.slice (some ⟨g2, 0, none⟩) n2 n2).ownBlock = some b) → B ≤ b ∧ b < D := by
    intro b hb
    rcases hb with hb | hb
    · have e : g1 = b := by simpa [Value.ownBlock] using hb
      rw [← e]; exact ⟨hB1.out, H.out.l1⟩
    · have e : g2 = b := by simpa [Value.ownBlock] using hb
      rw [← e]; exact ⟨hB2.out, H.out.l2⟩
  have hM := mkP_kept H.out.mp H.out.own.dat q1 (fun b hb => by
    rcases hb with hb | hb
    · obtain ⟨cs, z, h1⟩ := row_type H.out.own.rcd.ctx hb
      exact ⟨_, cs, z, h1, by decide, by decide⟩
    · obtain ⟨cs, z, h1⟩ := row_type H.out.own.rcd.rel hb
      exact ⟨_, cs, z, h1, by decide, by decide⟩)
  have f3 := q1.cell f3 (fun hs => by have h1 := (hq _ hs).2; have h2 := HD.out; simp only at h1; omega)
  have HM := Lib.hid hM
  have HK := Lib.hid ((Kept.of HB.out).trans (q1.mono hq))
  clear o1 q1 hq hM f1 f2
  have hk : (1 : Int) + 2 * (n1 : Int) + 2 * (n2 : Int) = ((1 + 2 * n1 + 2 * n2 : Nat) : Int) := by omega
  rw [hk]
  have hk1 : 1 + 2 * n1 + 2 * n2 ≤ 5000000 := by omega
  have hk2 : 1 ≤ 1 + 2 * n1 + 2 * n2 := by omega
  clear hk
  generalize 1 + 2 * n1 + 2 * n2 = K at *
  go_wp2_with fail
  refine (markP_any B D g3 n3 n3 Z K hk2 hk1 z3 HS.out HT.out w1 HM.out).mono ?_
  rintro e w2 ⟨r, rfl, q2⟩
  have HK2 := Lib.hid (HK.out.trans q2)
  clear q2 f3
  go_wp2_with fail
  go_ret
  exact ⟨r, rfl, HK2.out⟩
/-- What a function that makes a list and a number leaves. -/
def ResL (A : List Int) (z : Int) (ok : Bool) (w : World) (e : Ending) (w' : World) : Prop :=
  ∃ (p : Option Addr) (k d : Nat), e = .returned (.tuple #[.slice p k d, .int .i64 z, .bool ok]) ∧ w'.ownsRow w.heap.size 3 1 (.slice p k d) k (ints A) ∧ k ≤ 1048576 ∧ Below w.heap.size w w'
theorem pairsKept {S : Nat → Prop} {w0 w w' : World} {p : Option Addr} {n : Nat} {l : List (Int × Int)} (h0 : Holds w0 p n l) (h : Holds w p n l) (k : Kept S w w') (hs : ∀ b, b < w0.heap.size → ¬ S b) : Holds w' p n l := by
  refine ⟨h.1, ?_⟩
  rcases h0.2 with h2 | ⟨b, off, ha, hbw, _⟩
  · exact .inl h2
  · rcases h.2 with h3 | ⟨b', off', ha', hbw', hc⟩
    · exact .inl h3
    · have e : b' = b := by
        rw [ha] at ha'
        injection ha' with e
        injection e with e1 e2
        exact e1.symm
      have hn : ¬ S b' := by rw [e]; exact hs b hbw
      exact .inr ⟨b', off', ha', Nat.lt_of_lt_of_le hbw' k.size, fun i x hi => ⟨k.cell (hc i x hi).1 hn, k.cell (hc i x hi).2 hn⟩⟩
theorem distsKept {S : Nat → Prop} {w0 w w' : World} {p : Option Addr} {n : Nat} {Z : List Pt} (h0 : HoldsZ w0 p n Z) (h : HoldsZ w p n Z) (b0 : Below w0.heap.size w0 w) (k : Kept S w w') (hs : ∀ b, b < w0.heap.size → ¬ S b) : HoldsZ w' p n Z := by
  refine ⟨h.1, ?_⟩
  rcases h0.2 with h2 | ⟨b, off, ha, hbw, hc⟩
  · exact .inl h2
  · have hn : ¬ S b := hs b hbw
    refine .inr ⟨b, off, ha, Nat.lt_of_lt_of_le (Nat.lt_of_lt_of_le hbw b0.size) k.size, fun i x hi => ?_⟩
    obtain ⟨e1, q, j, c, e2, e3⟩ := hc i x hi
    exact ⟨k.cell ((b0.cell (p := ⟨b, _, none⟩) hbw).trans e1) hn, q, j, c, k.cell ((b0.cell (p := ⟨b, _, none⟩) hbw).trans e2) hn, Di.heldKept e3 (e3.below b0) k hs⟩
theorem argKept {S : Nat → Prop} {w0 w w' : World} {a1 : Option Addr} {n1 : Nat} {a2 : Option Addr} {n2 : Nat} {a3 : Option Addr} {n3 : Nat} {l m : List (Int × Int)} {Z : List Pt} (h0 : Arg w0 a1 n1 a2 n2 a3 n3 l m Z) (h : Arg w a1 n1 a2 n2 a3 n3 l m Z) (b0 : Below w0.heap.size w0 w) (k : Kept S w w') (hs : ∀ b, b < w0.heap.size → ¬ S b) : Arg w' a1 n1 a2 n2 a3 n3 l m Z :=
  ⟨h.s1, h.s2, h.s3, pairsKept h0.h1 h.h1 k hs, pairsKept h0.h2 h.h2 k hs, distsKept h0.h3 h.h3 b0 k hs, h.sm⟩
end Go.Proofs.Ytfbgekhkbbhggaa.Zm
