/- The law file's markText, for a seat without lists of strings; the marks on a copy of phases. -/
import Derived.Test.YtbdplgcdnpcnfaaPhT
import Derived.Test.YtbdplgcdnpcnfaaPhL2
import Derived.WalkLawsBesides
namespace Go.Proofs.Ytbdplgcdnpcnfaa.Mt
open Go.RowKit Pairs Rec Keep GivesI Ph PhT

def dg (d : Nat) : ByteArray := ⟨#[UInt8.ofNat (48 + d)]⟩
theorem dg_size (d : Nat) : (dg d).size = 1 := rfl
/-- The numeral's digits ahead of r. -/
def fd : Nat → Nat → ByteArray → ByteArray
  | 0, _, r => r
  | _ + 1, 0, r => r
  | f + 1, j + 1, r => fd f ((j + 1) / 10) (dg ((j + 1) % 10) ++ r)
def mt (k : Nat) : ByteArray := ⟨#[109]⟩ ++ fd k k ⟨#[]⟩

theorem conv_dg (d : Nat) (hd : d < 10) (W : World) :
    (convert 101 9 (.slice (some ⟨W.heap.size, 0, none⟩) 1 1)).run Try.prog (W.alloc (.cells #[.int .u8 (48 + (d : Int))] 5)) = .ok (.string (dg d)) (W.alloc (.cells #[.int .u8 (48 + (d : Int))] 5)) := by
  have h := run_convert_bytes_back (P := Try.prog) (W.alloc (.cells #[.int .u8 (48 + (d : Int))] 5)) 101 9 5 ⟨W.heap.size, 0, none⟩ 1 [UInt8.ofNat (48 + d)] Try.underlying101 Try.underlying5 Try.underlying9
  have hb : (UInt8.ofNat (48 + d)).toNat = 48 + d := by
    have : ∀ d : Fin 10, (UInt8.ofNat (48 + d)).toNat = 48 + d.val := by decide
    exact this ⟨d, hd⟩
  refine h (fun j hj => ?_)
  obtain rfl : j = 0 := by simpa using hj
  simp only [List.getElem_cons_zero, hb]
  simp [Addr.add]

set_option maxHeartbeats 1000000 in
theorem markText_any (k : Nat) (h1 : 1 ≤ k) (h2 : k ≤ 10000000) (w : World) :
    Calls Try.prog 49 #[.int .i64 k] w fun e w' => e = .returned (.string (mt k)) ∧ Below w.heap.size w w' := by
  go_enter Try.func49, Try.ntmps49
  go_wp2
  go_loopw [0, 3] (fun kk out wr => ∃ (f j : Nat) (r : ByteArray), kk = .int .i64 j ∧ out = .string r ∧ j ≤ f ∧ r.size + j ≤ k ∧ Hid (fd f j r = fd k k ⟨#[]⟩) ∧ Below w.heap.size w wr) (fun kk _ _ => (intOf kk).toNat)
  case atStart => exact ⟨k, k, _, rfl, rfl, Nat.le_refl _, by show 0 + k ≤ k; omega, rfl, Below.refl _ _⟩
  case round =>
    obtain ⟨f, j, r, rfl, rfl, hjf, hrj, HF, hbel⟩ := hrel
    by_cases hj : 1 ≤ j
    · obtain ⟨f, rfl⟩ : ∃ f', f = f' + 1 := ⟨f - 1, by omega⟩
      have hfd : fd f (j / 10) (dg (j % 10) ++ r) = fd k k ⟨#[]⟩ := by
        rw [← HF.out]
        obtain ⟨j', rfl⟩ : ∃ j', j = j' + 1 := ⟨j - 1, by omega⟩
        rfl
      have HFD := Lib.hid hfd
      obtain ⟨d, hdd⟩ : ∃ d : Nat, d = j % 10 := ⟨_, rfl⟩
      have hd10 : d < 10 := by omega
      have m0 : (j : Int) % 10 = (d : Int) := by omega
      have HD := Lib.hid hdd
      clear hfd hdd
      have hcv := conv_dg d hd10
      have hz := hbel.size
      have had := fun W : World => run_string_add_sum (P := Try.prog) W (dg d) r (by rw [dg_size]; omega)
      go_wp2
      go_roundw
      case rel => exact ⟨f, j / 10, dg d ++ r, by go_num, rfl, by omega, by rw [ByteArray.size_append, dg_size]; omega, by rw [HD.out]; exact HFD, hbel.alloc hz _⟩
      case measure => simp [intOf]; omega
    · obtain rfl : j = 0 := by omega
      have hfd : mt k = ⟨#[109]⟩ ++ r := by
        unfold mt
        rw [← HF.out]
        cases f <;> rfl
      have HFD := Lib.hid hfd
      clear hfd
      have had := fun W : World => run_string_add_sum (P := Try.prog) W ⟨#[109]⟩ r (by show 1 + _ ≤ _; omega)
      go_wp2
      go_ret
      exact ⟨by rw [HFD.out]; rfl, hbel⟩

/-- A row of n cells that may be written, whatever they hold. -/
def Free (w : World) (g n : Nat) : Prop := ∀ j, j < n → (∃ v, w.cell? ⟨g, j, none⟩ = some v) ∧ w.frozen? ⟨g, j, none⟩ = false
theorem Free.below {w w' : World} {g n : Nat} (h : Free w g n) (hb : Below w.heap.size w w') : Free w' g n := fun j hj => by
  obtain ⟨⟨v, hv⟩, hf⟩ := h j hj
  have hlt := World.block_lt_of_cell? w _ hv
  exact ⟨⟨v, (hb.cell (p := ⟨g, j, none⟩) hlt).trans hv⟩, (hb.frozen (p := ⟨g, j, none⟩) hlt).trans hf⟩
theorem Free.set {w : World} {g n : Nat} (h : Free w g n) (a : Addr) (u : Value) : Free (w.setCell a u) g n := fun j hj => by
  obtain ⟨⟨v, hv⟩, hf⟩ := h j hj
  refine ⟨?_, by rw [World.frozen?_setCell]; exact hf⟩
  by_cases e : a = ⟨g, j, none⟩
  · subst e
    exact ⟨u, World.cell?_setCell_same _ _ _ hv⟩
  · exact ⟨v, (World.cell?_setCell_other _ _ _ _ e).trans hv⟩
theorem Free.of_row {w : World} {B g n : Nat} {ys : List Value} (h : w.ownsRow B 3 1 (.slice (some ⟨g, 0, none⟩) n n) n ys) : Free w g n := fun j hj => by
  have hlen : ys.length = n * 1 := h.1
  refine ⟨⟨ys[j], ?_⟩, h.frozenAt j⟩
  rw [h.cellAt j (by omega), List.getElem?_eq_getElem (by omega)]
def Frees (w w' : World) : Prop := ∀ g m, Free w g m → Free w' g m
set_option maxRecDepth 100000 in
set_option maxHeartbeats 1000000 in
/-- markIntS on such a row: nothing but the row is turned. -/
theorem markI_any (g n c : Nat) (k : Int) (hk0 : 0 ≤ k) (hk1 : k ≤ 10000000) (hz : n ≤ 1048576) (w : World) (h : Free w g n) :
    Calls Try.prog 23 #[.slice (some ⟨g, 0, none⟩) n c, .int .i64 k] w fun e w' => e = .returned (.int .i64 (k + n)) ∧ Kept (fun b => b = g) w w' ∧ Frees w w' := by
  have HF := Lib.hid h
  clear h
  go_enter Try.func23, Try.ntmps23
  go_wp2_with fail
  go_loopw [1, 5] (fun s1 s5 wr => ∃ j : Nat, j ≤ n ∧ s5 = .int .i64 j ∧ s1 = .int .i64 (k + j) ∧ Hid (Kept (fun b => b = g) w wr ∧ Frees w wr)) (fun _ s5 _ => n - (intOf s5).toNat)
  case atStart => exact ⟨0, Nat.zero_le _, rfl, by simp, Kept.refl _ _, fun _ _ h => h⟩
  case round =>
    obtain ⟨j, hj, rfl, rfl, HR⟩ := hrel
    by_cases hlt : j < n
    · have hi : (j : Int) < (n : Int) := by omega
      obtain ⟨⟨v0, hv0⟩, hf0⟩ := HR.out.2 g n HF.out j hlt
      have HR2 : Hid (Kept (fun b => b = g) w (wr.setCell ⟨g, j, none⟩ (.int .i64 (k + j))) ∧ Frees w (wr.setCell ⟨g, j, none⟩ (.int .i64 (k + j)))) := ⟨HR.out.1.setCell (g := g) rfl _, fun g' m h => (HR.out.2 g' m h).set _ _⟩
      go_wp2_with fail
      exact ⟨⟨j + 1, by omega, by go_num, by go_num, HR2⟩, by simp [intOf]; omega⟩
    · obtain rfl : j = n := by omega
      have HE := Lib.hid HR.out
      go_wp2_with fail
      go_ret
      exact ⟨rfl, HE.out⟩
/-- What a marking of phases needs: the row, and rows of members of their own blocks, from B on and ahead of D. -/
def MkP (B D : Nat) (w : World) (g n : Nat) (L : List Pt) : Prop :=
  L.length = n ∧ B ≤ g ∧ g < D ∧ Free w g (n * 2) ∧ ∀ (i : Nat) (x : Pt), L[i]? = some x → ∃ gi : Nat, gi ≠ g ∧ B ≤ gi ∧ gi < D ∧ w.cell? ⟨g, i * 2 + 1, none⟩ = some (.slice (some ⟨gi, 0, none⟩) x.2.length x.2.length) ∧ Free w gi x.2.length
theorem mkP_of {B : Nat} {w : World} {g n : Nat} {L : List Pt} (h : OwnP B w g n L n) (hl : L.length = n) : MkP B w.heap.size w g n L := by
  refine ⟨hl, h.lt.1, h.lt.2, h.facts, fun i x hx => ?_⟩
  obtain ⟨ys, h1, h2⟩ := h
  have hlen : ys.length = n * 2 := h1.1
  have hil := (List.getElem?_eq_some_iff.1 hx).1
  obtain ⟨e1, gi, e2, e3, e4⟩ := h2 i x (by omega) hx
  exact ⟨gi, e3, (e4.lt gi rfl).1, (e4.lt gi rfl).2, by rw [h1.cellAt _ (by omega)]; exact e2, Free.of_row e4⟩
theorem MkP.below {B D : Nat} {w w' : World} {g n : Nat} {L : List Pt} (h : MkP B D w g n L) (hb : Below w.heap.size w w') : MkP B D w' g n L :=
  ⟨h.1, h.2.1, h.2.2.1, h.2.2.2.1.below hb, fun i x hx => by
    obtain ⟨gi, h1, h2, h3, h4, h5⟩ := h.2.2.2.2 i x hx
    exact ⟨gi, h1, h2, h3, (hb.cell (p := ⟨g, i * 2 + 1, none⟩) (World.block_lt_of_cell? w _ h4)).trans h4, h5.below hb⟩⟩
theorem MkP.kept {B D : Nat} {w w' : World} {g n : Nat} {L : List Pt} {S : Nat → Prop} (h : MkP B D w g n L) (k : Kept S w w') (hS : ¬ S g) (hf : Frees w w') : MkP B D w' g n L :=
  ⟨h.1, h.2.1, h.2.2.1, hf _ _ h.2.2.2.1, fun i x hx => by
    obtain ⟨gi, h1, h2, h3, h4, h5⟩ := h.2.2.2.2 i x hx
    exact ⟨gi, h1, h2, h3, k.cell h4 hS, hf _ _ h5⟩⟩
theorem MkP.name {B D : Nat} {w : World} {g n : Nat} {L : List Pt} (h : MkP B D w g n L) (i : Nat) (u : Value) : MkP B D (w.setCell ⟨g, i * 2, none⟩ u) g n L :=
  ⟨h.1, h.2.1, h.2.2.1, h.2.2.2.1.set _ _, fun j x hx => by
    obtain ⟨gi, h1, h2, h3, h4, h5⟩ := h.2.2.2.2 j x hx
    exact ⟨gi, h1, h2, h3, (World.cell?_setCell_other _ _ _ _ (by intro e; have := congrArg Addr.off e; simp at this; omega)).trans h4, h5.set _ _⟩⟩
def MkAns (B D : Nat) (w : World) (e : Ending) (w' : World) : Prop := ∃ r : Nat, e = .returned (.int .i64 (r : Int)) ∧ Kept (fun b => B ≤ b ∧ b < D) w w'
set_option maxRecDepth 100000 in
set_option maxHeartbeats 2000000 in
theorem markP_any (B D g n c : Nat) (L : List Pt) (k0 : Nat) (hk0 : 1 ≤ k0) (hk1 : k0 ≤ 5000000) (hn : n ≤ 1048576) (hS : Sm L 1048576) (hT : PhL2.tot L ≤ 1048576) (w : World) (h : MkP B D w g n L) :
    Calls Try.prog 22 #[.slice (some ⟨g, 0, none⟩) n c, .int .i64 (k0 : Int)] w (MkAns B D w) := by
  have HL := Lib.hid h.1
  have HG := Lib.hid (And.intro h.2.1 h.2.2.1)
  have HS := Lib.hid hS
  have HT := Lib.hid hT
  have HM := Lib.hid h
  clear h hS hT
  go_enter Try.func22, Try.ntmps22
  go_wp2_with fail
  go_loopw [1, 5] (fun s1 s5 wr => ∃ i k : Nat, i ≤ n ∧ s5 = .int .i64 i ∧ s1 = .int .i64 (k : Int) ∧ Hid (k = k0 + i + PhL2.tot (L.take i)) ∧ Hid (MkP B D wr g n L ∧ Kept (fun b => B ≤ b ∧ b < D) w wr)) (fun _ s5 _ => n - (intOf s5).toNat)
  case atStart => exact ⟨0, k0, Nat.zero_le _, rfl, rfl, rfl, HM.out, Kept.refl _ _⟩
  case round =>
    obtain ⟨i, k, hi, rfl, rfl, HK0, HR⟩ := hrel
    by_cases hlt : i < n
    · have hk := HK0.out
      obtain ⟨x, hx⟩ : ∃ x, L[i]? = some x := ⟨L[i]'(by rw [HL.out]; exact hlt), List.getElem?_eq_getElem (by rw [HL.out]; exact hlt)⟩
      obtain ⟨gi, q1, q2, q3, q4, q5⟩ := HR.out.1.2.2.2.2 i x hx
      have htt : PhL2.tot (L.take (i + 1)) ≤ PhL2.tot L := PhL2.tot_le _ _
      have hnx := PhL2.tot_next hx
      have hTT := HT.out
      have hxl := (HS.out x (List.mem_of_getElem? hx)).2
      have hki : k ≤ 9000000 := by omega
      have hk1' : 1 ≤ k := by omega
      have HK : Hid (k + 1 + x.2.length = k0 + (i + 1) + PhL2.tot (L.take (i + 1))) := by unfold Hid; omega
      have hii : (i : Int) < (n : Int) := by omega
      have hi0 : (0 : Int) ≤ (i : Int) := by omega
      have Q := Lib.hid (And.intro q1 (And.intro q2 q3))
      clear htt hnx hTT hk q1 q2 q3 q4 q5
      go_wp2_with fail
      refine (markText_any k hk1' (by omega) wr).mono ?_
      rintro e w2 ⟨rfl, b2⟩
      have HR2 : Hid (MkP B D w2 g n L ∧ Kept (fun b => B ≤ b ∧ b < D) w w2) := ⟨HR.out.1.below b2, HR.out.2.trans (Kept.of b2)⟩
      clear b2
      obtain ⟨⟨v0, hv0⟩, hf0⟩ := HR2.out.1.2.2.2.1 (i * 2) (by omega)
      have HR3 : Hid (MkP B D (w2.setCell ⟨g, i * 2, none⟩ (.string (mt k))) g n L ∧ Kept (fun b => B ≤ b ∧ b < D) w (w2.setCell ⟨g, i * 2, none⟩ (.string (mt k)))) := ⟨HR2.out.1.name i _, HR2.out.2.setCell (g := g) HG.out _⟩
      obtain ⟨gj, p1, p2, p3, p4, p5⟩ := HR3.out.1.2.2.2.2 i x hx
      have P := Lib.hid (And.intro p1 (And.intro p2 (And.intro p3 p5)))
      clear p1 p2 p3 p5 hx
      go_wp2_with fail
      generalize w2.setCell ⟨g, i * 2, none⟩ (.string (mt k)) = W3 at *
      clear p4 hv0 hf0
      refine (markI_any gj x.2.length x.2.length ((k : Int) + 1) (by omega) (by omega) hxl W3 P.out.2.2.2).mono ?_
      rintro e w4 ⟨rfl, q4, f4⟩
      have HR4 : Hid (MkP B D w4 g n L ∧ Kept (fun b => B ≤ b ∧ b < D) w w4) := ⟨HR3.out.1.kept q4 (fun e => P.out.1 e.symm) f4, HR3.out.2.trans (q4.mono fun b hb => by rw [hb]; exact ⟨P.out.2.1, P.out.2.2.1⟩)⟩
      clear q4 f4
      generalize x.2.length = xl at *
      have HKI : Hid ((k : Int) + 1 + (xl : Int) = ((k + 1 + xl : Nat) : Int)) := by unfold Hid; omega
      go_wp2_with fail
      exact ⟨⟨i + 1, k + 1 + xl, by omega, by go_num, by rw [HKI.out], HK, HR4⟩, by simp [intOf]; omega⟩
    · obtain rfl : i = n := by omega
      have hii : ¬ (i : Int) < (i : Int) := by omega
      have HE := Lib.hid HR.out.2
      go_wp2_with fail
      go_ret
      exact ⟨k, rfl, HE.out⟩
theorem Free.keptS {S : Nat → Prop} {w w' : World} {g n : Nat} (h : Free w g n) (k : Kept S w w') (hs : ¬ S g) : Free w' g n := fun j hj => by
  obtain ⟨⟨v, hv⟩, hf⟩ := h j hj
  refine ⟨⟨v, k.cell hv hs⟩, ?_⟩
  have hb := k.block g (World.block_lt_of_cell? w _ hv) hs
  unfold World.frozen? at *
  rw [hb]
  exact hf
theorem MkP.keptS {B D : Nat} {w w' : World} {g n : Nat} {L : List Pt} {S : Nat → Prop} (h : MkP B D w g n L) (k : Kept S w w') (hs : ∀ b, B ≤ b → b < D → ¬ S b) : MkP B D w' g n L :=
  ⟨h.1, h.2.1, h.2.2.1, h.2.2.2.1.keptS k (hs g h.2.1 h.2.2.1), fun i x hx => by
    obtain ⟨gi, h1, h2, h3, h4, h5⟩ := h.2.2.2.2 i x hx
    exact ⟨gi, h1, h2, h3, k.cell h4 (hs g h.2.1 h.2.2.1), h5.keptS k (hs gi h2 h3)⟩⟩
end Go.Proofs.Ytbdplgcdnpcnfaa.Mt
