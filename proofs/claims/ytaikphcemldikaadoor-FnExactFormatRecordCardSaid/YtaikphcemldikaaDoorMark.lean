/- Contracts of the law file's markText, markStringS, heldStringS. -/
import Derived.Test.YtaikphcemldikaaDoorStrs
import Derived.WalkLawsBesides
namespace Go.Proofs.YtaikphcemldikaaDoor.Mrk
open Go.RowKit Split Strs

def dg (d : Nat) : ByteArray := ⟨#[UInt8.ofNat (48 + d)]⟩
theorem dg_size (d : Nat) : (dg d).size = 1 := rfl
/-- The numeral's digits ahead of r. -/
def fd : Nat → Nat → ByteArray → ByteArray
  | 0, _, r => r
  | _ + 1, 0, r => r
  | f + 1, j + 1, r => fd f ((j + 1) / 10) (dg ((j + 1) % 10) ++ r)
def mt (k : Nat) : ByteArray := ⟨#[109]⟩ ++ fd k k ⟨#[]⟩

theorem conv_dg (d : Nat) (hd : d < 10) (W : World) :
    (convert 76 9 (.slice (some ⟨W.heap.size, 0, none⟩) 1 1)).run Tryd.prog (W.alloc (.cells #[.int .u8 (48 + (d : Int))] 5)) = .ok (.string (dg d)) (W.alloc (.cells #[.int .u8 (48 + (d : Int))] 5)) := by
  have h := run_convert_bytes_back (P := Tryd.prog) (W.alloc (.cells #[.int .u8 (48 + (d : Int))] 5)) 76 9 5 ⟨W.heap.size, 0, none⟩ 1 [UInt8.ofNat (48 + d)] Tryd.underlying76 Tryd.underlying5 Tryd.underlying9
  have hb : (UInt8.ofNat (48 + d)).toNat = 48 + d := by
    have : ∀ d : Fin 10, (UInt8.ofNat (48 + d)).toNat = 48 + d.val := by decide
    exact this ⟨d, hd⟩
  refine h (fun j hj => ?_)
  obtain rfl : j = 0 := by simpa using hj
  simp only [List.getElem_cons_zero, hb]
  simp [Addr.add]

set_option maxHeartbeats 1000000 in
theorem markText_any (k : Nat) (h1 : 1 ≤ k) (h2 : k ≤ 1000000) (w : World) :
    Calls Tryd.prog 46 #[.int .i64 k] w fun e w' => e = .returned (.string (mt k)) ∧ Below w.heap.size w w' := by
  go_enter Tryd.func46, Tryd.ntmps46
  go_wp2
  go_loopw [0, 3] (fun kk out wr => ∃ (f j : Nat) (r : ByteArray), kk = .int .i64 j ∧ out = .string r ∧ j ≤ f ∧ r.size + j ≤ k ∧ Hid (fd f j r = fd k k ⟨#[]⟩) ∧ Below w.heap.size w wr) (fun kk _ _ => (intOf kk).toNat)
  case atStart => exact ⟨k, k, _, rfl, rfl, Nat.le_refl _, by show 0 + k ≤ k; omega, rfl, Below.refl _ _⟩
  case round =>
    obtain ⟨f, j, r, rfl, rfl, hjf, hrj, HF, hbel⟩ := hrel
    by_cases hj : 1 ≤ j
    · obtain ⟨f, rfl⟩ : ∃ f', f = f' + 1 := ⟨f - 1, by omega⟩
      have hfd : fd f (j / 10) (dg (j % 10) ++ r) = fd k k ⟨#[]⟩ := by
        rw [← HF.out]
        obtain ⟨j', rfl⟩ : ∃ j', j = j' + 1 := ⟨j - 1, by omega⟩
        rfl
      have HFD := Lib.hid hfd
      obtain ⟨d, hdd⟩ : ∃ d : Nat, d = j % 10 := ⟨_, rfl⟩
      have hd10 : d < 10 := by omega
      have m0 : (j : Int) % 10 = (d : Int) := by omega
      have HD := Lib.hid hdd
      clear hfd hdd
      have hcv := conv_dg d hd10
      have hz := hbel.size
      have had := fun W : World => run_string_add_sum (P := Tryd.prog) W (dg d) r (by rw [dg_size]; omega)
      go_wp2
      go_roundw
      case rel => exact ⟨f, j / 10, dg d ++ r, by go_num, rfl, by omega, by rw [ByteArray.size_append, dg_size]; omega, by rw [HD.out]; exact HFD, hbel.alloc hz _⟩
      case measure => simp [intOf]; omega
    · obtain rfl : j = 0 := by omega
      have hfd : mt k = ⟨#[109]⟩ ++ r := by
        unfold mt
        rw [← HF.out]
        cases f <;> rfl
      have HFD := Lib.hid hfd
      clear hfd
      have had := fun W : World => run_string_add_sum (P := Tryd.prog) W ⟨#[109]⟩ r (by show 1 + _ ≤ _; omega)
      go_wp2
      go_ret
      exact ⟨by rw [HFD.out]; rfl, hbel⟩

/-- The row's first k cells hold the marks; beside block g nothing that was there has changed. -/
def Marked (B : Nat) (w wr : World) (g n cap k : Nat) : Prop :=
  ∃ ys, wr.ownsRow B 9 1 (.slice (some ⟨g, 0, none⟩) n cap) n ys ∧ (∀ i, i < k → ys[i]? = some (.string (mt (1 + i)))) ∧ w.grownBy wr (some g)
theorem grownBy_of_below {w w' : World} (h : Below w.heap.size w w') : w.grownBy w' none := ⟨h.os, h.tape, h.output, h.size, fun k hk _ => h.block k hk⟩
theorem grownBy_tr {a b c : World} {r : Option Nat} (h : a.grownBy b r) (k : b.grownBy c r) : a.grownBy c r :=
  ⟨k.os.trans h.os, k.tape.trans h.tape, k.output.trans h.output, Nat.le_trans h.size k.size, fun j hj hr => (k.block j (Nat.lt_of_lt_of_le hj h.size) hr).trans (h.block j hj hr)⟩
theorem grownBy_wk {a b : World} {r : Option Nat} (h : a.grownBy b none) : a.grownBy b r := ⟨h.os, h.tape, h.output, h.size, fun j hj _ => h.block j hj (by simp)⟩
theorem marked_text {B : Nat} {w wr w2 : World} {g n cap k : Nat} (h : Marked B w wr g n cap k) (hb : Below wr.heap.size wr w2) : Marked B w w2 g n cap k := by
  obtain ⟨ys, h1, h2, h3⟩ := h
  exact ⟨ys, h1.kept (grownBy_of_below hb) (.inr (by simp [Value.ownBlock])), h2, grownBy_tr h3 (grownBy_wk (grownBy_of_below hb))⟩
theorem marked_step {B : Nat} {w wr : World} {g n cap k : Nat} (h : Marked B w wr g n cap k) (hk : k < n) : Marked B w (wr.setCell ⟨g, k, none⟩ (.string (mt (1 + k)))) g n cap (k + 1) := by
  obtain ⟨ys, h1, h2, h3⟩ := h
  obtain ⟨s1, s2⟩ := h1.stored k (.string (mt (1 + k)))
  refine ⟨_, s1, ?_, grownBy_tr h3 s2⟩
  intro i hi
  have hlen : ys.length = n := by have := h1.1; omega
  by_cases he : i = k
  · subst he
    rw [List.getElem?_set_self (by omega)]
  · rw [List.getElem?_set_ne (by omega)]
    exact h2 i (by omega)
theorem marked_facts {B : Nat} {w wr : World} {g n cap k : Nat} (h : Marked B w wr g n cap k) : ∀ j, j < n → (∃ v, wr.cell? ⟨g, j, none⟩ = some v) ∧ wr.frozen? ⟨g, j, none⟩ = false := by
  obtain ⟨ys, h1, _, _⟩ := h
  intro j hj
  have hlen : ys.length = n := by have := h1.1; omega
  refine ⟨⟨ys[j], ?_⟩, h1.frozenAt j⟩
  rw [h1.cellAt j (by omega), List.getElem?_eq_getElem (by omega)]
/-- The marks in memory. -/
def Marks (w : World) (g n : Nat) : Prop := g < w.heap.size ∧ ∀ i, i < n → w.cell? ⟨g, i, none⟩ = some (.string (mt (1 + i)))
theorem marks_of {B : Nat} {w wr : World} {g n cap : Nat} (h : Marked B w wr g n cap n) : Marks wr g n := by
  obtain ⟨ys, h1, h2, _⟩ := h
  refine ⟨(h1.lt g rfl).2, fun i hi => ?_⟩
  rw [h1.cellAt i (by omega)]
  exact h2 i hi
theorem Marks.below {w w' : World} {g n : Nat} (h : Marks w g n) (hb : Below w.heap.size w w') : Marks w' g n :=
  ⟨Nat.lt_of_lt_of_le h.1 hb.size, fun i hi => (hb.cell (p := ⟨g, i, none⟩) h.1).trans (h.2 i hi)⟩

set_option maxHeartbeats 1000000 in
theorem markS_any (B g n cap : Nat) (xs : List Value) (hn : n ≤ 900000) (w : World) (h : w.ownsRow B 9 1 (.slice (some ⟨g, 0, none⟩) n cap) n xs) :
    Calls Tryd.prog 19 #[.slice (some ⟨g, 0, none⟩) n cap, .int .i64 1] w fun e w' => e = .returned (.int .i64 ((n : Int) + 1)) ∧ Marked B w w' g n cap n := by
  have hM0 : Marked B w w g n cap 0 := ⟨xs, h, fun i hi => absurd hi (by omega), ⟨rfl, rfl, rfl, Nat.le_refl _, fun _ _ _ => rfl⟩⟩
  clear h
  go_enter Tryd.func19, Tryd.ntmps19
  go_wp2_with fail
  go_loopw [1, 5] (fun m i wr => ∃ k : Nat, k ≤ n ∧ i = .int .i64 k ∧ m = .int .i64 (1 + k : Nat) ∧ Marked B w wr g n cap k) (fun _ i _ => n - (intOf i).toNat)
  case atStart => exact ⟨0, Nat.zero_le _, rfl, rfl, hM0⟩
  case round =>
    obtain ⟨k, hk, rfl, rfl, hR⟩ := hrel
    clear hM0
    by_cases hlt : k < n
    · have hi : (k : Int) < (n : Int) := by omega
      go_wp2_with fail
      refine (markText_any (1 + k) (by omega) (by omega) _).mono ?_
      rintro e w2 ⟨rfl, hb⟩
      have hR1 := marked_text hR hb
      obtain ⟨⟨v0, hv0⟩, hf0⟩ := marked_facts hR1 k hlt
      have hR2 := marked_step hR1 hlt
      have HR2 := Lib.hid hR2
      clear hR hR1 hR2 hb
      generalize mt (1 + k) = x at *
      go_wp2_with fail
      go_roundw
      case rel => exact ⟨k + 1, by omega, by go_num, by go_num, HR2.out⟩
      case measure => simp [intOf]; omega
    · obtain rfl : k = n := by omega
      go_wp2_with fail
      go_ret
      exact ⟨by simp; omega, hR⟩
end Go.Proofs.YtaikphcemldikaaDoor.Mrk
