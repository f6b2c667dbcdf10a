/- slices.Insert of one context into a row without room. -/
import Derived.Test.YtknlackphdcflaaDelC
import Derived.Test.YtknlackphdcflaaRelM
import Derived.Lib.AppendZeros
import Derived.Deep.AppendLies
namespace Go.Proofs.Ytknlackphdcflaa.InsC
open Go.RowKit Pairs Rec Keep Row2 Copy RelM
open DelC (setCells_row flat_app kept_drew kept_setCells)

def zl (k : Nat) : List Value := (Builtin.zeroCells (Value.agg #[.int .i64 0, .int .i64 0]).cells k).toList
theorem zl_len (k : Nat) : (zl k).length = k * 2 := by unfold zl Builtin.zeroCells; simp [Value.cells]
theorem run_append_zeros_grow {P : Program} (w : World) (t tn ty e : TypeId) (i : TypeInfo) (kn : IntKind) (ht : P.underlying t = some (.slice e)) (htn : P.underlying tn = some (.int kn)) (hi : P.info? e = some i) (hz : i.zero = some (.agg #[.int .i64 0, .int .i64 0])) (hsz : i.size = 2) (hby : i.bytes = 16)
    (b : Addr) (sLen sCap : Nat) (olds : List Value) (hlo : olds.length = sLen * 2) (holds : ∀ j v, olds[j]? = some v → w.cell? (b.add j) = some v)
    (n : Nat) (h0 : 0 < n) (hg : sCap < sLen + n) (hn : sLen + n ≤ 1048577) :
    (Builtin.append_ #[t, tn] ty #[.slice (some b) sLen sCap, .int .i64 (n : Int)]).run P w =
      .ok (.slice (some ⟨w.heap.size, 0, none⟩) (sLen + n) (grownCap w (sLen + n) sCap e))
        (w.drew.alloc (.cells (olds ++ zl n ++ zl (grownCap w (sLen + n) sCap e - (sLen + n))).toArray e)) := by
  have hnn : ¬ (sLen + n ≤ sCap) := by omega
  have hw : IntKind.i64.wrap (n : Int) = n := by rw [IntKind.wrap_i64]; omega
  have h63' : ¬ (9223372036854775807 < ((sLen : Int) + (n : Int))) := by omega
  have hfit := growslice_fits (need := sLen + n) (old := sCap) (bytes := i.bytes) (by omega) (by rw [hby]; omega)
  have h48' : ¬ (281474976710656 < Builtin.nextslicecap (sLen + n) sCap * i.bytes) := by omega
  have h48i : ¬ (281474976710656 < (n : Int) * (i.bytes : Int)) := by rw [hby]; omega
  have hneg : ¬ ((n : Int) < 0) := by omega
  have hns : ¬ (n * i.size = 0) := Nat.mul_ne_zero (by omega) (by omega)
  have hfo := run_firstCells_some (P := P) w.drew i.size sLen b sLen sCap olds (by rw [hsz]; exact hlo) (by simpa using holds)
  have hn0 : n ≠ 0 := by omega
  simp [Builtin.append_, run_underlying ht, run_underlying htn, sizeOf, typeInfo, zeroValue, hi, hz, asInt, asIntOf, hw, hneg, hns, hnn, h63', h48', h48i, Question.forced, hfo, newRow, grownCap]
  congr 2
  apply Array.ext'
  simp [zl]
theorem splice_app (A C Z : List Value) {off : Nat} (h : off = A.length) : splice (A ++ Z) off C = A ++ (C ++ Z.drop C.length) := by
  unfold splice
  rw [h, List.take_left, ← List.drop_drop, List.drop_left]
theorem own_whole {X : World} {g n B : Nat} {T : TypeId} {l : List (Int × Int)} (h : X.heap[g]? = some (.cells (flat l).toArray T)) (hl : l.length = n) (hn : n ≤ 1048576) (hB : B ≤ g) : X.ownsRow B T 2 (.slice (some ⟨g, 0, none⟩) n n) n (flat l) := own_of_block h hl hn hB
set_option maxRecDepth 1000000 in
set_option maxHeartbeats 4000000 in
theorem insert_any (B g i r : Nat) (l1 l2 : List (Int × Int)) (x y : Int) (gv : Nat) (hl1 : l1.length = i) (hl2 : l2.length = r) (hn : i + r ≤ 1048576) (w : World) (h : w.heap[g]? = some (.cells (flat (l1 ++ l2)).toArray 36)) (hv : w.heap[gv]? = some (.cells #[.int .i64 x, .int .i64 y] 36)) (hB : B ≤ g) (hBw : B ≤ w.heap.size) :
    Calls Try.prog 45 #[.slice (some ⟨g, 0, none⟩) (i + r) (i + r), .int .i64 i, .slice (some ⟨gv, 0, none⟩) 1 1] w fun e w' => ∃ g' cap : Nat, e = .returned (.slice (some ⟨g', 0, none⟩) (i + r + 1) cap) ∧
      w'.ownsRow B 36 2 (.slice (some ⟨g', 0, none⟩) (i + r + 1) cap) (i + r + 1) (flat (l1 ++ (x, y) :: l2)) ∧ (g' = g ∨ g' = w.heap.size) ∧ Kept (fun b => b = g) w w' := by
  obtain ⟨i0, hi, hy0, hy1, hy2⟩ := info_parts infoContext
  have HH := Lib.hid h
  have HV := Lib.hid hv
  have hglt : g < w.heap.size := (Array.getElem?_eq_some_iff.1 h).1
  clear h hv
  have hn1 : ((1 : Int) == 0) = false := by decide
  by_cases hr : r = 0
  · have hl0 : l2 = [] := List.eq_nil_of_length_eq_zero (by omega)
    subst hl0
    subst hr
    have hh := HH.out
    rw [List.append_nil] at hh
    have hown := own_whole (B := B) hh hl1 (by omega) hB
    have hsrc := World.news_of_block HV.out
    have hq : ((i : Int) == (i : Int)) = true := by simp
    clear hh
    simp only [Nat.add_zero]
    go_enter Try.func45, Try.ntmps45
    go_wp2_with (at_builtin; refine wpList_append_lies _ rfl _ _ 29 rfl B 36 i0 (.agg #[.int .i64 0, .int .i64 0]) 2 16 Try.underlying29 hi hy0 hy1 hy2 rfl (by decide) _ _ _ rfl hown ⟨gv, 0, none⟩ 1 1 [.int .i64 x, .int .i64 y] rfl rfl hsrc (by simp [Value.oneCell']) (by omega) (by unfold maxLen; omega) (by omega) hBw w.heap.size rfl ?_; intro g' cap w1 hown' hgrow hat hlt)
    go_ret
    refine ⟨g', cap, rfl, ?_, ?_, ?_⟩
    · rw [flat_app]
      exact hown'
    · rcases hat with hat | hat
      · exact .inl (by have e : some g = some g' := hat; injection e with e; exact e.symm)
      · exact .inr hat
    · exact ⟨hgrow.os, hgrow.tape, hgrow.output, hgrow.size, fun k hk hs => hgrow.block k hk (fun e => hs (by have e' : some k = some g := e; injection e'))⟩
  · have hq : ((i : Int) == (i : Int) + (r : Int)) = false := by rw [beq_eq_false_iff_ne]; omega
    have hq2 : ¬ (i : Int) = (i : Int) + (r : Int) := by omega
    have HO : Hid (∀ j v, (flat l1)[j]? = some v → w.cell? ((⟨g, 0, none⟩ : Addr).add j) = some v) := by
      intro j v hj
      rw [Addr.add_lit, Nat.zero_add]
      simp only [World.cell?, HH.out, List.getElem?_toArray]
      rw [flat_app, List.getElem?_append_left (List.getElem?_eq_some_iff.1 hj).1, hj]
      rfl
    have hrun := run_append_zeros_grow (P := Try.prog) w 29 3 29 36 i0 .i64 Try.underlying29 Try.underlying3 hi hy0 hy1 hy2 ⟨g, 0, none⟩ i (i + r) (flat l1) (by rw [flat_len, hl1]) HO.out (r + 1) (by omega) (by omega) (by omega)
    have HC := grownCap_ge w (i + (r + 1)) (i + r) 36
    have HCM := grownCap_le_maxLen w (i + (r + 1)) (i + r) 36 (by unfold maxLen; omega)
    generalize hcp : grownCap w (i + (r + 1)) (i + r) 36 = cap at hrun HC HCM
    clear hcp
    have HRUN := Lib.hid hrun
    clear hrun
    go_enter Try.func45, Try.ntmps45
    go_wp2_with (at_builtin; refine Lib.wpList_append_run _ rfl _ _ _ _ rfl (.slice (some ⟨g, 0, none⟩) i (i + r)) (.int .i64 ((r + 1 : Nat) : Int)) rfl (by first | rfl | (show Value.int .i64 _ = _; congr 1; omega)) _ _ HRUN.out ?_)
    have hX1 : (w.alloc (.cells (flat l1 ++ (zl (r + 1) ++ zl (cap - (i + (r + 1))))).toArray 36)).drew.heap[w.heap.size]? = some (.cells (flat l1 ++ (zl (r + 1) ++ zl (cap - (i + (r + 1))))).toArray 36) := heap_alloc_new w _
    have hba := (below_alloc w (.cells (flat l1 ++ (zl (r + 1) ++ zl (cap - (i + (r + 1))))).toArray 36)).drew
    have hcl : (flat l1 ++ (zl (r + 1) ++ zl (cap - (i + (r + 1))))).length = cap * 2 := by rw [List.length_append, List.length_append, flat_len, zl_len, zl_len, hl1]; omega
    have hgvlt : gv < w.heap.size := (Array.getElem?_eq_some_iff.1 HV.out).1
    have hsrc := World.news_of_block ((hba.block gv hgvlt).trans HV.out)
    have hrun2 := run_copy2_all (P := Try.prog) (w.alloc (.cells (flat l1 ++ (zl (r + 1) ++ zl (cap - (i + (r + 1))))).toArray 36)).drew 29 29 3 36 Try.underlying29 sizeContext (some ⟨w.heap.size, i * 2, none⟩) (some ⟨gv, 0, none⟩) (r + 1) (cap - i) 1 1 1 (Nat.min_eq_left (by omega)) w.heap.size (i * 2) (flat l1 ++ (zl (r + 1) ++ zl (cap - (i + (r + 1))))) 36 hX1 [.int .i64 x, .int .i64 y] rfl (fun _ => ⟨rfl, _, rfl, hsrc⟩) (by rw [hcl]; simp; omega) (by intro v hv; simp at hv; rcases hv with rfl | rfl <;> rfl)
    rw [hrun2]
    have HX2 := Lib.hid (setRow_heap _ w.heap.size _ (splice (flat l1 ++ (zl (r + 1) ++ zl (cap - (i + (r + 1))))) (i * 2) [.int .i64 x, .int .i64 y]).toArray _ _ hX1)
    have HG2 := Lib.hid ((setRow_other _ w.heap.size g (splice (flat l1 ++ (zl (r + 1) ++ zl (cap - (i + (r + 1))))) (i * 2) [.int .i64 x, .int .i64 y]).toArray (Nat.ne_of_lt hglt)).trans ((hba.block g hglt).trans HH.out))
    have HB2 := Lib.hid (below_setRow hba (Nat.le_refl _) (splice (flat l1 ++ (zl (r + 1) ++ zl (cap - (i + (r + 1))))) (i * 2) [.int .i64 x, .int .i64 y]).toArray)
    have HCL := Lib.hid (length_splice (flat l1 ++ (zl (r + 1) ++ zl (cap - (i + (r + 1))))) (i * 2) [Value.int .i64 x, Value.int .i64 y] (by rw [hcl]; simp; omega))
    rw [hcl] at HCL
    have HEQ : Hid (splice (flat l1 ++ (zl (r + 1) ++ zl (cap - (i + (r + 1))))) (i * 2) [Value.int .i64 x, Value.int .i64 y] = (flat l1 ++ [Value.int .i64 x, Value.int .i64 y]) ++ (zl (r + 1) ++ zl (cap - (i + (r + 1)))).drop 2) := by
      unfold Hid
      rw [splice_app _ _ _ (by rw [flat_len, hl1]), List.append_assoc]
      rfl
    clear hrun2 hX1 hba hcl hsrc
    generalize ((w.alloc (.cells (flat l1 ++ (zl (r + 1) ++ zl (cap - (i + (r + 1))))).toArray 36)).drew).setRow w.heap.size (splice (flat l1 ++ (zl (r + 1) ++ zl (cap - (i + (r + 1))))) (i * 2) [.int .i64 x, .int .i64 y]).toArray = X2 at *
    have hp1 : (0 : Int) ≤ (i : Int) + 1 := by omega
    have hp2 : (i : Int) + 1 ≤ (i : Int) + ((r : Int) + 1) := by omega
    have hp3 : ((i : Int) + 1).toNat = i + 1 := by omega
    have hp4 : (i : Int) ≤ (i : Int) + (r : Int) := by omega
    have hcne : ¬ cap = i + 1 := by omega
    have hwr : IntKind.i64.wrap ((i : Int) + 1) = (i : Int) + 1 := by rw [IntKind.wrap_i64]; omega
    go_wp2_with fail
    have HSR : Hid (∀ j v, (flat l2)[j]? = some v → X2.drew.cell? ((⟨g, i * 2, none⟩ : Addr).add j) = some v) := by
      intro j v hj
      rw [Addr.add_lit]
      show X2.cell? _ = some v
      simp only [World.cell?, HG2.out, List.getElem?_toArray]
      rw [flat_app, List.getElem?_append_right (by rw [flat_len, hl1]; omega), flat_len, hl1, show i * 2 + j - i * 2 = j by omega, hj]
      rfl
    have HF2 : Hid ((flat l2).length = r * 2) := by unfold Hid; rw [flat_len, hl2]
    have hg' : X2.drew.heap[w.heap.size]? = some (.cells (splice (flat l1 ++ (zl (r + 1) ++ zl (cap - (i + (r + 1))))) (i * 2) [.int .i64 x, .int .i64 y]).toArray 36) := HX2.out
    have HG' := Lib.hid hg'
    clear hg'
    have hfit : (i + 1) * 2 + (flat l2).length ≤ (splice (flat l1 ++ (zl (r + 1) ++ zl (cap - (i + (r + 1))))) (i * 2) [Value.int .i64 x, Value.int .i64 y]).length := by rw [HF2.out, HCL.out]; omega
    have HFT := Lib.hid hfit
    clear hfit
    go_region_law (refine step_copy2 rfl (.tmp 50) (.tmp 53) 29 29 rfl 36 Try.underlying29 sizeContext (some ⟨w.heap.size, (i + 1) * 2, none⟩) (some ⟨g, i * 2, none⟩) r (cap - (i + 1)) r r (by simp [Act.eval, Act.put]; omega) (by simp [Act.eval, Act.put]) r (Nat.min_self r) w.heap.size ((i + 1) * 2) _ 36 HG'.out (flat l2) HF2.out (fun _ => ⟨rfl, _, rfl, HSR.out⟩) HFT.out (flat_one l2) ?_)
    go_wp2_with fail
    go_ret
    refine ⟨w.heap.size, cap, rfl, ?_, .inr rfl, ?_⟩
    · have hb3 := setRow_heap _ w.heap.size _ (splice (splice (flat l1 ++ (zl (r + 1) ++ zl (cap - (i + (r + 1))))) (i * 2) [.int .i64 x, .int .i64 y]) ((i + 1) * 2) (flat l2)).toArray _ _ HG'.out
      have hle := length_splice (splice (flat l1 ++ (zl (r + 1) ++ zl (cap - (i + (r + 1))))) (i * 2) [Value.int .i64 x, Value.int .i64 y]) ((i + 1) * 2) (flat l2) HFT.out
      rw [HCL.out] at hle
      refine ⟨by rw [flat_len, List.length_append, List.length_cons, hl1, hl2]; omega, .inr ⟨w.heap.size, cap, _, rfl, hBw, hb3, by omega, HCM, by simpa using hle, ?_⟩⟩
      rw [HEQ.out, splice_app _ _ _ (by rw [List.length_append, flat_len, hl1]; simp; omega)]
      have e2 : flat l1 ++ [Value.int .i64 x, Value.int .i64 y] ++ flat l2 = flat (l1 ++ (x, y) :: l2) := by rw [flat_app, flat_cons, List.append_assoc]; rfl
      rw [← List.append_assoc, e2]
      have e3 : (flat (l1 ++ (x, y) :: l2)).length = (i + r + 1) * 2 := by rw [flat_len, List.length_append, List.length_cons, hl1, hl2]; omega
      show List.take _ (List.toArray _).toList = _
      rw [← e3]
      exact List.take_left
    · have hb3 := below_setRow (B := w.heap.size) (w0 := w) (w := X2.drew) (g := w.heap.size) HB2.out.drew (Nat.le_refl _) (splice (splice (flat l1 ++ (zl (r + 1) ++ zl (cap - (i + (r + 1))))) (i * 2) [.int .i64 x, .int .i64 y]) ((i + 1) * 2) (flat l2)).toArray
      exact Kept.of hb3
end Go.Proofs.Ytknlackphdcflaa.InsC
