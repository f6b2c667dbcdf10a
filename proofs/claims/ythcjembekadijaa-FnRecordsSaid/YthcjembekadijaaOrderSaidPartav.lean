/- slices.Insert of one context into a row without room. -/
import Derived.Test.YthcjembekadijaaOrderSaidPartau
import Derived.Test.YthcjembekadijaaOrderSaidPartam
import Derived.Lib.AppendZeros
import Derived.Deep.AppendLies
import Derived.Test.YthcjembekadijaaOrderSaidPartat
import Derived.Test.YthcjembekadijaaOrderSaidPartao
namespace Go.Proofs.Ythcjembekadijaa.InsC
open Go.RowKit Pairs Rec Keep Row2 Copy RelM
open DelC (setCells_row flat_app kept_drew kept_setCells)

def zl (k : Nat) : List Value := (Builtin.zeroCells (Value.agg #[.int .i64 0, .int .i64 0]).cells k).toList
theorem zl_len (k : Nat) : (zl k).length = k * 2 := by unfold zl Builtin.zeroCells; simp [Value.cells]
theorem run_append_zeros_grow {P : Program} (w : World) (t tn ty e : TypeId) (i : TypeInfo) (kn : IntKind) (ht : P.underlying t = some (.slice e)) (htn : P.underlying tn = some (.int kn)) (hi : P.info? e = some i) (hz : i.zero = some (.agg #[.int .i64 0, .int .i64 0])) (hsz : i.size = 2) (hby : i.bytes = 16)
    (b : Addr) (sLen sCap : Nat) (olds : List Value) (hlo : olds.length = sLen * 2) (holds : ∀ j v, olds[j]? = some v → w.cell? (b.add j) = some v)
    (n : Nat) (h0 : 0 < n) (hg : sCap < sLen + n) (hn : sLen + n ≤ 1048577) :
    (Builtin.append_ #[t, tn] ty #[.slice (some b) sLen sCap, .int .i64 (n : Int)]).run P w =
      .ok (.slice (some ⟨w.heap.size, 0, none⟩) (sLen + n) (grownCap w (sLen + n) sCap e))
        (w.drew.alloc (.cells (olds ++ zl n ++ zl (grownCap w (sLen + n) sCap e - (sLen + n))).toArray e)) := by
  have hnn : ¬ (sLen + n ≤ sCap) := by omega
  have hw : IntKind.i64.wrap (n : Int) = n := by rw [IntKind.wrap_i64]; omega
  have h63' : ¬ (9223372036854775807 < ((sLen : Int) + (n : Int))) := by omega
  have hfit := growslice_fits (need := sLen + n) (old := sCap) (bytes := i.bytes) (by omega) (by rw [hby]; omega)
  have h48' : ¬ (281474976710656 < Builtin.nextslicecap (sLen + n) sCap * i.bytes) := by omega
  have h48i : ¬ (281474976710656 < (n : Int) * (i.bytes : Int)) := by rw [hby]; omega
  have hneg : ¬ ((n : Int) < 0) := by omega
  have hns : ¬ (n * i.size = 0) := Nat.mul_ne_zero (by omega) (by omega)
  have hfo := run_firstCells_some (P := P) w.drew i.size sLen b sLen sCap olds (by rw [hsz]; exact hlo) (by simpa using holds)
  have hn0 : n ≠ 0 := by omega
  simp [Builtin.append_, run_underlying ht, run_underlying htn, sizeOf, typeInfo, zeroValue, hi, hz, asInt, asIntOf, hw, hneg, hns, hnn, h63', h48', h48i, Question.forced, hfo, newRow, grownCap]
  congr 2
  apply Array.ext'
  simp [zl]
theorem splice_app (A C Z : List Value) {off : Nat} (h : off = A.length) : splice (A ++ Z) off C = A ++ (C ++ Z.drop C.length) := by
  unfold splice
  rw [h, List.take_left, ← List.drop_drop, List.drop_left]
theorem own_whole {X : World} {g n B : Nat} {T : TypeId} {l : List (Int × Int)} (h : X.heap[g]? = some (.cells (flat l).toArray T)) (hl : l.length = n) (hn : n ≤ 1048576) (hB : B ≤ g) : X.ownsRow B T 2 (.slice (some ⟨g, 0, none⟩) n n) n (flat l) := own_of_block h hl hn hB
set_option maxRecDepth 1000000 in
set_option maxHeartbeats 4000000 in
theorem insert_any (B g i r : Nat) (l1 l2 : List (Int × Int)) (x y : Int) (gv : Nat) (hl1 : l1.length = i) (hl2 : l2.length = r) (hn : i + r ≤ 1048576) (w : World) (h : w.heap[g]? = some (.cells (flat (l1 ++ l2)).toArray 55)) (hv : w.heap[gv]? = some (.cells #[.int .i64 x, .int .i64 y] 55)) (hB : B ≤ g) (hBw : B ≤ w.heap.size) :
    Calls Try.prog 79 #[.slice (some ⟨g, 0, none⟩) (i + r) (i + r), .int .i64 i, .slice (some ⟨gv, 0, none⟩) 1 1] w fun e w' => ∃ g' cap : Nat, e = .returned (.slice (some ⟨g', 0, none⟩) (i + r + 1) cap) ∧
      w'.ownsRow B 55 2 (.slice (some ⟨g', 0, none⟩) (i + r + 1) cap) (i + r + 1) (flat (l1 ++ (x, y) :: l2)) ∧ (g' = g ∨ g' = w.heap.size) ∧ Kept (fun b => b = g) w w' := by
  obtain ⟨i0, hi, hy0, hy1, hy2⟩ := info_parts infoContext
  have HH := Lib.hid h
  have HV := Lib.hid hv
  have hglt : g < w.heap.size := (Array.getElem?_eq_some_iff.1 h).1
  clear h hv
  have hn1 : ((1 : Int) == 0) = false := by decide
  by_cases hr : r = 0
  · have hl0 : l2 = [] := List.eq_nil_of_length_eq_zero (by omega)
    subst hl0
    subst hr
    have hh := HH.out
    rw [List.append_nil] at hh
    have hown := own_whole (B := B) hh hl1 (by omega) hB
    have hsrc := World.news_of_block HV.out
    have hq : ((i : Int) == (i : Int)) = true := by simp
    clear hh
    simp only [Nat.add_zero]
    go_enter Try.func79, Try.ntmps79
    go_wp2_with (at_builtin; refine wpList_append_lies _ rfl _ _ 24 rfl B 55 i0 (.agg #[.int .i64 0, .int .i64 0]) 2 16 Try.underlying24 hi hy0 hy1 hy2 rfl (by decide) _ _ _ rfl hown ⟨gv, 0, none⟩ 1 1 [.int .i64 x, .int .i64 y] rfl rfl hsrc (by simp [Value.oneCell']) (by omega) (by unfold maxLen; omega) (by omega) hBw w.heap.size rfl ?_; intro g' cap w1 hown' hgrow hat hlt)
    go_ret
    refine ⟨g', cap, rfl, ?_, ?_, ?_⟩
    · rw [flat_app]
      exact hown'
    · rcases hat with hat | hat
      · exact .inl (by have e : some g = some g' := hat; injection e with e; exact e.symm)
      · exact .inr hat
    · exact ⟨hgrow.os, hgrow.tape, hgrow.output, hgrow.size, fun k hk hs => hgrow.block k hk (fun e => hs (by have e' : some k = some g := e; injection e'))⟩
  · have hq : ((i : Int) == (i : Int) + (r : Int)) = false := by rw [beq_eq_false_iff_ne]; omega
    have hq2 : ¬ (i : Int) = (i : Int) + (r : Int) := by omega
    have HO : Hid (∀ j v, (flat l1)[j]? = some v → w.cell? ((⟨g, 0, none⟩ : Addr).add j) = some v) := by
      intro j v hj
      rw [Addr.add_lit, Nat.zero_add]
      simp only [World.cell?, HH.out, List.getElem?_toArray]
      rw [flat_app, List.getElem?_append_left (List.getElem?_eq_some_iff.1 hj).1, hj]
      rfl
    have hrun := run_append_zeros_grow (P := Try.prog) w 24 3 24 55 i0 .i64 Try.underlying24 Try.underlying3 hi hy0 hy1 hy2 ⟨g, 0, none⟩ i (i + r) (flat l1) (by rw [flat_len, hl1]) HO.out (r + 1) (by omega) (by omega) (by omega)
    have HC := grownCap_ge w (i + (r + 1)) (i + r) 55
    have HCM := grownCap_le_maxLen w (i + (r + 1)) (i + r) 55 (by unfold maxLen; omega)
    generalize hcp : grownCap w (i + (r + 1)) (i + r) 55 = cap at hrun HC HCM
    clear hcp
    have HRUN := Lib.hid hrun
    clear hrun
    go_enter Try.func79, Try.ntmps79
    go_wp2_with (at_builtin; refine Lib.wpList_append_run _ rfl _ _ _ _ rfl (.slice (some ⟨g, 0, none⟩) i (i + r)) (.int .i64 ((r + 1 : Nat) : Int)) rfl (by first | rfl | (show Value.int .i64 _ = _; congr 1; omega)) _ _ HRUN.out ?_)
    have hX1 : (w.alloc (.cells (flat l1 ++ (zl (r + 1) ++ zl (cap - (i + (r + 1))))).toArray 55)).drew.heap[w.heap.size]? = some (.cells (flat l1 ++ (zl (r + 1) ++ zl (cap - (i + (r + 1))))).toArray 55) := heap_alloc_new w _
    have hba := (below_alloc w (.cells (flat l1 ++ (zl (r + 1) ++ zl (cap - (i + (r + 1))))).toArray 55)).drew
    have hcl : (flat l1 ++ (zl (r + 1) ++ zl (cap - (i + (r + 1))))).length = cap * 2 := by rw [List.length_append, List.length_append, flat_len, zl_len, zl_len, hl1]; omega
    have hgvlt : gv < w.heap.size := (Array.getElem?_eq_some_iff.1 HV.out).1
    have hsrc := World.news_of_block ((hba.block gv hgvlt).trans HV.out)
    have hrun2 := run_copy2_all (P := Try.prog) (w.alloc (.cells (flat l1 ++ (zl (r + 1) ++ zl (cap - (i + (r + 1))))).toArray 55)).drew 24 24 3 55 Try.underlying24 sizeContext (some ⟨w.heap.size, i * 2, none⟩) (some ⟨gv, 0, none⟩) (r + 1) (cap - i) 1 1 1 (Nat.min_eq_left (by omega)) w.heap.size (i * 2) (flat l1 ++ (zl (r + 1) ++ zl (cap - (i + (r + 1))))) 55 hX1 [.int .i64 x, .int .i64 y] rfl (fun _ => ⟨rfl, _, rfl, hsrc⟩) (by rw [hcl]; simp; omega) (by intro v hv; simp at hv; rcases hv with rfl | rfl <;> rfl)
    rw [hrun2]
    have HX2 := Lib.hid (setRow_heap _ w.heap.size _ (splice (flat l1 ++ (zl (r + 1) ++ zl (cap - (i + (r + 1))))) (i * 2) [.int .i64 x, .int .i64 y]).toArray _ _ hX1)
    have HG2 := Lib.hid ((setRow_other _ w.heap.size g (splice (flat l1 ++ (zl (r + 1) ++ zl (cap - (i + (r + 1))))) (i * 2) [.int .i64 x, .int .i64 y]).toArray (Nat.ne_of_lt hglt)).trans ((hba.block g hglt).trans HH.out))
    have HB2 := Lib.hid (below_setRow hba (Nat.le_refl _) (splice (flat l1 ++ (zl (r + 1) ++ zl (cap - (i + (r + 1))))) (i * 2) [.int .i64 x, .int .i64 y]).toArray)
    have HCL := Lib.hid (length_splice (flat l1 ++ (zl (r + 1) ++ zl (cap - (i + (r + 1))))) (i * 2) [Value.int .i64 x, Value.int .i64 y] (by rw [hcl]; simp; omega))
    rw [hcl] at HCL
    have HEQ : Hid (splice (flat l1 ++ (zl (r + 1) ++ zl (cap - (i + (r + 1))))) (i * 2) [Value.int .i64 x, Value.int .i64 y] = (flat l1 ++ [Value.int .i64 x, Value.int .i64 y]) ++ (zl (r + 1) ++ zl (cap - (i + (r + 1)))).drop 2) := by
      unfold Hid
      rw [splice_app _ _ _ (by rw [flat_len, hl1]), List.append_assoc]
      rfl
    clear hrun2 hX1 hba hcl hsrc
    generalize ((w.alloc (.cells (flat l1 ++ (zl (r + 1) ++ zl (cap - (i + (r + 1))))).toArray 55)).drew).setRow w.heap.size (splice (flat l1 ++ (zl (r + 1) ++ zl (cap - (i + (r + 1))))) (i * 2) [.int .i64 x, .int .i64 y]).toArray = X2 at *
    have hp1 : (0 : Int) ≤ (i : Int) + 1 := by omega
    have hp2 : (i : Int) + 1 ≤ (i : Int) + ((r : Int) + 1) := by omega
    have hp3 : ((i : Int) + 1).toNat = i + 1 := by omega
    have hp4 : (i : Int) ≤ (i : Int) + (r : Int) := by omega
    have hcne : ¬ cap = i + 1 := by omega
    have hwr : IntKind.i64.wrap ((i : Int) + 1) = (i : Int) + 1 := by rw [IntKind.wrap_i64]; omega
    go_wp2_with fail
    have HSR : Hid (∀ j v, (flat l2)[j]? = some v → X2.drew.cell? ((⟨g, i * 2, none⟩ : Addr).add j) = some v) := by
      intro j v hj
      rw [Addr.add_lit]
      show X2.cell? _ = some v
      simp only [World.cell?, HG2.out, List.getElem?_toArray]
      rw [flat_app, List.getElem?_append_right (by rw [flat_len, hl1]; omega), flat_len, hl1, show i * 2 + j - i * 2 = j by omega, hj]
      rfl
    have HF2 : Hid ((flat l2).length = r * 2) := by unfold Hid; rw [flat_len, hl2]
    have hg' : X2.drew.heap[w.heap.size]? = some (.cells (splice (flat l1 ++ (zl (r + 1) ++ zl (cap - (i + (r + 1))))) (i * 2) [.int .i64 x, .int .i64 y]).toArray 55) := HX2.out
    have HG' := Lib.hid hg'
    clear hg'
    have hfit : (i + 1) * 2 + (flat l2).length ≤ (splice (flat l1 ++ (zl (r + 1) ++ zl (cap - (i + (r + 1))))) (i * 2) [Value.int .i64 x, Value.int .i64 y]).length := by rw [HF2.out, HCL.out]; omega
    have HFT := Lib.hid hfit
    clear hfit
    go_region_law (refine step_copy2 rfl (.tmp 50) (.tmp 53) 24 24 rfl 55 Try.underlying24 sizeContext (some ⟨w.heap.size, (i + 1) * 2, none⟩) (some ⟨g, i * 2, none⟩) r (cap - (i + 1)) r r (by simp [Act.eval, Act.put]; omega) (by simp [Act.eval, Act.put]) r (Nat.min_self r) w.heap.size ((i + 1) * 2) _ 55 HG'.out (flat l2) HF2.out (fun _ => ⟨rfl, _, rfl, HSR.out⟩) HFT.out (flat_one l2) ?_)
    go_wp2_with fail
    go_ret
    refine ⟨w.heap.size, cap, rfl, ?_, .inr rfl, ?_⟩
    · have hb3 := setRow_heap _ w.heap.size _ (splice (splice (flat l1 ++ (zl (r + 1) ++ zl (cap - (i + (r + 1))))) (i * 2) [.int .i64 x, .int .i64 y]) ((i + 1) * 2) (flat l2)).toArray _ _ HG'.out
      have hle := length_splice (splice (flat l1 ++ (zl (r + 1) ++ zl (cap - (i + (r + 1))))) (i * 2) [Value.int .i64 x, Value.int .i64 y]) ((i + 1) * 2) (flat l2) HFT.out
      rw [HCL.out] at hle
      refine ⟨by rw [flat_len, List.length_append, List.length_cons, hl1, hl2]; omega, .inr ⟨w.heap.size, cap, _, rfl, hBw, hb3, by omega, HCM, by simpa using hle, ?_⟩⟩
      rw [HEQ.out, splice_app _ _ _ (by rw [List.length_append, flat_len, hl1]; simp; omega)]
      have e2 : flat l1 ++ [Value.int .i64 x, Value.int .i64 y] ++ flat l2 = flat (l1 ++ (x, y) :: l2) := by rw [flat_app, flat_cons, List.append_assoc]; rfl
      rw [← List.append_assoc, e2]
      have e3 : (flat (l1 ++ (x, y) :: l2)).length = (i + r + 1) * 2 := by rw [flat_len, List.length_append, List.length_cons, hl1, hl2]; omega
      show List.take _ (List.toArray _).toList = _
      rw [← e3]
      exact List.take_left
    · have hb3 := below_setRow (B := w.heap.size) (w0 := w) (w := X2.drew) (g := w.heap.size) HB2.out.drew (Nat.le_refl _) (splice (splice (flat l1 ++ (zl (r + 1) ++ zl (cap - (i + (r + 1))))) (i * 2) [.int .i64 x, .int .i64 y]) ((i + 1) * 2) (flat l2)).toArray
      exact Kept.of hb3
end Go.Proofs.Ythcjembekadijaa.InsC
/- slices.DeleteFunc over relations, with the closure of RemoveContext. -/
namespace Go.Proofs.Ythcjembekadijaa.DelF
open Go.RowKit Pairs Rec Find2 GoodM Keep Row2 Copy Two RemCS
open DelC (setCells_row kept_drew kept_setCells)

theorem occursIn_true (z x y : Int) (h : x = z ∨ y = z) (w : World) : Calls Try.prog 87 #[.int .i64 z, .agg #[.int .i64 x, .int .i64 y]] w fun e w' => e = .returned (.bool true) ∧ Below w.heap.size w w' := by
  have hb := below_alloc w (.cells #[.int .i64 x, .int .i64 y] 39)
  go_enter Try.func87, Try.ntmps87
  by_cases h1 : x = z
  · subst h1
    clear h
    go_wp2
    go_ret
    exact ⟨rfl, hb⟩
  · have h2 : y = z := h.resolve_left h1
    have hq : (x == z) = false := by simpa using h1
    subst h2
    clear h
    go_wp2
    go_ret
    exact ⟨rfl, hb⟩
theorem occursIn_false (z x y : Int) (h1 : ¬ x = z) (h2 : ¬ y = z) (w : World) : Calls Try.prog 87 #[.int .i64 z, .agg #[.int .i64 x, .int .i64 y]] w fun e w' => e = .returned (.bool false) ∧ Below w.heap.size w w' := by
  have hb := below_alloc w (.cells #[.int .i64 x, .int .i64 y] 39)
  have hq : (x == z) = false := by simpa using h1
  have hq2 : (y == z) = false := by simpa using h2
  go_enter Try.func87, Try.ntmps87
  go_wp2
  go_ret
  exact ⟨rfl, hb⟩
theorem notR_true {z x y : Int} (h1 : ¬ x = z) (h2 : ¬ y = z) : notR z (x, y) = true := decide_eq_true ⟨h1, h2⟩
theorem notR_false {z x y : Int} (h : x = z ∨ y = z) : notR z (x, y) = false := by
  unfold notR
  rcases h with h | h <;> simp [h]
/-- The closure of RemoveContext: whether a relation is dropped. -/
theorem closure_any (z x y : Int) (B : Nat) (w : World) (hB : w.cell? ⟨B, 0, none⟩ = some (.int .i64 z)) :
    Calls Try.prog 86 #[.agg #[.int .i64 x, .int .i64 y], .pointer (some ⟨B, 0, none⟩)] w fun e w' => e = .returned (.bool (!notR z (x, y))) ∧ Below w.heap.size w w' := by
  have hb := below_alloc w (.cells #[.int .i64 x, .int .i64 y] 39)
  have u1 := box_first w (.int .i64 x) (.int .i64 y) 39
  have u2' := box_second w (.int .i64 x) (.int .i64 y) 39
  have hB' := (hb.cell (p := ⟨B, 0, none⟩) (World.block_lt_of_cell? w _ hB)).trans hB
  go_enter Try.func86, Try.ntmps86
  go_wp2_with fail
  generalize w.alloc (.cells #[.int .i64 x, .int .i64 y] 39) = W at *
  by_cases h : x = z ∨ y = z
  · have HN := Lib.hid (notR_false h)
    refine (occursIn_true z x y h W).mono ?_
    rintro e w' ⟨rfl, hq⟩
    clear h
    go_wp2_with fail
    go_ret
    exact ⟨by rw [HN.out]; rfl, hb.trans (hq.mono hb.size)⟩
  · have h1 : ¬ x = z := fun e => h (.inl e)
    have h2 : ¬ y = z := fun e => h (.inr e)
    have HN := Lib.hid (notR_true h1 h2)
    refine (occursIn_false z x y h1 h2 W).mono ?_
    rintro e w' ⟨rfl, hq⟩
    clear h h1 h2
    go_wp2_with fail
    go_ret
    exact ⟨by rw [HN.out]; rfl, hb.trans (hq.mono hb.size)⟩
/-- Where the first relation stands that is dropped. -/
def dropAt (z : Int) (m : List (Int × Int)) : Option Nat := m.findIdx? (fun p => !notR z p)
theorem dropAt_here {z : Int} {m : List (Int × Int)} {k : Nat} {x y : Int} (h : ∀ p ∈ m.take k, notR z p = true) (hk : m[k]? = some (x, y)) (hn : notR z (x, y) = false) : dropAt z m = some k := by
  unfold dropAt
  have hl : k < m.length := (List.getElem?_eq_some_iff.1 hk).1
  rw [List.findIdx?_eq_some_iff_getElem]
  refine ⟨hl, ?_, ?_⟩
  · rw [(List.getElem?_eq_some_iff.1 hk).2, hn]
    rfl
  · intro j hj
    rw [h m[j] (by rw [List.mem_take_iff_getElem]; exact ⟨j, by omega, rfl⟩)]
    simp
theorem dropAt_none {z : Int} {m : List (Int × Int)} (h : ∀ p ∈ m, notR z p = true) : dropAt z m = none := by
  unfold dropAt
  rw [List.findIdx?_eq_none_iff]
  intro p hp
  rw [h p hp]
  rfl
def dropI (z : Int) (m : List (Int × Int)) : Int := match dropAt z m with | some k => (k : Int) | none => -1
theorem dropI_some {z : Int} {m : List (Int × Int)} {k : Nat} (h : dropAt z m = some k) : dropI z m = (k : Int) := by unfold dropI; rw [h]
theorem dropI_none {z : Int} {m : List (Int × Int)} (h : dropAt z m = none) : dropI z m = -1 := by unfold dropI; rw [h]
set_option maxRecDepth 100000 in
set_option maxHeartbeats 2000000 in
theorem indexFunc_any (z : Int) (B : Nat) (a : Option Addr) (n c : Nat) (m : List (Int × Int)) (hz : n ≤ 1048576) (w : World) (h : Holds w a n m) (hB : w.cell? ⟨B, 0, none⟩ = some (.int .i64 z)) :
    Calls Try.prog 128 #[.slice a n c, .func (.func 86) #[] #[.pointer (some ⟨B, 0, none⟩)]] w fun e w' =>
      e = .returned (.int .i64 (dropI z m)) ∧ Below w.heap.size w w' := by
  have HH := Lib.hid h
  have HBC : Hid (∀ wr, Below w.heap.size w wr → wr.cell? ⟨B, 0, none⟩ = some (.int .i64 z)) := fun wr hwr => (hwr.cell (p := ⟨B, 0, none⟩) (World.block_lt_of_cell? w _ hB)).trans hB
  clear h hB
  go_enter Try.func128, Try.ntmps128
  go_wp2_with fail
  go_loopw [8] (fun s8 wr => ∃ k : Nat, k ≤ n ∧ s8 = .int .i64 k ∧ Below w.heap.size w wr ∧ Hid (∀ p ∈ m.take k, notR z p = true)) (fun s8 _ => n - (intOf s8).toNat)
  case atStart => exact ⟨0, Nat.zero_le _, rfl, Below.refl _ _, fun p hp => by simp at hp⟩
  case round =>
    obtain ⟨k, hk, rfl, hb, HP⟩ := hrel
    by_cases hlt : k < n
    · obtain ⟨b, off, x, y, rfl, hx, e1, e2⟩ := (HH.out.below hb).at k hlt
      have HX := Lib.hid hx
      have hkn : (k : Int) < (n : Int) := by omega
      have hcall := closure_any z x y B wr (HBC.out wr hb)
      clear hx
      cases hq : notR z (x, y) with
      | true =>
        rw [hq] at hcall
        have HP2 : Hid (∀ p ∈ m.take (k + 1), notR z p = true) := by
          intro p hp
          rw [List.take_add_one, HX.out] at hp
          rcases List.mem_append.1 hp with hp | hp
          · exact HP.out p hp
          · simp at hp
            rw [hp]
            exact hq
        clear hq
        simp only [Bool.not_true] at hcall
        go_wp2_with fail
        refine hcall.mono ?_
        rintro e w' ⟨rfl, hqq⟩
        go_wp2_with fail
        exact ⟨⟨k + 1, by omega, by go_num, hb.trans (hqq.mono hb.size), HP2⟩, by simp [intOf]; omega⟩
      | false =>
        rw [hq] at hcall
        have HR := Lib.hid (dropI_some (dropAt_here HP.out HX.out hq))
        clear hq
        simp only [Bool.not_false] at hcall
        go_wp2_with fail
        refine hcall.mono ?_
        rintro e w' ⟨rfl, hqq⟩
        go_wp2_with fail
        go_ret
        exact ⟨by rw [HR.out]; rfl, hb.trans (hqq.mono hb.size)⟩
    · obtain rfl : k = n := by omega
      have hkn : ¬ (k : Int) < (k : Int) := by omega
      have HR : Hid (dropI z m = -1) := dropI_none (dropAt_none (by
        have := HP.out
        rw [List.take_of_length_le (by rw [HH.out.1]; omega)] at this
        exact this))
      go_wp2_with fail
      go_ret
      exact ⟨by rw [HR.out]; rfl, hb⟩
theorem zeroRelation : ∀ w, (zeroValue 39).run Try.prog w = .ok (.agg #[.int .i64 0, .int .i64 0]) w := Try.zeroValue39
def zl (k : Nat) : List Value := (Builtin.zeroCells (Value.agg #[.int .i64 0, .int .i64 0]).cells k).toList
theorem zl_len (k : Nat) : (zl k).length = k * 2 := by unfold zl Builtin.zeroCells; simp [Value.cells]
theorem zl_one (k : Nat) : ∀ v ∈ zl k, v.oneCell' = true := by
  intro v hv
  unfold zl Builtin.zeroCells at hv
  rw [Array.toList_map, List.mem_map] at hv
  obtain ⟨i, _, rfl⟩ := hv
  have h : i % (Value.agg #[Value.int .i64 0, Value.int .i64 0]).cells.size = i % 2 := rfl
  rw [h]
  rcases (by omega : i % 2 = 0 ∨ i % 2 = 1) with e | e <;> rw [e] <;> rfl
theorem run_clear2 {P : Program} (w : World) (t e ty : TypeId) (ht : P.underlying t = some (.slice e)) (hv : ∀ w, (zeroValue e).run P w = .ok (.agg #[.int .i64 0, .int .i64 0]) w) (b o c k : Nat) (hk : 0 < k)
    (hc : ∀ j, j < k * 2 → (w.cell? ⟨b, o + j, none⟩).isSome = true) (hf : ∀ j, j < k * 2 → w.frozen? ⟨b, o + j, none⟩ = false) :
    (Builtin.clear_ #[t] ty #[.slice (some ⟨b, o, none⟩) k c]).run P w = .ok (.tuple #[]) (w.setCells b o (zl k)) := by
  have hst := run_storeCells_cells (P := P) b o (zl k) 0 w (by rw [zl_len]; simpa using hc) (by rw [zl_len]; simpa using hf) (zl_one k)
  simp only [Nat.add_zero] at hst
  obtain ⟨q, rfl⟩ : ∃ q, k = q + 1 := ⟨k - 1, by omega⟩
  unfold zl at hst ⊢
  simp [Builtin.clear_, run_underlying ht, hv, hst]
/-- The row under way: what is kept of the first j stands ahead; from j on it is as it was. -/
def Del (w wr : World) (g n : Nat) (z : Int) (m : List (Int × Int)) (j f : Nat) : Prop :=
  ∃ ys : List Value, wr.heap[g]? = some (.cells ys.toArray 39) ∧ ys.length = n * 2 ∧ (∀ t, t < f * 2 → ys[t]? = (flat ((m.take j).filter (notR z)))[t]?) ∧ (∀ t, j * 2 ≤ t → ys[t]? = (flat m)[t]?) ∧ Kept (fun b => b = g) w wr
theorem del_cells {w wr : World} {g n j f : Nat} {z : Int} {m : List (Int × Int)} (h : Del w wr g n z m j f) {x y : Int} (hx : m[j]? = some (x, y)) : wr.cell? ⟨g, j * 2, none⟩ = some (.int .i64 x) ∧ wr.cell? ⟨g, j * 2 + 1, none⟩ = some (.int .i64 y) := by
  obtain ⟨ys, h1, _, _, h4, _⟩ := h
  have e := flat_get m j x y hx
  constructor
  · simp only [World.cell?, h1, List.getElem?_toArray]
    rw [h4 _ (Nat.le_refl _), e.1]
    rfl
  · simp only [World.cell?, h1, List.getElem?_toArray]
    rw [h4 _ (by omega), e.2]
    rfl
theorem del_there {w wr : World} {g n j f : Nat} {z : Int} {m : List (Int × Int)} (h : Del w wr g n z m j f) {t : Nat} (ht : t < n * 2) : (∃ v, wr.cell? ⟨g, t, none⟩ = some v) ∧ wr.frozen? ⟨g, t, none⟩ = false := by
  obtain ⟨ys, h1, h2, _⟩ := h
  refine ⟨⟨ys[t], ?_⟩, ?_⟩
  · simp only [World.cell?, h1, List.getElem?_toArray]
    rw [List.getElem?_eq_getElem (by omega)]
    rfl
  · simp only [World.frozen?, h1]
    rfl
theorem del_below {w wr wq : World} {g n j f : Nat} {z : Int} {m : List (Int × Int)} (h : Del w wr g n z m j f) (hb : Below wr.heap.size wr wq) : Del w wq g n z m j f := by
  obtain ⟨ys, h1, h2, h3, h4, h5⟩ := h
  exact ⟨ys, (hb.block g (Array.getElem?_eq_some_iff.1 h1).1).trans h1, h2, h3, h4, h5.trans (Kept.of hb)⟩
theorem del_skip {w wr : World} {g n j f : Nat} {z : Int} {m : List (Int × Int)} (h : Del w wr g n z m j f) {x y : Int} (hx : m[j]? = some (x, y)) (hn : notR z (x, y) = false) : Del w wr g n z m (j + 1) f := by
  obtain ⟨ys, h1, h2, h3, h4, h5⟩ := h
  refine ⟨ys, h1, h2, ?_, fun t ht => h4 t (by omega), h5⟩
  rw [filt_next (notR z) hx, hn]
  simpa using h3
theorem del_keep {w wr : World} {g n j f : Nat} {z : Int} {m : List (Int × Int)} (h : Del w wr g n z m j f) {x y : Int} (hx : m[j]? = some (x, y)) (hn : notR z (x, y) = true) (hf : f = ((m.take j).filter (notR z)).length) (hfj : f < j) (hj : j < n) :
    Del w ((wr.setCell ⟨g, f * 2, none⟩ (.int .i64 x)).setCell ⟨g, f * 2 + 1, none⟩ (.int .i64 y)) g n z m (j + 1) (f + 1) := by
  obtain ⟨ys, h1, h2, h3, h4, h5⟩ := h
  have s1 := heap_setCell_same wr g (f * 2) ys.toArray _ (.int .i64 x) h1
  have s2 := heap_setCell_same (wr.setCell ⟨g, f * 2, none⟩ (.int .i64 x)) g (f * 2 + 1) _ _ (.int .i64 y) s1
  refine ⟨(ys.set (f * 2) (.int .i64 x)).set (f * 2 + 1) (.int .i64 y), ?_, by simpa using h2, ?_, ?_, (h5.setCell (g := g) rfl _).setCell (g := g) rfl _⟩
  · rw [s2]
    simp
  · intro t ht
    rw [filt_next (notR z) hx, hn, if_pos rfl, flat_app]
    have hl : (flat ((m.take j).filter (notR z))).length = f * 2 := by rw [flat_len, hf]
    by_cases e1 : t = f * 2 + 1
    · subst e1
      rw [List.getElem?_set_self (by simp; omega), List.getElem?_append_right (by omega), hl, show f * 2 + 1 - f * 2 = 1 by omega]
      rfl
    · rw [List.getElem?_set_ne (by omega)]
      by_cases e2 : t = f * 2
      · subst e2
        rw [List.getElem?_set_self (by omega), List.getElem?_append_right (by omega), hl, Nat.sub_self]
        rfl
      · rw [List.getElem?_set_ne (by omega), List.getElem?_append_left (by omega)]
        exact h3 t (by omega)
  · intro t ht
    rw [List.getElem?_set_ne (by omega), List.getElem?_set_ne (by omega)]
    exact h4 t (by omega)
theorem dropAt_spec {z : Int} {m : List (Int × Int)} {k : Nat} (h : dropAt z m = some k) : k < m.length ∧ (m.take (k + 1)).filter (notR z) = m.take k := by
  unfold dropAt at h
  rw [List.findIdx?_eq_some_iff_getElem] at h
  obtain ⟨hl, h1, h2⟩ := h
  refine ⟨hl, ?_⟩
  have e := filt_next (notR z) (m := m) (k := k) (x := m[k].1) (y := m[k].2) (List.getElem?_eq_getElem hl)
  have h1' : notR z (m[k].1, m[k].2) = false := by simpa using h1
  rw [e, h1']
  simp only [Bool.false_eq_true, if_false, List.append_nil]
  rw [List.filter_eq_self]
  intro p hp
  rw [List.mem_take_iff_getElem] at hp
  obtain ⟨j, hj, rfl⟩ := hp
  simpa using h2 j (by omega)
theorem dropAt_no {z : Int} {m : List (Int × Int)} (h : dropAt z m = none) : m.filter (notR z) = m := by
  unfold dropAt at h
  rw [List.findIdx?_eq_none_iff] at h
  rw [List.filter_eq_self]
  intro p hp
  simpa using h p hp
theorem del_start {w wr : World} {g n k : Nat} {z : Int} {m : List (Int × Int)} (h : wr.heap[g]? = some (.cells (flat m).toArray 39)) (hl : m.length = n) (hk : dropAt z m = some k) (hK : Kept (fun b => b = g) w wr) : Del w wr g n z m (k + 1) k := by
  obtain ⟨h1, h2⟩ := dropAt_spec hk
  refine ⟨flat m, h, by rw [flat_len, hl], fun t ht => ?_, fun _ _ => rfl, hK⟩
  rw [h2]
  conv => lhs; rw [← List.take_append_drop k m, flat_app]
  rw [List.getElem?_append_left (by rw [flat_len, List.length_take]; omega)]
theorem filt_some {z : Int} {m : List (Int × Int)} {k j : Nat} (hk : dropAt z m = some k) (hj : k < j) : ((m.take j).filter (notR z)).length < j := by
  obtain ⟨h1, h2⟩ := dropAt_spec hk
  have e : m.take j = m.take (k + 1) ++ (m.drop (k + 1)).take (j - (k + 1)) := by
    rw [← List.take_add]
    congr 1
    omega
  rw [e, List.filter_append, h2, List.length_append]
  have := List.length_filter_le (notR z) ((m.drop (k + 1)).take (j - (k + 1)))
  rw [List.length_take] at this
  rw [List.length_take]
  omega
set_option maxRecDepth 100000 in
set_option maxHeartbeats 4000000 in
theorem deleteFunc_any (z : Int) (B g n : Nat) (m : List (Int × Int)) (hl : m.length = n) (hz : n ≤ 1048576) (w : World) (h : w.heap[g]? = some (.cells (flat m).toArray 39)) (hB : w.cell? ⟨B, 0, none⟩ = some (.int .i64 z)) (hne : B ≠ g) :
    Calls Try.prog 85 #[.slice (some ⟨g, 0, none⟩) n n, .func (.func 86) #[] #[.pointer (some ⟨B, 0, none⟩)]] w fun e w' =>
      e = .returned (.slice (some ⟨g, 0, none⟩) (m.filter (notR z)).length n) ∧ (∃ ys : List Value, w'.heap[g]? = some (.cells ys.toArray 39) ∧ ys.length = n * 2 ∧ ys.take ((m.filter (notR z)).length * 2) = flat (m.filter (notR z))) ∧ Kept (fun b => b = g) w w' := by
  have hH : Holds w (some ⟨g, 0, none⟩) n m := by
    refine ⟨hl, .inr ⟨g, 0, rfl, (Array.getElem?_eq_some_iff.1 h).1, fun i x hi => ?_⟩⟩
    have e := flat_get m i x.1 x.2 hi
    rw [Nat.zero_add]
    constructor
    · simp only [World.cell?, h, List.getElem?_toArray]
      rw [e.1]
      rfl
    · simp only [World.cell?, h, List.getElem?_toArray]
      rw [e.2]
      rfl
  have HC : Hid (∀ wr, Kept (fun b => b = g) w wr → wr.cell? ⟨B, 0, none⟩ = some (.int .i64 z)) := fun wr hk => hk.cell hB hne
  have HW := Lib.hid h
  have HI := Lib.hid (indexFunc_any z B (some ⟨g, 0, none⟩) n n m hz w hH hB)
  have HL := Lib.hid hl
  clear h hB hH
  go_enter Try.func85, Try.ntmps85
  go_wp2_with fail
  refine HI.out.mono ?_
  rintro e w1 ⟨rfl, b1⟩
  have HW1 : Hid (w1.heap[g]? = some (.cells (flat m).toArray 39)) := (b1.block g (Array.getElem?_eq_some_iff.1 HW.out).1).trans HW.out
  have HK1 : Hid (Kept (fun b => b = g) w w1) := Kept.of b1
  cases hd : dropAt z m with
  | none =>
    have HD := Lib.hid (dropAt_no hd)
    rw [dropI_none hd]
    clear hd
    go_wp2_with fail
    go_ret
    rw [HD.out]
    exact ⟨by rw [HL.out]; rfl, ⟨flat m, HW1.out, by rw [flat_len, HL.out], List.take_of_length_le (by rw [flat_len]; omega)⟩, HK1.out⟩
  | some k =>
    have HD := Lib.hid hd
    have hkn : k < n := by rw [← HL.out]; exact (dropAt_spec hd).1
    have HD0 := Lib.hid (del_start HW1.out HL.out hd HK1.out)
    have hF0 : ((m.take (k + 1)).filter (notR z)).length = k := by rw [(dropAt_spec hd).2, List.length_take, HL.out]; omega
    have HF0 := Lib.hid hF0
    rw [dropI_some hd]
    clear hd hF0
    have hq : ((k : Int) == -1) = false := by rw [beq_eq_false_iff_ne]; omega
    have hkm : ¬ (k : Int) = -1 := by omega
    go_wp2_with fail
    go_loopw [5, 6] (fun s5 s6 wr => ∃ j f : Nat, k < j ∧ j ≤ n ∧ s6 = .int .i64 j ∧ s5 = .int .i64 f ∧ Hid (f = ((m.take j).filter (notR z)).length) ∧ Del w wr g n z m j f) (fun _ s6 _ => n - (intOf s6).toNat)
    case atStart => exact ⟨k + 1, k, by omega, by omega, by go_num, rfl, HF0.out.symm, HD0.out⟩
    case round =>
      obtain ⟨j, f, hkj, hj, rfl, rfl, HF, hR⟩ := hrel
      have hfj : f < j := by rw [HF.out]; exact filt_some HD.out hkj
      by_cases hlt : j < n
      · obtain ⟨x, hx⟩ : ∃ x, m[j]? = some x := ⟨_, List.getElem?_eq_getElem (by rw [HL.out]; exact hlt)⟩
        obtain ⟨x, y⟩ := x
        obtain ⟨e1, e2⟩ := del_cells hR hx
        have hji : (j : Int) < (n : Int) := by omega
        have hb7 := below_alloc wr (.cells #[.int .i64 x, .int .i64 y] 39)
        have u1 := box_first wr (.int .i64 x) (.int .i64 y) 39
        have u2' := box_second wr (.int .i64 x) (.int .i64 y) 39
        have hsz7 : wr.heap.size < (wr.alloc (.cells #[.int .i64 x, .int .i64 y] 39)).heap.size := by simp
        have HX := Lib.hid hx
        have HR := Lib.hid hR
        have HKR : Hid (Kept (fun b => b = g) w wr) := by obtain ⟨_, _, _, _, _, h5⟩ := hR; exact h5
        clear hx hR
        go_wp2_with fail
        generalize wr.alloc (.cells #[.int .i64 x, .int .i64 y] 39) = W7 at *
        have hcall := closure_any z x y B W7 (HC.out W7 (HKR.out.trans (Kept.of hb7)))
        cases hn : notR z (x, y) with
        | true =>
          rw [hn] at hcall
          simp only [Bool.not_true] at hcall
          refine hcall.mono ?_
          rintro e w8 ⟨rfl, b8⟩
          have b78 := hb7.trans (b8.mono hb7.size)
          have v1 := (b8.cell (p := ⟨wr.heap.size, 0, none⟩) hsz7).trans u1
          have v2 := (b8.cell (p := ⟨wr.heap.size, 1, none⟩) hsz7).trans u2'
          have hR8 := del_below HR.out b78
          obtain ⟨⟨c0, hc0⟩, hf0⟩ := del_there hR8 (t := f * 2) (by omega)
          obtain ⟨⟨c1, hc1⟩, hf1⟩ := del_there hR8 (t := f * 2 + 1) (by omega)
          have HR2 := Lib.hid (del_keep hR8 HX.out hn HF.out hfj hlt)
          have HF2 : Hid (f + 1 = ((m.take (j + 1)).filter (notR z)).length) := by unfold Hid; rw [filt_next (notR z) HX.out, hn, if_pos rfl, List.length_append, ← HF.out]; rfl
          have hfi : (f : Int) < (n : Int) := by omega
          clear hcall hn hR8 e1 e2 u1 u2' b8 hb7 b78
          go_wp2_with fail
          exact ⟨⟨j + 1, f + 1, by omega, by omega, by go_num, by go_num, HF2, HR2.out⟩, by simp [intOf]; omega⟩
        | false =>
          rw [hn] at hcall
          simp only [Bool.not_false] at hcall
          refine hcall.mono ?_
          rintro e w8 ⟨rfl, b8⟩
          have b78 := hb7.trans (b8.mono hb7.size)
          have HR2 := Lib.hid (del_skip (del_below HR.out b78) HX.out hn)
          have HF2 : Hid (f = ((m.take (j + 1)).filter (notR z)).length) := by unfold Hid; rw [filt_next (notR z) HX.out, hn, if_neg (by simp), List.append_nil, ← HF.out]
          clear hcall hn e1 e2 u1 u2' b8 hb7 b78
          go_wp2_with fail
          exact ⟨⟨j + 1, f, by omega, by omega, by go_num, rfl, HF2, HR2.out⟩, by simp [intOf]; omega⟩
      · obtain rfl : j = n := by omega
        have hjn : ¬ (j : Int) < (j : Int) := by omega
        have hff := HF.out
        rw [List.take_of_length_le (by rw [HL.out]; omega)] at hff
        have HFF := Lib.hid hff
        have hfn : ¬ j = f := by omega
        have hfn2 : ¬ f = j := by omega
        have hfi : (f : Int) ≤ (j : Int) := by omega
        have hcl : ∀ c ty, (Builtin.clear_ #[25] ty #[.slice (some ⟨g, f * 2, none⟩) (j - f) c]).run Try.prog wr = .ok (.tuple #[]) (wr.setCells g (f * 2) (zl (j - f))) := fun c ty =>
          run_clear2 wr _ _ ty Try.underlying25 zeroRelation g (f * 2) c (j - f) (by omega) (fun t ht => by obtain ⟨⟨v, hv⟩, _⟩ := del_there hR (t := f * 2 + t) (by omega); rw [hv]; rfl) (fun t ht => (del_there hR (t := f * 2 + t) (by omega)).2)
        have HE : Hid ((∃ ys : List Value, (wr.setCells g (f * 2) (zl (j - f))).heap[g]? = some (.cells ys.toArray 39) ∧ ys.length = j * 2 ∧ ys.take ((m.filter (notR z)).length * 2) = flat (m.filter (notR z))) ∧ Kept (fun b => b = g) w (wr.setCells g (f * 2) (zl (j - f)))) := by
          obtain ⟨ys, h1, h2, h3, h4, h5⟩ := hR
          refine ⟨⟨splice ys (f * 2) (zl (j - f)), ?_, ?_, ?_⟩, kept_setCells h5 (g := g) rfl _⟩
          · rw [setCells_row h1 (by rw [zl_len]; omega) (zl_one _)]
            exact setRow_heap _ _ _ _ _ _ h1
          · rw [length_splice _ _ _ (by rw [zl_len]; omega), h2]
          · rw [← HFF.out]
            unfold splice
            rw [List.take_append_of_le_length (by rw [List.length_take]; omega), List.take_take, Nat.min_self]
            apply List.ext_getElem?
            intro t
            rw [List.getElem?_take]
            by_cases ht : t < f * 2
            · rw [if_pos ht, h3 t ht, List.take_of_length_le (by rw [HL.out]; omega)]
            · rw [if_neg ht, List.getElem?_eq_none (by rw [flat_len, ← HFF.out]; omega)]
        clear hR hff
        go_wp2_with fail
        go_ret
        exact ⟨by rw [← HFF.out]; rfl, HE.out.1, HE.out.2⟩
end Go.Proofs.Ythcjembekadijaa.DelF
