/- slices.Insert of one relation into a row without room. -/
import Derived.Test.YthcjembekadijaaOrderSaidPartau
import Derived.Test.YthcjembekadijaaOrderSaidPartam
import Derived.Lib.AppendZeros
import Derived.Deep.AppendLies
import Derived.Test.YthcjembekadijaaOrderSaidPartao
import Derived.Test.YthcjembekadijaaOrderSaidPartaw
import Derived.Test.YthcjembekadijaaRenumberSaidPartae
import Derived.Test.YthcjembekadijaaOrderSaidPartay
import Derived.Test.YthcjembekadijaaRenumberSaidPartac
namespace Go.Proofs.Ythcjembekadijaa.InsR
open Go.RowKit Pairs Rec Keep Row2 Copy RelM
open DelC (setCells_row flat_app kept_drew kept_setCells)

def zl (k : Nat) : List Value := (Builtin.zeroCells (Value.agg #[.int .i64 0, .int .i64 0]).cells k).toList
theorem zl_len (k : Nat) : (zl k).length = k * 2 := by unfold zl Builtin.zeroCells; simp [Value.cells]
theorem run_append_zeros_grow {P : Program} (w : World) (t tn ty e : TypeId) (i : TypeInfo) (kn : IntKind) (ht : P.underlying t = some (.slice e)) (htn : P.underlying tn = some (.int kn)) (hi : P.info? e = some i) (hz : i.zero = some (.agg #[.int .i64 0, .int .i64 0])) (hsz : i.size = 2) (hby : i.bytes = 16)
    (b : Addr) (sLen sCap : Nat) (olds : List Value) (hlo : olds.length = sLen * 2) (holds : ∀ j v, olds[j]? = some v → w.cell? (b.add j) = some v)
    (n : Nat) (h0 : 0 < n) (hg : sCap < sLen + n) (hn : sLen + n ≤ 1048577) :
    (Builtin.append_ #[t, tn] ty #[.slice (some b) sLen sCap, .int .i64 (n : Int)]).run P w =
      .ok (.slice (some ⟨w.heap.size, 0, none⟩) (sLen + n) (grownCap w (sLen + n) sCap e))
        (w.drew.alloc (.cells (olds ++ zl n ++ zl (grownCap w (sLen + n) sCap e - (sLen + n))).toArray e)) := by
  have hnn : ¬ (sLen + n ≤ sCap) := by omega
  have hw : IntKind.i64.wrap (n : Int) = n := by rw [IntKind.wrap_i64]; omega
  have h63' : ¬ (9223372036854775807 < ((sLen : Int) + (n : Int))) := by omega
  have hfit := growslice_fits (need := sLen + n) (old := sCap) (bytes := i.bytes) (by omega) (by rw [hby]; omega)
  have h48' : ¬ (281474976710656 < Builtin.nextslicecap (sLen + n) sCap * i.bytes) := by omega
  have h48i : ¬ (281474976710656 < (n : Int) * (i.bytes : Int)) := by rw [hby]; omega
  have hneg : ¬ ((n : Int) < 0) := by omega
  have hns : ¬ (n * i.size = 0) := Nat.mul_ne_zero (by omega) (by omega)
  have hfo := run_firstCells_some (P := P) w.drew i.size sLen b sLen sCap olds (by rw [hsz]; exact hlo) (by simpa using holds)
  have hn0 : n ≠ 0 := by omega
  simp [Builtin.append_, run_underlying ht, run_underlying htn, sizeOf, typeInfo, zeroValue, hi, hz, asInt, asIntOf, hw, hneg, hns, hnn, h63', h48', h48i, Question.forced, hfo, newRow, grownCap]
  congr 2
  apply Array.ext'
  simp [zl]
theorem splice_app (A C Z : List Value) {off : Nat} (h : off = A.length) : splice (A ++ Z) off C = A ++ (C ++ Z.drop C.length) := by
  unfold splice
  rw [h, List.take_left, ← List.drop_drop, List.drop_left]
theorem own_whole {X : World} {g n B : Nat} {T : TypeId} {l : List (Int × Int)} (h : X.heap[g]? = some (.cells (flat l).toArray T)) (hl : l.length = n) (hn : n ≤ 1048576) (hB : B ≤ g) : X.ownsRow B T 2 (.slice (some ⟨g, 0, none⟩) n n) n (flat l) := own_of_block h hl hn hB
set_option maxRecDepth 1000000 in
set_option maxHeartbeats 4000000 in
theorem insert_any (B g i r : Nat) (l1 l2 : List (Int × Int)) (x y : Int) (gv : Nat) (hl1 : l1.length = i) (hl2 : l2.length = r) (hn : i + r ≤ 1048576) (w : World) (h : w.heap[g]? = some (.cells (flat (l1 ++ l2)).toArray 39)) (hv : w.heap[gv]? = some (.cells #[.int .i64 x, .int .i64 y] 39)) (hB : B ≤ g) (hBw : B ≤ w.heap.size) :
    Calls Try.prog 92 #[.slice (some ⟨g, 0, none⟩) (i + r) (i + r), .int .i64 i, .slice (some ⟨gv, 0, none⟩) 1 1] w fun e w' => ∃ g' cap : Nat, e = .returned (.slice (some ⟨g', 0, none⟩) (i + r + 1) cap) ∧
      w'.ownsRow B 39 2 (.slice (some ⟨g', 0, none⟩) (i + r + 1) cap) (i + r + 1) (flat (l1 ++ (x, y) :: l2)) ∧ (g' = g ∨ g' = w.heap.size) ∧ Kept (fun b => b = g) w w' := by
  obtain ⟨i0, hi, hy0, hy1, hy2⟩ := info_parts infoRelation
  have HH := Lib.hid h
  have HV := Lib.hid hv
  have hglt : g < w.heap.size := (Array.getElem?_eq_some_iff.1 h).1
  clear h hv
  have hn1 : ((1 : Int) == 0) = false := by decide
  by_cases hr : r = 0
  · have hl0 : l2 = [] := List.eq_nil_of_length_eq_zero (by omega)
    subst hl0
    subst hr
    have hh := HH.out
    rw [List.append_nil] at hh
    have hown := own_whole (B := B) hh hl1 (by omega) hB
    have hsrc := World.news_of_block HV.out
    have hq : ((i : Int) == (i : Int)) = true := by simp
    clear hh
    simp only [Nat.add_zero]
    go_enter Try.func92, Try.ntmps92
    go_wp2_with (at_builtin; refine wpList_append_lies _ rfl _ _ 25 rfl B 39 i0 (.agg #[.int .i64 0, .int .i64 0]) 2 16 Try.underlying25 hi hy0 hy1 hy2 rfl (by decide) _ _ _ rfl hown ⟨gv, 0, none⟩ 1 1 [.int .i64 x, .int .i64 y] rfl rfl hsrc (by simp [Value.oneCell']) (by omega) (by unfold maxLen; omega) (by omega) hBw w.heap.size rfl ?_; intro g' cap w1 hown' hgrow hat hlt)
    go_ret
    refine ⟨g', cap, rfl, ?_, ?_, ?_⟩
    · rw [flat_app]
      exact hown'
    · rcases hat with hat | hat
      · exact .inl (by have e : some g = some g' := hat; injection e with e; exact e.symm)
      · exact .inr hat
    · exact ⟨hgrow.os, hgrow.tape, hgrow.output, hgrow.size, fun k hk hs => hgrow.block k hk (fun e => hs (by have e' : some k = some g := e; injection e'))⟩
  · have hq : ((i : Int) == (i : Int) + (r : Int)) = false := by rw [beq_eq_false_iff_ne]; omega
    have hq2 : ¬ (i : Int) = (i : Int) + (r : Int) := by omega
    have HO : Hid (∀ j v, (flat l1)[j]? = some v → w.cell? ((⟨g, 0, none⟩ : Addr).add j) = some v) := by
      intro j v hj
      rw [Addr.add_lit, Nat.zero_add]
      simp only [World.cell?, HH.out, List.getElem?_toArray]
      rw [flat_app, List.getElem?_append_left (List.getElem?_eq_some_iff.1 hj).1, hj]
      rfl
    have hrun := run_append_zeros_grow (P := Try.prog) w 25 3 25 39 i0 .i64 Try.underlying25 Try.underlying3 hi hy0 hy1 hy2 ⟨g, 0, none⟩ i (i + r) (flat l1) (by rw [flat_len, hl1]) HO.out (r + 1) (by omega) (by omega) (by omega)
    have HC := grownCap_ge w (i + (r + 1)) (i + r) 39
    have HCM := grownCap_le_maxLen w (i + (r + 1)) (i + r) 39 (by unfold maxLen; omega)
    generalize hcp : grownCap w (i + (r + 1)) (i + r) 39 = cap at hrun HC HCM
    clear hcp
    have HRUN := Lib.hid hrun
    clear hrun
    go_enter Try.func92, Try.ntmps92
    go_wp2_with (at_builtin; refine Lib.wpList_append_run _ rfl _ _ _ _ rfl (.slice (some ⟨g, 0, none⟩) i (i + r)) (.int .i64 ((r + 1 : Nat) : Int)) rfl (by first | rfl | (show Value.int .i64 _ = _; congr 1; omega)) _ _ HRUN.out ?_)
    have hX1 : (w.alloc (.cells (flat l1 ++ (zl (r + 1) ++ zl (cap - (i + (r + 1))))).toArray 39)).drew.heap[w.heap.size]? = some (.cells (flat l1 ++ (zl (r + 1) ++ zl (cap - (i + (r + 1))))).toArray 39) := heap_alloc_new w _
    have hba := (below_alloc w (.cells (flat l1 ++ (zl (r + 1) ++ zl (cap - (i + (r + 1))))).toArray 39)).drew
    have hcl : (flat l1 ++ (zl (r + 1) ++ zl (cap - (i + (r + 1))))).length = cap * 2 := by rw [List.length_append, List.length_append, flat_len, zl_len, zl_len, hl1]; omega
    have hgvlt : gv < w.heap.size := (Array.getElem?_eq_some_iff.1 HV.out).1
    have hsrc := World.news_of_block ((hba.block gv hgvlt).trans HV.out)
    have hrun2 := run_copy2_all (P := Try.prog) (w.alloc (.cells (flat l1 ++ (zl (r + 1) ++ zl (cap - (i + (r + 1))))).toArray 39)).drew 25 25 3 39 Try.underlying25 sizeRelation (some ⟨w.heap.size, i * 2, none⟩) (some ⟨gv, 0, none⟩) (r + 1) (cap - i) 1 1 1 (Nat.min_eq_left (by omega)) w.heap.size (i * 2) (flat l1 ++ (zl (r + 1) ++ zl (cap - (i + (r + 1))))) 39 hX1 [.int .i64 x, .int .i64 y] rfl (fun _ => ⟨rfl, _, rfl, hsrc⟩) (by rw [hcl]; simp; omega) (by intro v hv; simp at hv; rcases hv with rfl | rfl <;> rfl)
    rw [hrun2]
    have HX2 := Lib.hid (setRow_heap _ w.heap.size _ (splice (flat l1 ++ (zl (r + 1) ++ zl (cap - (i + (r + 1))))) (i * 2) [.int .i64 x, .int .i64 y]).toArray _ _ hX1)
    have HG2 := Lib.hid ((setRow_other _ w.heap.size g (splice (flat l1 ++ (zl (r + 1) ++ zl (cap - (i + (r + 1))))) (i * 2) [.int .i64 x, .int .i64 y]).toArray (Nat.ne_of_lt hglt)).trans ((hba.block g hglt).trans HH.out))
    have HB2 := Lib.hid (below_setRow hba (Nat.le_refl _) (splice (flat l1 ++ (zl (r + 1) ++ zl (cap - (i + (r + 1))))) (i * 2) [.int .i64 x, .int .i64 y]).toArray)
    have HCL := Lib.hid (length_splice (flat l1 ++ (zl (r + 1) ++ zl (cap - (i + (r + 1))))) (i * 2) [Value.int .i64 x, Value.int .i64 y] (by rw [hcl]; simp; omega))
    rw [hcl] at HCL
    have HEQ : Hid (splice (flat l1 ++ (zl (r + 1) ++ zl (cap - (i + (r + 1))))) (i * 2) [Value.int .i64 x, Value.int .i64 y] = (flat l1 ++ [Value.int .i64 x, Value.int .i64 y]) ++ (zl (r + 1) ++ zl (cap - (i + (r + 1)))).drop 2) := by
      unfold Hid
      rw [splice_app _ _ _ (by rw [flat_len, hl1]), List.append_assoc]
      rfl
    clear hrun2 hX1 hba hcl hsrc
    generalize ((w.alloc (.cells (flat l1 ++ (zl (r + 1) ++ zl (cap - (i + (r + 1))))).toArray 39)).drew).setRow w.heap.size (splice (flat l1 ++ (zl (r + 1) ++ zl (cap - (i + (r + 1))))) (i * 2) [.int .i64 x, .int .i64 y]).toArray = X2 at *
    have hp1 : (0 : Int) ≤ (i : Int) + 1 := by omega
    have hp2 : (i : Int) + 1 ≤ (i : Int) + ((r : Int) + 1) := by omega
    have hp3 : ((i : Int) + 1).toNat = i + 1 := by omega
    have hp4 : (i : Int) ≤ (i : Int) + (r : Int) := by omega
    have hcne : ¬ cap = i + 1 := by omega
    have hwr : IntKind.i64.wrap ((i : Int) + 1) = (i : Int) + 1 := by rw [IntKind.wrap_i64]; omega
    go_wp2_with fail
    have HSR : Hid (∀ j v, (flat l2)[j]? = some v → X2.drew.cell? ((⟨g, i * 2, none⟩ : Addr).add j) = some v) := by
      intro j v hj
      rw [Addr.add_lit]
      show X2.cell? _ = some v
      simp only [World.cell?, HG2.out, List.getElem?_toArray]
      rw [flat_app, List.getElem?_append_right (by rw [flat_len, hl1]; omega), flat_len, hl1, show i * 2 + j - i * 2 = j by omega, hj]
      rfl
    have HF2 : Hid ((flat l2).length = r * 2) := by unfold Hid; rw [flat_len, hl2]
    have hg' : X2.drew.heap[w.heap.size]? = some (.cells (splice (flat l1 ++ (zl (r + 1) ++ zl (cap - (i + (r + 1))))) (i * 2) [.int .i64 x, .int .i64 y]).toArray 39) := HX2.out
    have HG' := Lib.hid hg'
    clear hg'
    have hfit : (i + 1) * 2 + (flat l2).length ≤ (splice (flat l1 ++ (zl (r + 1) ++ zl (cap - (i + (r + 1))))) (i * 2) [Value.int .i64 x, Value.int .i64 y]).length := by rw [HF2.out, HCL.out]; omega
    have HFT := Lib.hid hfit
    clear hfit
    go_region_law (refine step_copy2 rfl (.tmp 50) (.tmp 53) 25 25 rfl 39 Try.underlying25 sizeRelation (some ⟨w.heap.size, (i + 1) * 2, none⟩) (some ⟨g, i * 2, none⟩) r (cap - (i + 1)) r r (by simp [Act.eval, Act.put]; omega) (by simp [Act.eval, Act.put]) r (Nat.min_self r) w.heap.size ((i + 1) * 2) _ 39 HG'.out (flat l2) HF2.out (fun _ => ⟨rfl, _, rfl, HSR.out⟩) HFT.out (flat_one l2) ?_)
    go_wp2_with fail
    go_ret
    refine ⟨w.heap.size, cap, rfl, ?_, .inr rfl, ?_⟩
    · have hb3 := setRow_heap _ w.heap.size _ (splice (splice (flat l1 ++ (zl (r + 1) ++ zl (cap - (i + (r + 1))))) (i * 2) [.int .i64 x, .int .i64 y]) ((i + 1) * 2) (flat l2)).toArray _ _ HG'.out
      have hle := length_splice (splice (flat l1 ++ (zl (r + 1) ++ zl (cap - (i + (r + 1))))) (i * 2) [Value.int .i64 x, Value.int .i64 y]) ((i + 1) * 2) (flat l2) HFT.out
      rw [HCL.out] at hle
      refine ⟨by rw [flat_len, List.length_append, List.length_cons, hl1, hl2]; omega, .inr ⟨w.heap.size, cap, _, rfl, hBw, hb3, by omega, HCM, by simpa using hle, ?_⟩⟩
      rw [HEQ.out, splice_app _ _ _ (by rw [List.length_append, flat_len, hl1]; simp; omega)]
      have e2 : flat l1 ++ [Value.int .i64 x, Value.int .i64 y] ++ flat l2 = flat (l1 ++ (x, y) :: l2) := by rw [flat_app, flat_cons, List.append_assoc]; rfl
      rw [← List.append_assoc, e2]
      have e3 : (flat (l1 ++ (x, y) :: l2)).length = (i + r + 1) * 2 := by rw [flat_len, List.length_append, List.length_cons, hl1, hl2]; omega
      show List.take _ (List.toArray _).toList = _
      rw [← e3]
      exact List.take_left
    · have hb3 := below_setRow (B := w.heap.size) (w0 := w) (w := X2.drew) (g := w.heap.size) HB2.out.drew (Nat.le_refl _) (splice (splice (flat l1 ++ (zl (r + 1) ++ zl (cap - (i + (r + 1))))) (i * 2) [.int .i64 x, .int .i64 y]) ((i + 1) * 2) (flat l2)).toArray
      exact Kept.of hb3
end Go.Proofs.Ythcjembekadijaa.InsR
/- The program's search among relations in their order. -/
namespace Go.Proofs.Ythcjembekadijaa.SearchR
open Go.RowKit Pairs Find2 GoodM RelM Cmp Search

/-- Relations in their order. -/
def Asc2 (m : List (Int × Int)) : Prop := ∀ (i j : Nat) (x y : Int × Int), i ≤ j → m[i]? = some x → m[j]? = some y → x = y ∨ before x y = true
def isAtR (m : List (Int × Int)) (t : Int × Int) : Bool := decide (m[plR m t]? = some t)
theorem isAtR_eq {m : List (Int × Int)} {t : Int × Int} {i : Nat} (h : plR m t = i) : isAtR m t = decide (m[i]? = some t) := by unfold isAtR; rw [h]
set_option maxRecDepth 100000 in
set_option maxHeartbeats 8000000 in
theorem search_any (a : Option Addr) (n c : Nat) (m : List (Int × Int)) (tu tv : Int) (w : World) (hz : n ≤ 1048576) (h : Holds w a n m) (hA : Asc2 m) :
    Calls Try.prog 90 #[.slice a n c, .agg #[.int .i64 tu, .int .i64 tv], .func (.func 91) #[] #[]] w fun e w' => e = .returned (.tuple #[.int .i64 (plR m (tu, tv) : Nat), .bool (isAtR m (tu, tv))]) ∧ Below w.heap.size w w' := by
  have hb0 := below_alloc w (.cells #[.int .i64 tu, .int .i64 tv] 39)
  have f1 := box_first w (.int .i64 tu) (.int .i64 tv) 39
  have f2 := box_second w (.int .i64 tu) (.int .i64 tv) 39
  have hsz : w.heap.size < (w.alloc (.cells #[.int .i64 tu, .int .i64 tv] 39)).heap.size := by simp
  have HH := Lib.hid (h.below hb0)
  have HA := Lib.hid hA
  clear h hA
  go_enter Try.func90, Try.ntmps90
  go_wp2_with fail
  generalize w.alloc (.cells #[.int .i64 tu, .int .i64 tv] 39) = W at *
  go_loopg [9, 10] n (fun kx s9 s10 wr => ∃ lo hi : Nat, s9 = .int .i64 lo ∧ s10 = .int .i64 hi ∧ lo ≤ hi ∧ hi ≤ n ∧ hi - lo ≤ kx ∧ Below W.heap.size W wr ∧ Hid ((∀ (j : Nat) x, j < lo → m[j]? = some x → before x (tu, tv) = true) ∧ (∀ (j : Nat) x, hi ≤ j → m[j]? = some x → before x (tu, tv) = false)))
  case atStart => exact ⟨0, n, rfl, rfl, Nat.zero_le _, Nat.le_refl _, by omega, Below.refl _ _, ⟨fun j x hj => absurd hj (by omega), fun j x hj hx => absurd (List.getElem?_eq_some_iff.1 hx).1 (by rw [HH.out.1]; omega)⟩⟩
  case round =>
    obtain ⟨lo, hi, rfl, rfl, hlh, hin, hg, hb, I⟩ := hrel
    have q1 := (hb.cell (p := ⟨w.heap.size, 0, none⟩) hsz).trans f1
    have q2 := (hb.cell (p := ⟨w.heap.size, 1, none⟩) hsz).trans f2
    by_cases hlt : lo < hi
    · obtain ⟨b, off, x, y, rfl, hx, e1, e2⟩ := (HH.out.below hb).at ((lo + hi) / 2) (by omega)
      have HX := Lib.hid hx
      have cB : ∀ d os, Calls Try.prog 91 #[.agg #[.int .i64 x, .int .i64 y], .agg #[.int .i64 tu, .int .i64 tv]] (Sort.grow (redrawn wr d) os) fun e w'' => e = .returned (.int .i64 (cmpR (x, y) (tu, tv))) ∧ ∃ p : Regrown, w'' = Sort.grow (redrawn wr p.d) p.os := fun d os => Calls.regrown_of (Avr.compareRel_below x y tu tv _)
      clear hx
      cases hbf : before (x, y) (tu, tv) with
      | true =>
        have hcm : cmpR (x, y) (tu, tv) < 0 := (cmpR_lt _ _).2 hbf
        have HBF := Lib.hid hbf
        clear hbf
        generalize cmpR (x, y) (tu, tv) = r at *
        go_wp2_with fail
        have k1 := cell_regrown e1
        have k2 := cell_regrown e2
        have k3 := cell_regrown q1
        have k4 := cell_regrown q2
        refine wp_region_quiet_below (by kernel_rfl) (by kernel_rfl) ?_
        repeat (go_big_quiet_step ((go_at_call 91; exact cB _ _)))
        refine wpQuiet_nil ?_
        intro _ hw'
        obtain ⟨⟨dq, osq⟩, hw''⟩ := hw'
        subst hw''
        go_wp2_with fail
        go_roundg (hi - ((lo + hi) / 2 + 1))
        case measure => omega
        case rel =>
          exact ⟨(lo + hi) / 2 + 1, hi, by rw [show ((lo : Int) + (hi : Int)) / 2 + 1 = (((lo + hi) / 2 + 1 : Nat) : Int) by omega], rfl, by omega, hin, Nat.le_refl _, hb.trans ((below_regrown wr dq osq).mono hb.size), ⟨fun j z hj hz => by
            rcases HA.out j ((lo + hi) / 2) z (x, y) (by omega) hz HX.out with e | e
            · rw [e]; exact HBF.out
            · exact before_trans e HBF.out, I.out.2⟩⟩
      | false =>
        have hcm : ¬ cmpR (x, y) (tu, tv) < 0 := fun h => by rw [(cmpR_lt _ _).1 h] at hbf; cases hbf
        have HBF := Lib.hid hbf
        clear hbf
        generalize cmpR (x, y) (tu, tv) = r at *
        go_wp2_with fail
        have k1 := cell_regrown e1
        have k2 := cell_regrown e2
        have k3 := cell_regrown q1
        have k4 := cell_regrown q2
        refine wp_region_quiet_below (by kernel_rfl) (by kernel_rfl) ?_
        repeat (go_big_quiet_step ((go_at_call 91; exact cB _ _)))
        refine wpQuiet_nil ?_
        intro _ hw'
        obtain ⟨⟨dq, osq⟩, hw''⟩ := hw'
        subst hw''
        go_wp2_with fail
        go_roundg ((lo + hi) / 2 - lo)
        case measure => omega
        case rel =>
          exact ⟨lo, (lo + hi) / 2, rfl, by rw [show ((lo : Int) + (hi : Int)) / 2 = (((lo + hi) / 2 : Nat) : Int) by omega], by omega, by omega, Nat.le_refl _, hb.trans ((below_regrown wr dq osq).mono hb.size), ⟨I.out.1, fun j z hj hz => by
            rcases HA.out ((lo + hi) / 2) j (x, y) z hj HX.out hz with e | e
            · rw [← e]; exact HBF.out
            · cases hq : before z (tu, tv) with
              | false => rfl
              | true =>
                have h3 := HBF.out
                rw [before_trans e hq] at h3
                cases h3⟩⟩
    · obtain rfl : hi = lo := by omega
      have hM := plR_eq (m := m) (x := (tu, tv)) (i := hi) (by rw [HH.out.1]; exact hin) I.out.1 (fun x hx => I.out.2 hi x (Nat.le_refl _) hx)
      have HP := Lib.hid hM
      have HQ := Lib.hid (isAtR_eq hM)
      clear hM
      have HBB := Lib.hid (hb0.trans (hb.mono hb0.size))
      by_cases hn : hi < n
      · obtain ⟨b, off, x, y, rfl, hx, e1, e2⟩ := (HH.out.below hb).at hi hn
        have HX := Lib.hid hx
        have hni : (hi : Int) < (n : Int) := by omega
        have cB : ∀ d os, Calls Try.prog 91 #[.agg #[.int .i64 x, .int .i64 y], .agg #[.int .i64 tu, .int .i64 tv]] (Sort.grow (redrawn wr d) os) fun e w'' => e = .returned (.int .i64 (cmpR (x, y) (tu, tv))) ∧ ∃ p : Regrown, w'' = Sort.grow (redrawn wr p.d) p.os := fun d os => Calls.regrown_of (Avr.compareRel_below x y tu tv _)
        clear hx
        by_cases hxy : (x, y) = (tu, tv)
        · have hcm : cmpR (x, y) (tu, tv) = 0 := (cmpR_eq _ _).2 hxy
          have HS : Hid (isAtR m (tu, tv) = true) := by unfold Hid; rw [HQ.out, HX.out, hxy]; simp
          rw [hcm] at cB
          clear hxy hcm
          go_wp2_with fail
          have k1 := cell_regrown e1
          have k2 := cell_regrown e2
          have k3 := cell_regrown q1
          have k4 := cell_regrown q2
          refine wp_region_quiet_below (by kernel_rfl) (by kernel_rfl) ?_
          repeat (go_big_quiet_step ((go_at_call 91; exact cB _ _)))
          refine wpQuiet_nil ?_
          intro _ hw'
          obtain ⟨⟨dq, osq⟩, hw''⟩ := hw'
          subst hw''
          go_wp2_with fail
          go_ret2
          exact ⟨by rw [HP.out, HS.out]; rfl, HBB.out.trans ((below_regrown wr dq osq).mono HBB.out.size)⟩
        · have hcm : ¬ cmpR (x, y) (tu, tv) = 0 := fun h => hxy ((cmpR_eq _ _).1 h)
          have HS : Hid (isAtR m (tu, tv) = false) := by unfold Hid; rw [HQ.out, HX.out]; exact decide_eq_false (fun e => hxy (by injection e))
          clear hxy
          generalize cmpR (x, y) (tu, tv) = r at *
          have hcq : (r == 0) = false := by simpa using hcm
          go_wp2_with fail
          have k1 := cell_regrown e1
          have k2 := cell_regrown e2
          have k3 := cell_regrown q1
          have k4 := cell_regrown q2
          refine wp_region_quiet_below (by kernel_rfl) (by kernel_rfl) ?_
          repeat (go_big_quiet_step ((go_at_call 91; exact cB _ _)))
          refine wpQuiet_nil ?_
          intro _ hw'
          obtain ⟨⟨dq, osq⟩, hw''⟩ := hw'
          subst hw''
          go_wp2_with fail
          go_ret2
          exact ⟨by rw [HP.out, HS.out]; rfl, HBB.out.trans ((below_regrown wr dq osq).mono HBB.out.size)⟩
      · have hni : ¬ (hi : Int) < (n : Int) := by omega
        have HS : Hid (isAtR m (tu, tv) = false) := by unfold Hid; rw [HQ.out, List.getElem?_eq_none (by rw [HH.out.1]; omega)]; rfl
        have k3 := cell_regrown q1
        have k4 := cell_regrown q2
        go_wp2_with fail
        refine wp_region_quiet_below (by kernel_rfl) (by kernel_rfl) ?_
        repeat (go_big_quiet_step (fail))
        refine wpQuiet_nil ?_
        intro _ hw'
        obtain ⟨⟨dq, osq⟩, hw''⟩ := hw'
        subst hw''
        go_wp2_with fail
        go_ret2
        exact ⟨by rw [HP.out, HS.out]; rfl, HBB.out.trans ((below_regrown wr dq osq).mono HBB.out.size)⟩
end Go.Proofs.Ythcjembekadijaa.SearchR
/- The program's AddRelation: a record with a relation more. -/
namespace Go.Proofs.Ythcjembekadijaa.AddR
open Go.RowKit Pairs Rec RecEq Find2 GoodM RelM Keep Row2 Copy Two Gives Idx SearchR
open RemC (block_of_own)
open AddC (boxes222 ifValid_true ifValid_false own_off)
open AddRM

theorem okR_before {l m : List (Int × Int)} {k : Nat} {x y : Int × Int} (h : okR l m (k + 1) = true) (hx : m[k]? = some x) (hy : m[k + 1]? = some y) : before x y = true := by
  unfold okR at h
  rw [hy, Nat.add_sub_cancel, hx] at h
  rw [before_iff]
  simp at h
  omega
theorem asc2_of_good {l m : List (Int × Int)} (h : good l m = true) : Asc2 m := by
  have hR : ∀ j, j < m.length → okR l m j = true := by
    unfold good at h
    simp only [Bool.and_eq_true, List.all_eq_true] at h
    exact fun j hj => h.2 j (List.mem_range.2 hj)
  have step : ∀ (d i : Nat) (x y : Int × Int), m[i]? = some x → m[i + d + 1]? = some y → before x y = true := by
    intro d
    induction d with
    | zero =>
      intro i x y hx hy
      exact okR_before (hR (i + 1) (List.getElem?_eq_some_iff.1 hy).1) hx hy
    | succ d ih =>
      intro i x y hx hy
      have hl : i + d + 1 < m.length := by have := (List.getElem?_eq_some_iff.1 hy).1; omega
      have hz : m[i + d + 1]? = some m[i + d + 1] := List.getElem?_eq_getElem hl
      exact before_trans (ih i x _ hx hz) (okR_before (hR (i + d + 1 + 1) (List.getElem?_eq_some_iff.1 hy).1) hz hy)
  intro i j x y hij hx hy
  by_cases e : i = j
  · subst e
    rw [hx] at hy
    injection hy with hy
    exact .inl hy
  · obtain ⟨d, rfl⟩ : ∃ d, j = i + d + 1 := ⟨j - i - 1, by omega⟩
    exact .inr (step d i x y hx hy)
set_option maxRecDepth 100000 in
set_option maxHeartbeats 8000000 in
theorem impl_any (zu zv : Int) : Gives1 35 (.agg #[.int .i64 zu, .int .i64 zv]) (addR zu zv) := by
  intro a1 a2 n1 c1 n2 c2 l m w hz1 hz2 h1 h2
  obtain ⟨hs, x1, x2, x3, x4, y1, y2, fy1, fy2, hb0⟩ := boxes222 w (.slice a1 n1 c1) (.slice a2 n2 c2) (.int .i64 zu) (.int .i64 zv) (.slice none 0 0) (.slice none 0 0) 27 39 27
  have HS := Lib.hid hs
  have H1 := Lib.hid (h1.below hb0)
  have H2 := Lib.hid (h2.below hb0)
  clear h1 h2 hs
  go_enter Try.func35, Try.ntmps35
  go_wp2_with fail
  generalize ((w.alloc (.cells #[.slice a1 n1 c1, .slice a2 n2 c2] 27)).alloc (.cells #[.int .i64 zu, .int .i64 zv] 39)).alloc (.cells #[.slice none 0 0, .slice none 0 0] 27) = W at *
  have lw : w.heap.size < W.heap.size := by rw [HS.out]; omega
  have lw1 : w.heap.size + 1 < W.heap.size := by rw [HS.out]; omega
  have lw2 : w.heap.size + 2 < W.heap.size := by rw [HS.out]; omega
  refine (Avr.impl_any a1 a2 n1 c1 n2 c2 l m W hz1 hz2 H1.out H2.out).mono ?_
  rintro e w1 ⟨rfl, b1⟩
  have r1 := (b1.cell (p := ⟨w.heap.size, 0, none⟩) lw).trans x1
  have r2 := (b1.cell (p := ⟨w.heap.size, 1, none⟩) lw).trans x2
  have s1 := (b1.cell (p := ⟨w.heap.size + 2, 0, none⟩) lw2).trans y1
  have s2 := (b1.cell (p := ⟨w.heap.size + 2, 1, none⟩) lw2).trans y2
  have t1 := fz b1 ⟨w.heap.size + 2, 0, none⟩ lw2 fy1
  have t2 := fz b1 ⟨w.heap.size + 2, 1, none⟩ lw2 fy2
  have HB1 := Lib.hid (hb0.trans (b1.mono hb0.size))
  cases hg : good l m with
  | false =>
    have HE := Lib.hid (addR_none (x := zu) (y := zv) (l := l) (m := m) (by rw [hg]; simp))
    clear hg
    go_wp2_with fail
    obtain ⟨q1, q2⟩ := set2_cells (u := .slice none 0 0) (v := .slice none 0 0) s1 s2
    refine bodyPost_ret (v := .tuple #[.agg #[.slice none 0 0, .slice none 0 0], .bool false]) (by simp [results, Try.results35, go_sem, q1, q2]) rfl ?_
    rw [HE.out]
    exact ⟨none, 0, 0, none, 0, 0, rfl, Got.nil _ _, by omega, by omega, ((HB1.out.setCell (p := ⟨w.heap.size + 2, 0, none⟩) (by show _ ≤ w.heap.size + 2; omega) _).setCell (p := ⟨w.heap.size + 2, 1, none⟩) (by show _ ≤ w.heap.size + 2; omega) _)⟩
  | true =>
    have HV := Lib.hid hg
    clear hg
    have hn2 : n2 ≤ 24 := by rw [← H2.out.1]; exact (RemCS.good_few HV.out).2
    obtain ⟨i, hi⟩ : ∃ i, plR m (zu, zv) = i := ⟨_, rfl⟩
    have hil : i ≤ m.length := by rw [← hi]; exact plR_le m _
    obtain ⟨r, hr⟩ : ∃ r, n2 = i + r := ⟨n2 - i, by rw [← H2.out.1]; omega⟩
    have HI := Lib.hid hi
    have HL1 : Hid ((m.take i).length = i) := by unfold Hid; rw [List.length_take]; omega
    have HL2 : Hid ((m.drop i).length = r) := by unfold Hid; rw [List.length_drop, H2.out.1]; omega
    clear hi
    subst hr
    go_wp2_with fail
    refine (copyRecord_any a1 a2 n1 c1 (i + r) c2 l m hz1 hz2 w1 (H1.out.below b1) (H2.out.below b1)).mono ?_
    rintro e w3 ⟨g1, g2, rfl, o3, b3⟩
    have hg1 : w1.heap.size ≤ g1 ∧ g1 < w3.heap.size := o3.ctx.lt g1 rfl
    have hg2 : w1.heap.size ≤ g2 ∧ g2 < w3.heap.size := o3.rel.lt g2 rfl
    have hs1 := b1.size
    have hs2 := b3.size
    have hg12 := o3.ne
    have b13 := b1.trans (b3.mono b1.size)
    have hba := below_alloc w3 (.cells #[.slice (some ⟨g1, 0, none⟩) n1 n1, .slice (some ⟨g2, 0, none⟩) (i + r) (i + r)] 27)
    have b14 := b13.trans (hba.mono b13.size)
    have e4 : (w3.alloc (.cells #[.slice (some ⟨g1, 0, none⟩) n1 n1, .slice (some ⟨g2, 0, none⟩) (i + r) (i + r)] 27)).heap.size = w3.heap.size + 1 := by simp
    have hbk1 := (hba.block g1 hg1.2).trans (block_of_own o3.ctx)
    have hbk2 := (hba.block g2 hg2.2).trans (block_of_own o3.rel)
    have hub := heap_alloc_new w3 (.cells #[.slice (some ⟨g1, 0, none⟩) n1 n1, .slice (some ⟨g2, 0, none⟩) (i + r) (i + r)] 27)
    have u1 := box_first w3 (.slice (some ⟨g1, 0, none⟩) n1 n1) (.slice (some ⟨g2, 0, none⟩) (i + r) (i + r)) 27
    have u2' := box_second w3 (.slice (some ⟨g1, 0, none⟩) n1 n1) (.slice (some ⟨g2, 0, none⟩) (i + r) (i + r)) 27
    have k3 := (b14.cell (p := ⟨w.heap.size + 1, 0, none⟩) lw1).trans x3
    have k4 := (b14.cell (p := ⟨w.heap.size + 1, 1, none⟩) lw1).trans x4
    have HBK1 := Lib.hid hbk1
    have HBK2 := Lib.hid hbk2
    have HUB := Lib.hid hub
    have HE4 := Lib.hid e4
    have HHR := Lib.hid ((holds_of o3.rel).below hba)
    have HB4 := Lib.hid b14
    clear o3 b3 b13 b14 hba hbk1 hbk2 hub b1 r1 r2 s1 s2 t1 t2 e4 HB1
    go_wp2_with fail
    generalize w3.alloc (.cells #[.slice (some ⟨g1, 0, none⟩) n1 n1, .slice (some ⟨g2, 0, none⟩) (i + r) (i + r)] 27) = W4 at *
    refine (search_any (some ⟨g2, 0, none⟩) (i + r) (i + r) m zu zv W4 (by omega) HHR.out (asc2_of_good HV.out)).mono ?_
    rintro e w4 ⟨rfl, b4⟩
    rw [isAtR_eq HI.out, HI.out]
    have e5 := HE4.out
    have hs4 := b4.size
    have HB5 := Lib.hid (hb0.trans ((HB4.out.trans (b4.mono HB4.out.size)).mono hb0.size))
    have l2 : w.heap.size + 2 < W4.heap.size := by omega
    have k3' := (b4.cell (p := ⟨w.heap.size + 1, 0, none⟩) (by show w.heap.size + 1 < _; omega)).trans k3
    have k4' := (b4.cell (p := ⟨w.heap.size + 1, 1, none⟩) (by show w.heap.size + 1 < _; omega)).trans k4
    have u1' := (b4.cell (p := ⟨w3.heap.size, 0, none⟩) (by show w3.heap.size < _; omega)).trans u1
    have u2'' := (b4.cell (p := ⟨w3.heap.size, 1, none⟩) (by show w3.heap.size < _; omega)).trans u2'
    have s1 := (b4.cell (p := ⟨w.heap.size + 2, 0, none⟩) l2).trans ((HB4.out.cell (p := ⟨w.heap.size + 2, 0, none⟩) lw2).trans y1)
    have s2 := (b4.cell (p := ⟨w.heap.size + 2, 1, none⟩) l2).trans ((HB4.out.cell (p := ⟨w.heap.size + 2, 1, none⟩) lw2).trans y2)
    have t1 := fz b4 ⟨w.heap.size + 2, 0, none⟩ l2 (fz HB4.out ⟨w.heap.size + 2, 0, none⟩ lw2 fy1)
    have t2 := fz b4 ⟨w.heap.size + 2, 1, none⟩ l2 (fz HB4.out ⟨w.heap.size + 2, 1, none⟩ lw2 fy2)
    have HC1 := Lib.hid ((b4.block g1 (by omega)).trans HBK1.out)
    have HC2 := Lib.hid ((b4.block g2 (by omega)).trans HBK2.out)
    have HC3 := Lib.hid ((b4.block w3.heap.size (by omega)).trans HUB.out)
    have hw4 : w3.heap.size < w4.heap.size := by omega
    clear u1 u2' k3 k4 b4 HBK1 HBK2 HUB HHR x1 x2 x3 x4 y1 y2 fy1 fy2 e5
    by_cases hat : m[i]? = some (zu, zv)
    · have hlk : link m (zu, zv) = m := by unfold link; rw [HI.out, if_pos hat]
      have HE := Lib.hid (addR_some (x := zu) (y := zv) HV.out (by rw [hlk]; exact HV.out))
      have HLK := Lib.hid hlk
      have hdt : decide (m[i]? = some (zu, zv)) = true := decide_eq_true hat
      rw [hdt]
      clear hat hlk hdt
      go_wp2_with fail
      have O1 := Lib.hid (own_of_block (B := w.heap.size) HC1.out H1.out.1 hz1 (by omega))
      have O2 := Lib.hid (own_of_block (B := w.heap.size) HC2.out H2.out.1 hz2 (by omega))
      refine (ifValid_true (some ⟨g1, 0, none⟩) (some ⟨g2, 0, none⟩) n1 n1 (i + r) (i + r) l m w4 hz1 hz2 (holds_own O1.out) (holds_own O2.out) HV.out).mono ?_
      rintro e w7 ⟨rfl, b7⟩
      have l7 : w.heap.size + 2 < w4.heap.size := by omega
      have s17 := (b7.cell (p := ⟨w.heap.size + 2, 0, none⟩) l7).trans s1
      have s27 := (b7.cell (p := ⟨w.heap.size + 2, 1, none⟩) l7).trans s2
      have t17 := fz b7 ⟨w.heap.size + 2, 0, none⟩ l7 t1
      have t27 := fz b7 ⟨w.heap.size + 2, 1, none⟩ l7 t2
      clear s1 s2 t1 t2
      go_wp2_with fail
      obtain ⟨q1, q2⟩ := set2_cells (u := .slice (some ⟨g1, 0, none⟩) n1 n1) (v := .slice (some ⟨g2, 0, none⟩) (i + r) (i + r)) s17 s27
      refine bodyPost_ret (v := .tuple #[.agg #[.slice (some ⟨g1, 0, none⟩) n1 n1, .slice (some ⟨g2, 0, none⟩) (i + r) (i + r)], .bool true]) (by simp [results, Try.results35, go_sem, q1, q2]) rfl ?_
      rw [HE.out, HLK.out]
      have hB7 := HB5.out.trans (b7.mono HB5.out.size)
      have f1 : (Value.slice (some ⟨g1, 0, none⟩) n1 n1).ownBlock ≠ some (w.heap.size + 2) := own_off (by omega)
      have f2 : (Value.slice (some ⟨g2, 0, none⟩) (i + r) (i + r)).ownBlock ≠ some (w.heap.size + 2) := own_off (by omega)
      refine ⟨some ⟨g1, 0, none⟩, n1, n1, some ⟨g2, 0, none⟩, i + r, i + r, rfl, ⟨setCell_far (setCell_far (ownsRow_below O1.out b7) f1) f1, setCell_far (setCell_far (ownsRow_below O2.out b7) f2) f2, ?_⟩, by omega, by omega, ((hB7.setCell (p := ⟨w.heap.size + 2, 0, none⟩) (by show _ ≤ w.heap.size + 2; omega) _).setCell (p := ⟨w.heap.size + 2, 1, none⟩) (by show _ ≤ w.heap.size + 2; omega) _)⟩
      intro g e1 e2
      have e1' : g1 = g := by simpa [Value.ownBlock] using e1
      have e2' : g2 = g := by simpa [Value.ownBlock] using e2
      exact hg12 (e1'.trans e2'.symm)
    · have hlk : link m (zu, zv) = m.take i ++ (zu, zv) :: m.drop i := by unfold link; rw [HI.out, if_neg hat]; rfl
      have HLK := Lib.hid hlk
      have hdt : decide (m[i]? = some (zu, zv)) = false := decide_eq_false hat
      rw [hdt]
      clear hat hlk hdt
      go_wp2_with fail
      have hpa := below_alloc w4 (.cells #[.int .i64 zu, .int .i64 zv] 39)
      have hpv := heap_alloc_new w4 (.cells #[.int .i64 zu, .int .i64 zv] 39)
      have e6 : (w4.alloc (.cells #[.int .i64 zu, .int .i64 zv] 39)).heap.size = w4.heap.size + 1 := by simp
      have HD1 := Lib.hid ((hpa.block g1 (by omega)).trans HC1.out)
      have HD2 := Lib.hid ((hpa.block g2 (by omega)).trans HC2.out)
      have HD3 := Lib.hid ((hpa.block w3.heap.size (by omega)).trans HC3.out)
      have HPV := Lib.hid hpv
      have HE6 := Lib.hid e6
      have l7 : w.heap.size + 2 < w4.heap.size := by omega
      have s14 := (hpa.cell (p := ⟨w.heap.size + 2, 0, none⟩) l7).trans s1
      have s24 := (hpa.cell (p := ⟨w.heap.size + 2, 1, none⟩) l7).trans s2
      have t14 := fz hpa ⟨w.heap.size + 2, 0, none⟩ l7 t1
      have t24 := fz hpa ⟨w.heap.size + 2, 1, none⟩ l7 t2
      have HB6 := Lib.hid (HB5.out.trans (hpa.mono HB5.out.size))
      clear s1 s2 t1 t2 hpa hpv e6 k3' k4' u1' u2''
      generalize w4.alloc (.cells #[.int .i64 zu, .int .i64 zv] 39) = W6 at *
      refine (InsR.insert_any w.heap.size g2 i r (m.take i) (m.drop i) zu zv w4.heap.size HL1.out HL2.out hz2 W6 (by rw [List.take_append_drop]; exact HD2.out) HPV.out (by omega) HB6.out.size).mono ?_
      rintro e w5 ⟨g', cap, rfl, hown, hat', hk5⟩
      have e5 := HE6.out
      have hu5 : w5.heap[w3.heap.size]? = some (.cells #[.slice (some ⟨g1, 0, none⟩) n1 n1, .slice (some ⟨g2, 0, none⟩) (i + r) (i + r)] 27) := (hk5.block _ (by omega) (by omega)).trans HD3.out
      have hx6 := (setCell_block (a := .slice (some ⟨g', 0, none⟩) (i + r + 1) cap) hu5).2
      have c1' : w5.cell? ⟨w3.heap.size, 0, none⟩ = some (.slice (some ⟨g1, 0, none⟩) n1 n1) := by simp only [World.cell?, hu5]; rfl
      have c2' : w5.cell? ⟨w3.heap.size, 1, none⟩ = some (.slice (some ⟨g2, 0, none⟩) (i + r) (i + r)) := by simp only [World.cell?, hu5]; rfl
      have d1' : w5.frozen? ⟨w3.heap.size, 1, none⟩ = false := by simp only [World.frozen?, hu5]; rfl
      have hgb : g' ≠ w3.heap.size := by omega
      have hng : g' ≠ g1 := by omega
      have hk6 : Kept (fun b => b = g2 ∨ b = w3.heap.size) W6 (w5.setCell ⟨w3.heap.size, 1, none⟩ (.slice (some ⟨g', 0, none⟩) (i + r + 1) cap)) := (hk5.mono (fun _ => .inl)).setCell (g := w3.heap.size) (.inr rfl) _
      have hown6 := setCell_far (g := w3.heap.size) (o := 1) (u := .slice (some ⟨g', 0, none⟩) (i + r + 1) cap) hown (fun e => hgb (by simpa [Value.ownBlock] using e))
      have hctx6 : (w5.setCell ⟨w3.heap.size, 1, none⟩ (.slice (some ⟨g', 0, none⟩) (i + r + 1) cap)).heap[g1]? = some (.cells (flat l).toArray 55) := (hk6.block g1 (by omega) (by omega)).trans HD1.out
      have s16 := hk6.cell s14 (by show ¬ (w.heap.size + 2 = g2 ∨ w.heap.size + 2 = w3.heap.size); omega)
      have s26 := hk6.cell s24 (by show ¬ (w.heap.size + 2 = g2 ∨ w.heap.size + 2 = w3.heap.size); omega)
      have t16 : (w5.setCell ⟨w3.heap.size, 1, none⟩ (.slice (some ⟨g', 0, none⟩) (i + r + 1) cap)).frozen? ⟨w.heap.size + 2, 0, none⟩ = false := (World.frozen?_of_block (hk6.block (w.heap.size + 2) (by omega) (by omega))).trans t14
      have t26 : (w5.setCell ⟨w3.heap.size, 1, none⟩ (.slice (some ⟨g', 0, none⟩) (i + r + 1) cap)).frozen? ⟨w.heap.size + 2, 1, none⟩ = false := (World.frozen?_of_block (hk6.block (w.heap.size + 2) (by omega) (by omega))).trans t24
      have HX6 := Lib.hid hx6
      have HOWN := Lib.hid hown6
      have HCT := Lib.hid (own_of_block (B := w.heap.size) hctx6 H1.out.1 hz1 (by omega))
      have HB7 : Hid (Below w.heap.size w (w5.setCell ⟨w3.heap.size, 1, none⟩ (.slice (some ⟨g', 0, none⟩) (i + r + 1) cap))) := HB6.out.trans (hk6.below (fun b hb => by rcases hb with rfl | rfl <;> omega) HB6.out.size)
      have hs6 := hk6.size
      clear hu5 hx6 hk5 hk6 hown hown6 hctx6 s14 s24 t14 t24
      go_wp2_with fail
      generalize w5.setCell ⟨w3.heap.size, 1, none⟩ (.slice (some ⟨g', 0, none⟩) (i + r + 1) cap) = X6 at *
      clear c1' c2' d1'
      cases hg2' : good l (m.take i ++ (zu, zv) :: m.drop i) with
      | false =>
        have HE := Lib.hid (addR_none (x := zu) (y := zv) (l := l) (m := m) (fun h => by rw [HLK.out, hg2'] at h; cases h.2))
        refine (ifValid_false (some ⟨g1, 0, none⟩) (some ⟨g', 0, none⟩) n1 n1 (i + r + 1) cap l _ X6 hz1 (by omega) (holds_own HCT.out) (holds_own HOWN.out) hg2').mono ?_
        rintro e w7 ⟨rfl, b7⟩
        have s17 := (b7.cell (p := ⟨w.heap.size + 2, 0, none⟩) (by show w.heap.size + 2 < _; omega)).trans s16
        have s27 := (b7.cell (p := ⟨w.heap.size + 2, 1, none⟩) (by show w.heap.size + 2 < _; omega)).trans s26
        have t17 := fz b7 ⟨w.heap.size + 2, 0, none⟩ (by show w.heap.size + 2 < _; omega) t16
        have t27 := fz b7 ⟨w.heap.size + 2, 1, none⟩ (by show w.heap.size + 2 < _; omega) t26
        clear hg2' s16 s26 t16 t26
        go_wp2_with fail
        obtain ⟨q1, q2⟩ := set2_cells (u := .slice none 0 0) (v := .slice none 0 0) s17 s27
        refine bodyPost_ret (v := .tuple #[.agg #[.slice none 0 0, .slice none 0 0], .bool false]) (by simp [results, Try.results35, go_sem, q1, q2]) rfl ?_
        rw [HE.out]
        have hB7 := HB7.out.trans (b7.mono HB7.out.size)
        exact ⟨none, 0, 0, none, 0, 0, rfl, Got.nil _ _, by omega, by omega, ((hB7.setCell (p := ⟨w.heap.size + 2, 0, none⟩) (by show _ ≤ w.heap.size + 2; omega) _).setCell (p := ⟨w.heap.size + 2, 1, none⟩) (by show _ ≤ w.heap.size + 2; omega) _)⟩
      | true =>
        have HE := Lib.hid (addR_some (x := zu) (y := zv) HV.out (by rw [HLK.out]; exact hg2'))
        refine (ifValid_true (some ⟨g1, 0, none⟩) (some ⟨g', 0, none⟩) n1 n1 (i + r + 1) cap l _ X6 hz1 (by omega) (holds_own HCT.out) (holds_own HOWN.out) hg2').mono ?_
        rintro e w7 ⟨rfl, b7⟩
        have s17 := (b7.cell (p := ⟨w.heap.size + 2, 0, none⟩) (by show w.heap.size + 2 < _; omega)).trans s16
        have s27 := (b7.cell (p := ⟨w.heap.size + 2, 1, none⟩) (by show w.heap.size + 2 < _; omega)).trans s26
        have t17 := fz b7 ⟨w.heap.size + 2, 0, none⟩ (by show w.heap.size + 2 < _; omega) t16
        have t27 := fz b7 ⟨w.heap.size + 2, 1, none⟩ (by show w.heap.size + 2 < _; omega) t26
        clear hg2' s16 s26 t16 t26
        go_wp2_with fail
        obtain ⟨q1, q2⟩ := set2_cells (u := .slice (some ⟨g1, 0, none⟩) n1 n1) (v := .slice (some ⟨g', 0, none⟩) (i + r + 1) cap) s17 s27
        refine bodyPost_ret (v := .tuple #[.agg #[.slice (some ⟨g1, 0, none⟩) n1 n1, .slice (some ⟨g', 0, none⟩) (i + r + 1) cap], .bool true]) (by simp [results, Try.results35, go_sem, q1, q2]) rfl ?_
        rw [HE.out]
        have hB7 := HB7.out.trans (b7.mono HB7.out.size)
        have f1 : (Value.slice (some ⟨g', 0, none⟩) (i + r + 1) cap).ownBlock ≠ some (w.heap.size + 2) := own_off (by omega)
        have f2 : (Value.slice (some ⟨g1, 0, none⟩) n1 n1).ownBlock ≠ some (w.heap.size + 2) := own_off (by omega)
        refine ⟨some ⟨g1, 0, none⟩, n1, n1, some ⟨g', 0, none⟩, i + r + 1, cap, rfl, ⟨setCell_far (setCell_far (ownsRow_below HCT.out b7) f2) f2, ?_, ?_⟩, by omega, by omega, ((hB7.setCell (p := ⟨w.heap.size + 2, 0, none⟩) (by show _ ≤ w.heap.size + 2; omega) _).setCell (p := ⟨w.heap.size + 2, 1, none⟩) (by show _ ≤ w.heap.size + 2; omega) _)⟩
        · show World.ownsRow _ _ _ _ _ _ (flat (link m (zu, zv)))
          rw [HLK.out]
          exact setCell_far (setCell_far (ownsRow_below HOWN.out b7) f1) f1
        · intro g e1 e2
          have e1' : g1 = g := by simpa [Value.ownBlock] using e1
          have e2' : g' = g := by simpa [Value.ownBlock] using e2
          exact hng (e2'.trans e1'.symm)
end Go.Proofs.Ythcjembekadijaa.AddR
/- At rows with room to spare: The model's AddRelation: a record with a relation more. -/
namespace Go.Proofs.Ythcjembekadijaa.AddRC
open Go.RowKit Pairs Rec RecEq Find2 GoodM RelM Keep Row2 Copy Two Gives LawKit
open AddC (boxes222)
open AddRM (addR addR_none addR_some)
open RemCS (good_few)
set_option maxRecDepth 100000 in
set_option maxHeartbeats 8000000 in
theorem spec_cap (zu zv : Int) (a1 a2 : Option Addr) (n1 c1 n2 c2 : Nat) (l m : List (Int × Int)) (w : World) (hc1 : n1 ≤ c1) (hc2 : n2 ≤ c2) (hz1 : n1 ≤ 1048576) (hz2 : n2 ≤ 1048576) (h1 : Holds w a1 n1 l) (h2 : Holds w a2 n2 m) :
    Calls Try.prog 36 #[.agg #[.slice a1 n1 c1, .slice a2 n2 c2], .agg #[.int .i64 zu, .int .i64 zv]] w (Res (addR zu zv l m).isSome ((addR zu zv l m).getD ([], [])).1 ((addR zu zv l m).getD ([], [])).2 w) := by
  have HC1 := Lib.hid hc1
  have HC2 := Lib.hid hc2
  obtain ⟨hs, x1, x2, x3, x4, y1, y2, fy1, fy2, hb0⟩ := boxes222 w (.slice a1 n1 c1) (.slice a2 n2 c2) (.int .i64 zu) (.int .i64 zv) (.slice none 0 0) (.slice none 0 0) 27 39 27
  have HS := Lib.hid hs
  have H1 := Lib.hid (h1.below hb0)
  have H2 := Lib.hid (h2.below hb0)
  clear h1 h2 hs
  go_enter Try.func36, Try.ntmps36
  go_wp2_with fail
  generalize ((w.alloc (.cells #[.slice a1 n1 c1, .slice a2 n2 c2] 27)).alloc (.cells #[.int .i64 zu, .int .i64 zv] 39)).alloc (.cells #[.slice none 0 0, .slice none 0 0] 27) = W at *
  have lw : w.heap.size < W.heap.size := by rw [HS.out]; omega
  have lw1 : w.heap.size + 1 < W.heap.size := by rw [HS.out]; omega
  have lw2 : w.heap.size + 2 < W.heap.size := by rw [HS.out]; omega
  refine (Good2.l2Good_any a1 a2 n1 c1 n2 c2 l m W H1.out H2.out).mono ?_
  rintro e w1 ⟨rfl, b1⟩
  have r1 := (b1.cell (p := ⟨w.heap.size, 0, none⟩) lw).trans x1
  have r2 := (b1.cell (p := ⟨w.heap.size, 1, none⟩) lw).trans x2
  have r3 := (b1.cell (p := ⟨w.heap.size + 1, 0, none⟩) lw1).trans x3
  have r4 := (b1.cell (p := ⟨w.heap.size + 1, 1, none⟩) lw1).trans x4
  have s1 := (b1.cell (p := ⟨w.heap.size + 2, 0, none⟩) lw2).trans y1
  have s2 := (b1.cell (p := ⟨w.heap.size + 2, 1, none⟩) lw2).trans y2
  have t1 := fz b1 ⟨w.heap.size + 2, 0, none⟩ lw2 fy1
  have t2 := fz b1 ⟨w.heap.size + 2, 1, none⟩ lw2 fy2
  have HBX := Lib.hid (hb0.trans (b1.mono hb0.size))
  cases hg : good l m with
  | false =>
    have HE := Lib.hid (addR_none (x := zu) (y := zv) (l := l) (m := m) (by rw [hg]; simp))
    clear hg
    go_wp2_with fail
    obtain ⟨q1, q2⟩ := set2_cells (u := .slice none 0 0) (v := .slice none 0 0) s1 s2
    refine bodyPost_ret (v := .tuple #[.agg #[.slice none 0 0, .slice none 0 0], .bool false]) (by simp [results, Try.results36, go_sem, q1, q2]) rfl ?_
    rw [HE.out]
    exact ⟨none, 0, 0, none, 0, 0, rfl, Got.nil _ _, by omega, by omega, ((HBX.out.setCell (p := ⟨w.heap.size + 2, 0, none⟩) (by show _ ≤ w.heap.size + 2; omega) _).setCell (p := ⟨w.heap.size + 2, 1, none⟩) (by show _ ≤ w.heap.size + 2; omega) _)⟩
  | true =>
    have HV := Lib.hid hg
    clear hg
    have hn1 : n1 ≤ 10 := by rw [← H1.out.1]; exact (good_few HV.out).1
    have hn2 : n2 ≤ 24 := by rw [← H2.out.1]; exact (good_few HV.out).2
    go_wp2_with fail
    refine (Link2.l2Link_any zu zv a1 a2 n1 c1 n2 c2 l m (by omega) (by omega) hc2 w1 (H1.out.below b1) (H2.out.below b1)).mono ?_
    rintro e w2 ⟨k2, hk2, g1, g2, d1, d2, rfl, o2, b2⟩
    go_wp2_with fail
    refine (Good2.l2Good_any (some ⟨g1, 0, none⟩) (some ⟨g2, 0, none⟩) n1 d1 k2 d2 l (link m (zu, zv)) w2 (ownHolds o2).1 (ownHolds o2).2).mono ?_
    rintro e w3 ⟨rfl, b3⟩
    have b13 := (b1.trans (b2.mono b1.size)).trans (b3.mono (b1.trans (b2.mono b1.size)).size)
    clear r1 r2 r3 r4 s1 s2 t1 t2 HBX
    have r1 := (b13.cell (p := ⟨w.heap.size, 0, none⟩) lw).trans x1
    have r2 := (b13.cell (p := ⟨w.heap.size, 1, none⟩) lw).trans x2
    have r3 := (b13.cell (p := ⟨w.heap.size + 1, 0, none⟩) lw1).trans x3
    have r4 := (b13.cell (p := ⟨w.heap.size + 1, 1, none⟩) lw1).trans x4
    have s1 := (b13.cell (p := ⟨w.heap.size + 2, 0, none⟩) lw2).trans y1
    have s2 := (b13.cell (p := ⟨w.heap.size + 2, 1, none⟩) lw2).trans y2
    have t1 := fz b13 ⟨w.heap.size + 2, 0, none⟩ lw2 fy1
    have t2 := fz b13 ⟨w.heap.size + 2, 1, none⟩ lw2 fy2
    have HBX := Lib.hid (hb0.trans (b13.mono hb0.size))
    cases hg2 : good l (link m (zu, zv)) with
    | false =>
      have HE := Lib.hid (addR_none (x := zu) (y := zv) (l := l) (m := m) (by rw [hg2]; simp))
      clear hg2
      go_wp2_with fail
      obtain ⟨q1, q2⟩ := set2_cells (u := .slice none 0 0) (v := .slice none 0 0) s1 s2
      refine bodyPost_ret (v := .tuple #[.agg #[.slice none 0 0, .slice none 0 0], .bool false]) (by simp [results, Try.results36, go_sem, q1, q2]) rfl ?_
      rw [HE.out]
      exact ⟨none, 0, 0, none, 0, 0, rfl, Got.nil _ _, by omega, by omega, ((HBX.out.setCell (p := ⟨w.heap.size + 2, 0, none⟩) (by show _ ≤ w.heap.size + 2; omega) _).setCell (p := ⟨w.heap.size + 2, 1, none⟩) (by show _ ≤ w.heap.size + 2; omega) _)⟩
    | true =>
      have HE := Lib.hid (addR_some (x := zu) (y := zv) HV.out hg2)
      clear hg2
      go_wp2_with fail
      refine (Link2.l2Link_any zu zv a1 a2 n1 c1 n2 c2 l m (by omega) (by omega) hc2 w3 (H1.out.below b13) (H2.out.below b13)).mono ?_
      rintro e w4 ⟨k4, hk4, g3, g4, d3, d4, rfl, o4, b4⟩
      have b14 := b13.trans (b4.mono b13.size)
      clear r1 r2 r3 r4 s1 s2 t1 t2 HBX
      have r1 := (b14.cell (p := ⟨w.heap.size, 0, none⟩) lw).trans x1
      have r2 := (b14.cell (p := ⟨w.heap.size, 1, none⟩) lw).trans x2
      have r3 := (b14.cell (p := ⟨w.heap.size + 1, 0, none⟩) lw1).trans x3
      have r4 := (b14.cell (p := ⟨w.heap.size + 1, 1, none⟩) lw1).trans x4
      have s1 := (b14.cell (p := ⟨w.heap.size + 2, 0, none⟩) lw2).trans y1
      have s2 := (b14.cell (p := ⟨w.heap.size + 2, 1, none⟩) lw2).trans y2
      have t1 := fz b14 ⟨w.heap.size + 2, 0, none⟩ lw2 fy1
      have t2 := fz b14 ⟨w.heap.size + 2, 1, none⟩ lw2 fy2
      have HBX := Lib.hid (hb0.trans (b14.mono hb0.size))
      go_wp2_with fail
      obtain ⟨q1, q2⟩ := set2_cells (u := .slice (some ⟨g3, 0, none⟩) n1 d3) (v := .slice (some ⟨g4, 0, none⟩) k4 d4) s1 s2
      refine bodyPost_ret (v := .tuple #[.agg #[.slice (some ⟨g3, 0, none⟩) n1 d3, .slice (some ⟨g4, 0, none⟩) k4 d4], .bool true]) (by simp [results, Try.results36, go_sem, q1, q2]) rfl ?_
      rw [HE.out]
      have f3 : (Value.slice (some ⟨g3, 0, none⟩) n1 d3).ownBlock ≠ some (w.heap.size + 2) := AddC.own_off (by have := (o4.ctx.lt g3 rfl).1; have := b13.size; omega)
      have f4 : (Value.slice (some ⟨g4, 0, none⟩) k4 d4).ownBlock ≠ some (w.heap.size + 2) := AddC.own_off (by have := (o4.rel.lt g4 rfl).1; have := b13.size; omega)
      have hB : w.heap.size ≤ w3.heap.size := by have := b13.size; omega
      have G4 := got_of_own o4
      exact ⟨some ⟨g3, 0, none⟩, n1, d3, some ⟨g4, 0, none⟩, k4, d4, rfl, ⟨setCell_far (setCell_far (ownsRow_base G4.ctx hB) f3) f3, setCell_far (setCell_far (ownsRow_base G4.rel hB) f4) f4, G4.ne⟩, by omega, by omega, ((HBX.out.setCell (p := ⟨w.heap.size + 2, 0, none⟩) (by show _ ≤ w.heap.size + 2; omega) _).setCell (p := ⟨w.heap.size + 2, 1, none⟩) (by show _ ≤ w.heap.size + 2; omega) _)⟩
end Go.Proofs.Ythcjembekadijaa.AddRC
