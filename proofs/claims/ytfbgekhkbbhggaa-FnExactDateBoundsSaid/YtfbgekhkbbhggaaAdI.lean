/- The program's admitted: the years that respect the relations to the years ahead. -/
import Derived.Test.YtfbgekhkbbhggaaChE
import Derived.Test.YtfbgekhkbbhggaaDr
import Derived.Test.YtfbgekhkbbhggaaWwI
import Derived.Deep.Cut
namespace Go.Proofs.Ytfbgekhkbbhggaa.AdI
open Go Go.RowKit Pairs Rec Keep GivesI Zh Dr DvM ChM Find2 GoodM ShI
set_option linter.unusedVariables false
theorem new_two (w : World) (u v : Value) (T : TypeId) : (w.alloc (.cells #[u, v] T)).heap[w.heap.size]? = some (.cells #[u, v] T) := by
  show (w.heap.push _)[w.heap.size]? = _
  rw [Array.getElem?_push, if_pos rfl]
theorem bx_set0 {w : World} {g : Nat} {u v : Value} (h : Bx w g u v) (u' : Value) : Bx (w.setCell ⟨g, 0, none⟩ u') g u' v := by
  refine ⟨World.cell?_setCell_same _ _ _ h.c0, (World.cell?_setCell_other _ _ _ _ (by intro e; cases congrArg Addr.off e)).trans h.c1, ?_, ?_, by simpa [World.setCell] using h.lt⟩
  · rw [World.frozen?_setCell]; exact h.f0
  · rw [World.frozen?_setCell]; exact h.f1
theorem bx_set1 {w : World} {g : Nat} {u v : Value} (h : Bx w g u v) (v' : Value) : Bx (w.setCell ⟨g, 1, none⟩ v') g u v' := by
  refine ⟨(World.cell?_setCell_other _ _ _ _ (by intro e; cases congrArg Addr.off e)).trans h.c0, World.cell?_setCell_same _ _ _ h.c1, ?_, ?_, by simpa [World.setCell] using h.lt⟩
  · rw [World.frozen?_setCell]; exact h.f0
  · rw [World.frozen?_setCell]; exact h.f1
theorem row_next {m : List (Int × Int)} {r : Nat} {x : Int × Int} (h : m[r]? = some x) (a b u : Int) (p : Int × Int) : row (m.take (r + 1)) a b u p = one a b u (row (m.take r) a b u p) x := by
  unfold row
  rw [List.take_add_one, h, List.foldl_append]
  rfl
set_option maxRecDepth 100000 in
set_option maxHeartbeats 8000000 in
theorem admitted_any (a1 a2 a3 : Option Addr) (n1 c1 n2 c2 n3 c3 : Nat) (l m : List (Int × Int)) (Z : List Zh.Pt) (p : Option Addr) (k c : Nat) (ys : List Int) (f : Int) (M : List Int) (w : World) (h : Arg w a1 n1 a2 n2 a3 n3 l m Z) (hy : HoldsI w p k ys) (hk : k < n1) (hx : Z[k]? = some (f, M)) (hf : -20000 ≤ f ∧ f ≤ 2100) :
    Calls Try.prog 61 #[.agg #[.slice a1 n1 c1, .slice a2 n2 c2, .slice a3 n3 c3], .slice p k c] w fun e w' => e = .returned (.agg #[.int .i64 (adm l m ys (f, f + M.length - 1)).1, .int .i64 (adm l m ys (f, f + M.length - 1)).2]) ∧ Below w.heap.size w w' := by
  have hb := below_alloc2 w (.cells #[.slice a1 n1 c1, .slice a2 n2 c2, .slice a3 n3 c3] 37) (.cells #[.int .i64 0, .int .i64 0] 86)
  obtain ⟨f1, f2, f3⟩ := box3 w (.slice a1 n1 c1) (.slice a2 n2 c2) (.slice a3 n3 c3) 37
  have hlt : w.heap.size < (w.alloc (.cells #[.slice a1 n1 c1, .slice a2 n2 c2, .slice a3 n3 c3] 37)).heap.size := by simp
  have hb1 := below_alloc (w.alloc (.cells #[.slice a1 n1 c1, .slice a2 n2 c2, .slice a3 n3 c3] 37)) (.cells #[.int .i64 0, .int .i64 0] 86)
  have g1 := (hb1.cell (p := ⟨w.heap.size, 0, none⟩) hlt).trans f1
  have g2 := (hb1.cell (p := ⟨w.heap.size, 1, none⟩) hlt).trans f2
  have g3 := (hb1.cell (p := ⟨w.heap.size, 2, none⟩) hlt).trans f3
  have BX := bx_new (w.alloc (.cells #[.slice a1 n1 c1, .slice a2 n2 c2, .slice a3 n3 c3] 37)) (.int .i64 0) (.int .i64 0) 86
  rw [show (w.alloc (.cells #[.slice a1 n1 c1, .slice a2 n2 c2, .slice a3 n3 c3] 37)).heap.size = w.heap.size + 1 by simp] at BX
  have H := Lib.hid (h.below hb)
  have HY := Lib.hid (hy.below hb)
  have HB := Lib.hid hb
  have HBX := Lib.hid BX
  have hsm := h.sm _ (List.mem_of_getElem? hx)
  have s1 := h.s1
  have s2 := h.s2
  have s3 := h.s3
  have hl1 := Lib.hid h.h1.1
  have hl2 := Lib.hid h.h2.1
  have hl3 := Lib.hid h.h3.1
  have hk3 : k < n3 := by have := (List.getElem?_eq_some_iff.1 hx).1; have := h.h3.1; omega
  have HX := Lib.hid hx
  have HYL := Lib.hid hy.1
  have hltk : w.heap.size < ((w.alloc (.cells #[.slice a1 n1 c1, .slice a2 n2 c2, .slice a3 n3 c3] 37)).alloc (.cells #[.int .i64 0, .int .i64 0] 86)).heap.size := Nat.lt_of_lt_of_le hlt hb1.size
  clear h hy hb hb1 f1 f2 f3 hlt BX hx
  go_enter Try.func61, Try.ntmps61
  obtain ⟨bc, oc, x, y, rfl, hxc, q0, q1⟩ := H.out.h1.at k hk
  obtain ⟨bz, oz, f', M', pz, jz, cz, rfl, hxz, q2, q3, hM⟩ := H.out.h3.at k hk3
  obtain ⟨rfl, rfl⟩ : f' = f ∧ M' = M := by
    rw [HX.out] at hxz
    injection hxz with hxz
    injection hxz with ha hb
    exact ⟨ha.symm, hb.symm⟩
  have hjz : M'.length = jz := hM.1
  have hsm' : M'.length ≤ 1048576 := hsm
  have HNB := Lib.hid (show nb l k = x by rw [ChE.nb_of hxc])
  have hk0 : (0 : Int) ≤ (k : Int) := by omega
  have hkn : (k : Int) < (n1 : Int) := by omega
  have hkn3 : (k : Int) < (n3 : Int) := by omega
  clear hxc hxz hM hsm
  go_wp2_with fail
  generalize (w.alloc (.cells #[.slice (some ⟨bc, oc, none⟩) n1 c1, .slice a2 n2 c2, .slice (some ⟨bz, oz, none⟩) n3 c3] 37)).alloc (.cells #[.int .i64 0, .int .i64 0] 86) = W at *
  refine (DvI.years_any f' pz jz cz W hf.1 hf.2 (by omega)).mono ?_
  rintro e w1 ⟨rfl, b1⟩
  have hW1 := b1.size
  have BX7 := bx_new w1 (.int .i64 f') (.int .i64 (f' + jz - 1)) 86
  have hb7 := below_alloc w1 (.cells #[.int .i64 f', .int .i64 (f' + jz - 1)] 86)
  have HBW := Lib.hid (b1.trans (hb7.mono hW1))
  have HB7 := Lib.hid (HB.out.trans (HBW.out.mono HB.out.size))
  have HBX7 := Lib.hid BX7
  have HW1 := Lib.hid hW1
  clear b1 hb7 BX7 hW1 q0 q1 q2 q3
  have u1 := (HBW.out.cell (p := ⟨w.heap.size, 0, none⟩) hltk).trans g1
  have u2 := (HBW.out.cell (p := ⟨w.heap.size, 1, none⟩) hltk).trans g2
  go_wp2_with fail
  generalize w1.alloc (.cells #[.int .i64 f', .int .i64 (f' + jz - 1)] 86) = W2 at *
  clear u1 u2
  go_loopw [30] (fun s30 wr => ∃ (i : Nat), i ≤ k ∧ s30 = .int .i64 i ∧ Hid (Bx wr w1.heap.size (.int .i64 (admK l m x ys i (f', f' + jz - 1)).1) (.int .i64 (admK l m x ys i (f', f' + jz - 1)).2)) ∧ Hid (Below w.heap.size w wr ∧ Below W.heap.size W wr)) (fun s30 _ => k - (intOf s30).toNat)
  case atStart => exact ⟨0, Nat.zero_le _, rfl, HBX7.out, HB7.out, HBW.out⟩
  case round =>
    obtain ⟨i, hi, rfl, HP, HR⟩ := hrel
    by_cases hik : i < k
    · have hii : (i : Int) < (k : Int) := by omega
      have hi0 : (0 : Int) ≤ (i : Int) := by omega
      have hin : (i : Int) < (n1 : Int) := by omega
      obtain ⟨by_, oy, u, rfl, hu, e1⟩ := (HY.out.below HR.out.2).at i hik
      obtain ⟨bc', oc', nu, ny, hbb, hnx, e2, e3⟩ := (H.out.h1.below HR.out.2).at i (by omega)
      injection hbb with hbb
      injection hbb with hbb hoo
      subst hbb hoo
      have HU := Lib.hid hu
      have HN := Lib.hid (show nb l i = nu by rw [ChE.nb_of hnx])
      have v1 := (HR.out.2.cell (p := ⟨w.heap.size, 0, none⟩) hltk).trans g1
      have v2 := (HR.out.2.cell (p := ⟨w.heap.size, 1, none⟩) hltk).trans g2
      clear hu hnx
      go_wp2_with fail
      go_loopw [46] (fun s46 wq => ∃ (r : Nat), r ≤ n2 ∧ s46 = .int .i64 r ∧ Hid (Bx wq w1.heap.size (.int .i64 (row (m.take r) x nu u (admK l m x ys i (f', f' + jz - 1))).1) (.int .i64 (row (m.take r) x nu u (admK l m x ys i (f', f' + jz - 1))).2)) ∧ Hid (Below w.heap.size w wq ∧ Below W.heap.size W wq)) (fun s46 _ => n2 - (intOf s46).toNat)
      case atStart => exact ⟨0, Nat.zero_le _, rfl, HP.out, HR.out⟩
      case round =>
        obtain ⟨r, hr, rfl, HP2, HR2⟩ := hrel
        by_cases hrn : r < n2
        · have hrr : (r : Int) < (n2 : Int) := by omega
          obtain ⟨b2, o2, x2, y2, rfl, hm, e4, e5⟩ := (H.out.h2.below HR2.out.2).at r hrn
          have HNX := Lib.hid (row_next hm x nu u (admK l m x ys i (f', f' + jz - 1)))
          have HM := Lib.hid hm
          obtain ⟨Q, hQ⟩ : ∃ Q, Q = row (m.take r) x nu u (admK l m x ys i (f', f' + jz - 1)) := ⟨_, rfl⟩
          rw [← hQ] at HP2 HNX
          clear hQ
          obtain ⟨Q1, Q2⟩ := Q
          have hba := below_alloc wr (.cells #[.int .i64 x2, .int .i64 y2] 125)
          have t0 := box_first wr (.int .i64 x2) (.int .i64 y2) 125
          have t1 := box_second wr (.int .i64 x2) (.int .i64 y2) 125
          have HP3 := Lib.hid (HP2.out.below hba)
          have HR3 := Lib.hid (And.intro (HR2.out.1.trans (hba.mono HR2.out.1.size)) (HR2.out.2.trans (hba.mono HR2.out.2.size)))
          have hle7 := HP2.out.lt
          have hne7 : ¬ w1.heap.size = wr.heap.size := by omega
          have ht := new_two wr (.int .i64 x2) (.int .i64 y2) 125
          clear hm hba
          have hrow : Hid (one x nu u (Q1, Q2) (x2, y2) = (if x2 = x ∧ y2 = nu then max Q1 u else Q1, if x2 = nu ∧ y2 = x then min Q2 u else Q2)) := by
            unfold Hid one
            simp only [Prod.mk.injEq]
          have k0 := HP3.out.c0
          have k1 := HP3.out.c1
          have k2 := HP3.out.f0
          have k3 := HP3.out.f1
          have hmax : max Q1 u = if Q1 < u then u else Q1 := by split <;> omega
          have hmin : min Q2 u = if u < Q2 then u else Q2 := by split <;> omega
          have HBS := Lib.hid (And.intro HP2.out HR2.out)
          by_cases hA : x2 = x ∧ y2 = nu
          · have hA' := hA
            obtain ⟨e1, e2⟩ := hA'
            subst e1 e2
            go_upto_region 13 with fail
            have q1 := bx_set0 HBS.out.1 (.int .i64 (if Q1 < u then u else Q1))
            have qb := below_alloc (wr.setCell ⟨w1.heap.size, 0, none⟩ (.int .i64 (if Q1 < u then u else Q1))) (.cells #[.int .i64 x2, .int .i64 y2] 125)
            have q2 := HBS.out.2.1.setCell (p := ⟨w1.heap.size, 0, none⟩) (by show w.heap.size ≤ w1.heap.size; have := HW1.out; omega) (.int .i64 (if Q1 < u then u else Q1))
            have q3 := HBS.out.2.2.setCell (p := ⟨w1.heap.size, 0, none⟩) HW1.out (.int .i64 (if Q1 < u then u else Q1))
            have t0' := box_first (wr.setCell ⟨w1.heap.size, 0, none⟩ (.int .i64 (if Q1 < u then u else Q1))) (.int .i64 x2) (.int .i64 y2) 125
            have t1' := box_second (wr.setCell ⟨w1.heap.size, 0, none⟩ (.int .i64 (if Q1 < u then u else Q1))) (.int .i64 x2) (.int .i64 y2) 125
            rw [show (wr.setCell ⟨w1.heap.size, 0, none⟩ (.int .i64 (if Q1 < u then u else Q1))).heap.size = wr.heap.size by simp [World.setCell]] at t0' t1'
            have HV := Lib.hid (And.intro (q1.below qb) (And.intro (q2.trans (qb.mono q2.size)) (q3.trans (qb.mono q3.size))))
            clear q1 qb q2 q3 k0 k1 k2 k3 t0 t1
            generalize (wr.setCell ⟨w1.heap.size, 0, none⟩ (.int .i64 (if Q1 < u then u else Q1))).alloc (.cells #[.int .i64 x2, .int .i64 y2] 125) = V at *
            obtain ⟨N1, hN1⟩ : ∃ N1, N1 = (if Q1 < u then u else Q1) := ⟨_, rfl⟩
            have HN1 := Lib.hid (hmax.trans hN1.symm)
            rw [← hN1] at HV
            clear hN1
            have j0 := HV.out.1.c0
            have j1 := HV.out.1.c1
            have j2 := HV.out.1.f0
            have j3 := HV.out.1.f1
            have HW7 := Lib.hid (show w.heap.size ≤ w1.heap.size by have := HW1.out; omega)
            by_cases hB : x2 = y2 ∧ y2 = x2
            · have HE := Lib.hid (show one x2 y2 u (Q1, Q2) (x2, y2) = (N1, if u < Q2 then u else Q2) by rw [hrow.out, if_pos hA, if_pos hB, hmin, HN1.out])
              obtain ⟨e3, e4⟩ := hB
              try subst e3
              try subst e4
              by_cases hu : u < Q2
              · rw [if_pos hu] at HE
                first
                  | contradiction
                  | (exact absurd rfl e2)
                  | (exact absurd h1.symm h2)
                  | (go_wp2_with fail
                     exact ⟨⟨r + 1, by omega, by go_num, by rw [HNX.out, HE.out]; exact bx_set1 HV.out.1 _, HV.out.2.1.setCell (p := ⟨w1.heap.size, 1, none⟩) HW7.out _, HV.out.2.2.setCell (p := ⟨w1.heap.size, 1, none⟩) HW1.out _⟩, by simp [intOf]; omega⟩)
              · rw [if_neg hu] at HE
                first
                  | contradiction
                  | (exact absurd rfl e2)
                  | (exact absurd h1.symm h2)
                  | (go_wp2_with fail
                     exact ⟨⟨r + 1, by omega, by go_num, by rw [HNX.out, HE.out]; exact bx_set1 HV.out.1 _, HV.out.2.1.setCell (p := ⟨w1.heap.size, 1, none⟩) HW7.out _, HV.out.2.2.setCell (p := ⟨w1.heap.size, 1, none⟩) HW1.out _⟩, by simp [intOf]; omega⟩)
            · have HE := Lib.hid (show one x2 y2 u (Q1, Q2) (x2, y2) = (N1, Q2) by rw [hrow.out, if_pos hA, if_neg hB, HN1.out])
              by_cases h1 : x2 = y2
              · have h2 : ¬ y2 = x2 := fun e => hB ⟨h1, e⟩
                clear hB
                first
                  | contradiction
                  | (exact absurd rfl e2)
                  | (exact absurd h1.symm h2)
                  | (go_wp2_with fail
                     exact ⟨⟨r + 1, by omega, by go_num, by rw [HNX.out, HE.out]; exact HV.out.1, HV.out.2.1, HV.out.2.2⟩, by simp [intOf]; omega⟩)
              · clear hB
                first
                  | contradiction
                  | (exact absurd rfl e2)
                  | (exact absurd h1.symm h2)
                  | (go_wp2_with fail
                     exact ⟨⟨r + 1, by omega, by go_num, by rw [HNX.out, HE.out]; exact HV.out.1, HV.out.2.1, HV.out.2.2⟩, by simp [intOf]; omega⟩)
          · by_cases e1 : x2 = x
            · have e2 : ¬ y2 = nu := fun e => hA ⟨e1, e⟩
              subst e1
              go_upto_region 13 with fail
              have HV := Lib.hid (And.intro HP3.out (And.intro HR3.out.1 HR3.out.2))
              clear k0 k1 k2 k3
              generalize wr.alloc (.cells #[.int .i64 x2, .int .i64 y2] 125) = V at *
              obtain ⟨N1, hN1⟩ : ∃ N1, N1 = Q1 := ⟨_, rfl⟩
              have HN1 := Lib.hid hN1
              rw [show ((Q1, Q2) : Int × Int).1 = N1 from hN1.symm] at HV
              clear hN1
              have j0 := HV.out.1.c0
              have j1 := HV.out.1.c1
              have j2 := HV.out.1.f0
              have j3 := HV.out.1.f1
              have HW7 := Lib.hid (show w.heap.size ≤ w1.heap.size by have := HW1.out; omega)
              by_cases hB : x2 = nu ∧ y2 = x2
              · have HE := Lib.hid (show one x2 nu u (Q1, Q2) (x2, y2) = (N1, if u < Q2 then u else Q2) by rw [hrow.out, if_neg hA, if_pos hB, hmin, HN1.out])
                obtain ⟨e3, e4⟩ := hB
                try subst e3
                try subst e4
                by_cases hu : u < Q2
                · rw [if_pos hu] at HE
                  first
                    | contradiction
                    | (exact absurd rfl e2)
                    | (exact absurd h1.symm h2)
                    | (go_wp2_with fail
                       exact ⟨⟨r + 1, by omega, by go_num, by rw [HNX.out, HE.out]; exact bx_set1 HV.out.1 _, HV.out.2.1.setCell (p := ⟨w1.heap.size, 1, none⟩) HW7.out _, HV.out.2.2.setCell (p := ⟨w1.heap.size, 1, none⟩) HW1.out _⟩, by simp [intOf]; omega⟩)
                · rw [if_neg hu] at HE
                  first
                    | contradiction
                    | (exact absurd rfl e2)
                    | (exact absurd h1.symm h2)
                    | (go_wp2_with fail
                       exact ⟨⟨r + 1, by omega, by go_num, by rw [HNX.out, HE.out]; exact bx_set1 HV.out.1 _, HV.out.2.1.setCell (p := ⟨w1.heap.size, 1, none⟩) HW7.out _, HV.out.2.2.setCell (p := ⟨w1.heap.size, 1, none⟩) HW1.out _⟩, by simp [intOf]; omega⟩)
              · have HE := Lib.hid (show one x2 nu u (Q1, Q2) (x2, y2) = (N1, Q2) by rw [hrow.out, if_neg hA, if_neg hB, HN1.out])
                by_cases h1 : x2 = nu
                · have h2 : ¬ y2 = x2 := fun e => hB ⟨h1, e⟩
                  clear hB
                  first
                    | contradiction
                    | (exact absurd rfl e2)
                    | (exact absurd h1.symm h2)
                    | (go_wp2_with fail
                       exact ⟨⟨r + 1, by omega, by go_num, by rw [HNX.out, HE.out]; exact HV.out.1, HV.out.2.1, HV.out.2.2⟩, by simp [intOf]; omega⟩)
                · clear hB
                  first
                    | contradiction
                    | (exact absurd rfl e2)
                    | (exact absurd h1.symm h2)
                    | (go_wp2_with fail
                       exact ⟨⟨r + 1, by omega, by go_num, by rw [HNX.out, HE.out]; exact HV.out.1, HV.out.2.1, HV.out.2.2⟩, by simp [intOf]; omega⟩)
            · skip
              go_upto_region 13 with fail
              have HV := Lib.hid (And.intro HP3.out (And.intro HR3.out.1 HR3.out.2))
              clear k0 k1 k2 k3
              generalize wr.alloc (.cells #[.int .i64 x2, .int .i64 y2] 125) = V at *
              obtain ⟨N1, hN1⟩ : ∃ N1, N1 = Q1 := ⟨_, rfl⟩
              have HN1 := Lib.hid hN1
              rw [show ((Q1, Q2) : Int × Int).1 = N1 from hN1.symm] at HV
              clear hN1
              have j0 := HV.out.1.c0
              have j1 := HV.out.1.c1
              have j2 := HV.out.1.f0
              have j3 := HV.out.1.f1
              have HW7 := Lib.hid (show w.heap.size ≤ w1.heap.size by have := HW1.out; omega)
              by_cases hB : x2 = nu ∧ y2 = x
              · have HE := Lib.hid (show one x nu u (Q1, Q2) (x2, y2) = (N1, if u < Q2 then u else Q2) by rw [hrow.out, if_neg hA, if_pos hB, hmin, HN1.out])
                obtain ⟨e3, e4⟩ := hB
                try subst e3
                try subst e4
                by_cases hu : u < Q2
                · rw [if_pos hu] at HE
                  first
                    | contradiction
                    | (exact absurd rfl e2)
                    | (exact absurd h1.symm h2)
                    | (go_wp2_with fail
                       exact ⟨⟨r + 1, by omega, by go_num, by rw [HNX.out, HE.out]; exact bx_set1 HV.out.1 _, HV.out.2.1.setCell (p := ⟨w1.heap.size, 1, none⟩) HW7.out _, HV.out.2.2.setCell (p := ⟨w1.heap.size, 1, none⟩) HW1.out _⟩, by simp [intOf]; omega⟩)
                · rw [if_neg hu] at HE
                  first
                    | contradiction
                    | (exact absurd rfl e2)
                    | (exact absurd h1.symm h2)
                    | (go_wp2_with fail
                       exact ⟨⟨r + 1, by omega, by go_num, by rw [HNX.out, HE.out]; exact bx_set1 HV.out.1 _, HV.out.2.1.setCell (p := ⟨w1.heap.size, 1, none⟩) HW7.out _, HV.out.2.2.setCell (p := ⟨w1.heap.size, 1, none⟩) HW1.out _⟩, by simp [intOf]; omega⟩)
              · have HE := Lib.hid (show one x nu u (Q1, Q2) (x2, y2) = (N1, Q2) by rw [hrow.out, if_neg hA, if_neg hB, HN1.out])
                by_cases h1 : x2 = nu
                · have h2 : ¬ y2 = x := fun e => hB ⟨h1, e⟩
                  clear hB
                  first
                    | contradiction
                    | (exact absurd rfl e2)
                    | (exact absurd h1.symm h2)
                    | (go_wp2_with fail
                       exact ⟨⟨r + 1, by omega, by go_num, by rw [HNX.out, HE.out]; exact HV.out.1, HV.out.2.1, HV.out.2.2⟩, by simp [intOf]; omega⟩)
                · clear hB
                  first
                    | contradiction
                    | (exact absurd rfl e2)
                    | (exact absurd h1.symm h2)
                    | (go_wp2_with fail
                       exact ⟨⟨r + 1, by omega, by go_num, by rw [HNX.out, HE.out]; exact HV.out.1, HV.out.2.1, HV.out.2.2⟩, by simp [intOf]; omega⟩)
        · obtain rfl : r = n2 := by omega
          have ht : m.take r = m := List.take_of_length_le (by rw [hl2.out]; exact Nat.le_refl _)
          have HQ : Hid (Bx wr w1.heap.size (.int .i64 (admK l m x ys (i + 1) (f', f' + jz - 1)).1) (.int .i64 (admK l m x ys (i + 1) (f', f' + jz - 1)).2)) := by
            have h1 := HP2.out
            rw [ht] at h1
            have h2 : ys.getD i 0 = u := by rw [List.getD_eq_getElem?_getD, HU.out]; rfl
            unfold Hid
            show Bx wr w1.heap.size (.int .i64 (row m x (nb l i) (ys.getD i 0) (admK l m x ys i (f', f' + jz - 1))).1) (.int .i64 (row m x (nb l i) (ys.getD i 0) (admK l m x ys i (f', f' + jz - 1))).2)
            rw [h2, HN.out]
            exact h1
          have hrr : ¬ (r : Int) < (r : Int) := by omega
          go_wp2_with fail
          go_roundw
          case rel => exact ⟨i + 1, by omega, by go_num, HQ.out, HR2.out⟩
          case measure => simp [intOf]; omega
    · obtain rfl : i = k := by omega
      have hii : ¬ (i : Int) < (i : Int) := by omega
      have HF : Hid (adm l m ys (f', f' + (M'.length : Int) - 1) = admK l m x ys i (f', f' + jz - 1)) := by
        unfold Hid adm
        rw [HYL.out, HNB.out, hjz]
      obtain ⟨P, hP⟩ : ∃ P, P = admK l m x ys i (f', f' + jz - 1) := ⟨_, rfl⟩
      rw [← hP] at HP HF
      clear hP
      have HB4 := Lib.hid (HBX.out.below HR.out.2)
      have HEB := Lib.hid HR.out.1
      have k0 := HP.out.c0
      have k1 := HP.out.c1
      have k2 := HB4.out.c0
      have k3 := HB4.out.c1
      have k4 := HB4.out.f0
      have k5 := HB4.out.f1
      go_wp2_with fail
      have HEE := (HEB.out.setCell (p := ⟨w.heap.size + 1, 0, none⟩) (by show w.heap.size ≤ w.heap.size + 1; omega) (.int .i64 P.1)).setCell (p := ⟨w.heap.size + 1, 1, none⟩) (by show w.heap.size ≤ w.heap.size + 1; omega) (.int .i64 P.2)
      have hbp := bx_put HB4.out (.int .i64 P.1) (.int .i64 P.2)
      have c0 := hbp.c0
      have c1 := hbp.c1
      try simp only [Exit.inBlock, Exit.then]
      refine bodyPost_ret (v := .agg #[.int .i64 P.1, .int .i64 P.2]) (by simp [results, Try.results61, go_sem, c0, c1]) rfl ⟨by first | rw [HF.out] | (rw [hjz] at HF; rw [HF.out]) | (have hf2 := HF.out; rw [hjz] at hf2; rw [hf2]), HEE⟩
end Go.Proofs.Ytfbgekhkbbhggaa.AdI
