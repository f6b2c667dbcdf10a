/- Contracts of ParseKind on both sides: the kind of a word, or 0. -/
import Derived.Test.YtknlackphdcflaaDoorWords
namespace Go.Proofs.YtknlackphdcflaaDoor.ParseK
open Go.RowKit Words

/-- The kind of a word, or 0. -/
def kindOf (s : ByteArray) : Nat := if s = word 1 then 1 else if s = word 2 then 2 else if s = word 3 then 3 else if s = word 4 then 4 else 0
theorem str_ne {a b : ByteArray} (h : a ≠ b) : (a.toList == b.toList) = false := by
  rw [ByteArray.toList_eq, ByteArray.toList_eq, beq_eq_false_iff_ne]
  intro e
  apply h
  have : a.data = b.data := Array.toList_inj.1 e
  cases a; cases b; simp_all
theorem cases5 (s : ByteArray) : (s = word 1 ∧ kindOf s = 1) ∨ (s = word 2 ∧ s ≠ word 1 ∧ kindOf s = 2) ∨ (s = word 3 ∧ s ≠ word 1 ∧ s ≠ word 2 ∧ kindOf s = 3) ∨ (s = word 4 ∧ s ≠ word 1 ∧ s ≠ word 2 ∧ s ≠ word 3 ∧ kindOf s = 4) ∨ (s ≠ word 1 ∧ s ≠ word 2 ∧ s ≠ word 3 ∧ s ≠ word 4 ∧ kindOf s = 0) := by
  unfold kindOf
  by_cases h1 : s = word 1
  · exact .inl ⟨h1, if_pos h1⟩
  · by_cases h2 : s = word 2
    · exact .inr (.inl ⟨h2, h1, by rw [if_neg h1, if_pos h2]⟩)
    · by_cases h3 : s = word 3
      · exact .inr (.inr (.inl ⟨h3, h1, h2, by rw [if_neg h1, if_neg h2, if_pos h3]⟩))
      · by_cases h4 : s = word 4
        · exact .inr (.inr (.inr (.inl ⟨h4, h1, h2, h3, by rw [if_neg h1, if_neg h2, if_neg h3, if_pos h4]⟩)))
        · exact .inr (.inr (.inr (.inr ⟨h1, h2, h3, h4, by rw [if_neg h1, if_neg h2, if_neg h3, if_neg h4]⟩)))
theorem ne_flip {s : ByteArray} {k : Nat} (h : s ≠ word k) : ((word k).toList == s.toList) = false := str_ne (Ne.symm h)
theorem rounds6 {k : Int} (h0 : 0 ≤ k) (h : k ≤ 5) : k = 0 ∨ k = 1 ∨ k = 2 ∨ k = 3 ∨ k = 4 ∨ k = 5 := by omega
/-- What the array holds at an index. -/
theorem at0 (w : World) : (Instr.index 58 (.agg cells5) (.int .i64 0)).run Tryd.prog w = .ok (.string (word 0)) w := by kernel_rfl
theorem at1 (w : World) : (Instr.index 58 (.agg cells5) (.int .i64 1)).run Tryd.prog w = .ok (.string (word 1)) w := by kernel_rfl
theorem at2 (w : World) : (Instr.index 58 (.agg cells5) (.int .i64 2)).run Tryd.prog w = .ok (.string (word 2)) w := by kernel_rfl
theorem at3 (w : World) : (Instr.index 58 (.agg cells5) (.int .i64 3)).run Tryd.prog w = .ok (.string (word 3)) w := by kernel_rfl
theorem at4 (w : World) : (Instr.index 58 (.agg cells5) (.int .i64 4)).run Tryd.prog w = .ok (.string (word 4)) w := by kernel_rfl
set_option maxHeartbeats 4000000 in
theorem spec_l3Kind (s : ByteArray) (w : World) : Calls Tryd.prog 35 #[.string s] w fun e w' => e = .returned (.int .i64 (kindOf s : Nat)) ∧ Below w.heap.size w w' := by
  have hb := (Below.refl w.heap.size w).alloc (Nat.le_refl _) (.cells cells5 9)
  have c1 : (w.alloc (.cells cells5 9)).cell? ⟨w.heap.size, 1, none⟩ = some (.string (word 1)) := words_cell w 1
  have c2 : (w.alloc (.cells cells5 9)).cell? ⟨w.heap.size, 2, none⟩ = some (.string (word 2)) := words_cell w 2
  have c3 : (w.alloc (.cells cells5 9)).cell? ⟨w.heap.size, 3, none⟩ = some (.string (word 3)) := words_cell w 3
  have c4 : (w.alloc (.cells cells5 9)).cell? ⟨w.heap.size, 4, none⟩ = some (.string (word 4)) := words_cell w 4
  rcases cases5 s with ⟨rfl, e⟩ | ⟨rfl, n1, e⟩ | ⟨rfl, n1, n2, e⟩ | ⟨rfl, n1, n2, n3, e⟩ | ⟨n1, n2, n3, n4, e⟩
  all_goals rw [e]
  all_goals clear e
  all_goals (try (have m1 := ne_flip n1; clear n1))
  all_goals (try (have m2 := ne_flip n2; clear n2))
  all_goals (try (have m3 := ne_flip n3; clear n3))
  all_goals (try (have m4 := ne_flip n4; clear n4))
  all_goals go_enter Tryd.func35, Tryd.ntmps35
  all_goals go_wp2_with fail
  all_goals (refine (l3Words_any _).mono ?_; rintro e w' ⟨rfl, rfl⟩)
  all_goals generalize w.alloc (.cells cells5 9) = W at *
  all_goals go_wp2_with fail
  · go_loop [4] (fun s4 => s4 = .int .i64 1) (fun s4 => (6 - intOf s4).toNat)
    case atStart => rfl
    case round =>
      subst hrel
      go_wp2_with fail
      go_ret
      exact ⟨rfl, hb⟩
  · go_loop [4] (fun s4 => s4 = .int .i64 1 ∨ s4 = .int .i64 2) (fun s4 => (6 - intOf s4).toNat)
    case atStart => exact .inl rfl
    case round =>
      rcases hrel with rfl | rfl
      · go_wp2_with fail
        exact ⟨.inr rfl, by simp [intOf]⟩
      · go_wp2_with fail
        go_ret
        exact ⟨rfl, hb⟩
  · go_loop [4] (fun s4 => s4 = .int .i64 1 ∨ s4 = .int .i64 2 ∨ s4 = .int .i64 3) (fun s4 => (6 - intOf s4).toNat)
    case atStart => exact .inl rfl
    case round =>
      rcases hrel with rfl | rfl | rfl
      · go_wp2_with fail
        exact ⟨.inr (.inl rfl), by simp [intOf]⟩
      · go_wp2_with fail
        exact ⟨.inr (.inr rfl), by simp [intOf]⟩
      · go_wp2_with fail
        go_ret
        exact ⟨rfl, hb⟩
  · go_loop [4] (fun s4 => s4 = .int .i64 1 ∨ s4 = .int .i64 2 ∨ s4 = .int .i64 3 ∨ s4 = .int .i64 4) (fun s4 => (6 - intOf s4).toNat)
    case atStart => exact .inl rfl
    case round =>
      rcases hrel with rfl | rfl | rfl | rfl
      · go_wp2_with fail
        exact ⟨.inr (.inl rfl), by simp [intOf]⟩
      · go_wp2_with fail
        exact ⟨.inr (.inr (.inl rfl)), by simp [intOf]⟩
      · go_wp2_with fail
        exact ⟨.inr (.inr (.inr rfl)), by simp [intOf]⟩
      · go_wp2_with fail
        go_ret
        exact ⟨rfl, hb⟩
  · go_loop [4] (fun s4 => s4 = .int .i64 1 ∨ s4 = .int .i64 2 ∨ s4 = .int .i64 3 ∨ s4 = .int .i64 4 ∨ s4 = .int .i64 5) (fun s4 => (6 - intOf s4).toNat)
    case atStart => exact .inl rfl
    case round =>
      rcases hrel with rfl | rfl | rfl | rfl | rfl
      · go_wp2_with fail
        exact ⟨.inr (.inl rfl), by simp [intOf]⟩
      · go_wp2_with fail
        exact ⟨.inr (.inr (.inl rfl)), by simp [intOf]⟩
      · go_wp2_with fail
        exact ⟨.inr (.inr (.inr (.inl rfl))), by simp [intOf]⟩
      · go_wp2_with fail
        exact ⟨.inr (.inr (.inr (.inr rfl))), by simp [intOf]⟩
      · go_wp2_with fail
        go_ret
        exact ⟨rfl, hb⟩
theorem pos_of (s : ByteArray) (w : World) : Calls Tryd.prog 11 #[.string s] w fun e w' => e = .returned (.tuple #[.int .i64 (kindOf s : Nat), .bool (decide (0 < kindOf s))]) ∧ Below w.heap.size w w' := by
  rcases cases5 s with ⟨-, e⟩ | ⟨-, -, e⟩ | ⟨-, -, -, e⟩ | ⟨-, -, -, -, e⟩ | ⟨-, -, -, -, e⟩
  all_goals (have H := fun w => spec_l3Kind s w)
  all_goals rw [e] at H ⊢
  all_goals (have HC := Lib.hid H; clear H e)
  all_goals go_enter Tryd.func11, Tryd.ntmps11
  all_goals go_wp2_with fail
  all_goals (refine (HC.out _).mono ?_; rintro e w1 ⟨rfl, b1⟩)
  all_goals go_wp2_with fail
  all_goals (refine (HC.out _).mono ?_; rintro e w2 ⟨rfl, b2⟩)
  all_goals go_wp2_with fail
  all_goals go_ret2
  all_goals exact ⟨rfl, b1.trans (b2.mono b1.size)⟩
set_option maxHeartbeats 4000000 in
theorem impl_ParseKind (s : ByteArray) (w : World) (hT : KTab w) : Calls Tryd.prog 12 #[.string s] w fun e w' => e = .returned (.tuple #[.int .i64 (kindOf s : Nat), .bool (decide (0 < kindOf s))]) ∧ w = w' := by
  obtain ⟨tt, fr, hrow⟩ := hT.row
  have HR := Lib.hid hrow
  clear hrow hT
  have i0 := at0
  have i1 := at1
  have i2 := at2
  have i3 := at3
  have i4 := at4
  rcases cases5 s with ⟨rfl, e⟩ | ⟨rfl, n1, e⟩ | ⟨rfl, n1, n2, e⟩ | ⟨rfl, n1, n2, n3, e⟩ | ⟨n1, n2, n3, n4, e⟩
  all_goals rw [e]
  all_goals clear e
  all_goals (try (have m1 := ne_flip n1; clear n1))
  all_goals (try (have m2 := ne_flip n2; clear n2))
  all_goals (try (have m3 := ne_flip n3; clear n3))
  all_goals (try (have m4 := ne_flip n4; clear n4))
  all_goals go_enter Tryd.func12, Tryd.ntmps12
  all_goals go_wp2_with (refine wpList_load_row rfl 58 _ rfl 0 rfl tt _ fr _ HR.out Tryd.underlying58 rfl (by kernel_rfl) ?_)
  · go_loop [7] (fun s7 => s7 = .int .i64 0 ∨ s7 = .int .i64 1) (fun s7 => (6 - intOf s7).toNat)
    case atStart => exact .inl rfl
    case round =>
      rcases hrel with rfl | rfl
      · go_wp2_with (go_at_call 34; refine (isKind_any _ _).mono ?_; rintro e w' ⟨rfl, rfl⟩)
        exact ⟨.inr rfl, by simp [intOf]⟩
      · go_wp2_with (go_at_call 34; refine (isKind_any _ _).mono ?_; rintro e w' ⟨rfl, rfl⟩)
        try rw [Exit.noGoto_ret]
        go_ret2
        exact ⟨rfl, rfl⟩
  · go_loop [7] (fun s7 => s7 = .int .i64 0 ∨ s7 = .int .i64 1 ∨ s7 = .int .i64 2) (fun s7 => (6 - intOf s7).toNat)
    case atStart => exact .inl rfl
    case round =>
      rcases hrel with rfl | rfl | rfl
      · go_wp2_with (go_at_call 34; refine (isKind_any _ _).mono ?_; rintro e w' ⟨rfl, rfl⟩)
        exact ⟨.inr (.inl rfl), by simp [intOf]⟩
      · go_wp2_with (go_at_call 34; refine (isKind_any _ _).mono ?_; rintro e w' ⟨rfl, rfl⟩)
        exact ⟨.inr (.inr rfl), by simp [intOf]⟩
      · go_wp2_with (go_at_call 34; refine (isKind_any _ _).mono ?_; rintro e w' ⟨rfl, rfl⟩)
        try rw [Exit.noGoto_ret]
        go_ret2
        exact ⟨rfl, rfl⟩
  · go_loop [7] (fun s7 => s7 = .int .i64 0 ∨ s7 = .int .i64 1 ∨ s7 = .int .i64 2 ∨ s7 = .int .i64 3) (fun s7 => (6 - intOf s7).toNat)
    case atStart => exact .inl rfl
    case round =>
      rcases hrel with rfl | rfl | rfl | rfl
      · go_wp2_with (go_at_call 34; refine (isKind_any _ _).mono ?_; rintro e w' ⟨rfl, rfl⟩)
        exact ⟨.inr (.inl rfl), by simp [intOf]⟩
      · go_wp2_with (go_at_call 34; refine (isKind_any _ _).mono ?_; rintro e w' ⟨rfl, rfl⟩)
        exact ⟨.inr (.inr (.inl rfl)), by simp [intOf]⟩
      · go_wp2_with (go_at_call 34; refine (isKind_any _ _).mono ?_; rintro e w' ⟨rfl, rfl⟩)
        exact ⟨.inr (.inr (.inr rfl)), by simp [intOf]⟩
      · go_wp2_with (go_at_call 34; refine (isKind_any _ _).mono ?_; rintro e w' ⟨rfl, rfl⟩)
        try rw [Exit.noGoto_ret]
        go_ret2
        exact ⟨rfl, rfl⟩
  · go_loop [7] (fun s7 => s7 = .int .i64 0 ∨ s7 = .int .i64 1 ∨ s7 = .int .i64 2 ∨ s7 = .int .i64 3 ∨ s7 = .int .i64 4) (fun s7 => (6 - intOf s7).toNat)
    case atStart => exact .inl rfl
    case round =>
      rcases hrel with rfl | rfl | rfl | rfl | rfl
      · go_wp2_with (go_at_call 34; refine (isKind_any _ _).mono ?_; rintro e w' ⟨rfl, rfl⟩)
        exact ⟨.inr (.inl rfl), by simp [intOf]⟩
      · go_wp2_with (go_at_call 34; refine (isKind_any _ _).mono ?_; rintro e w' ⟨rfl, rfl⟩)
        exact ⟨.inr (.inr (.inl rfl)), by simp [intOf]⟩
      · go_wp2_with (go_at_call 34; refine (isKind_any _ _).mono ?_; rintro e w' ⟨rfl, rfl⟩)
        exact ⟨.inr (.inr (.inr (.inl rfl))), by simp [intOf]⟩
      · go_wp2_with (go_at_call 34; refine (isKind_any _ _).mono ?_; rintro e w' ⟨rfl, rfl⟩)
        exact ⟨.inr (.inr (.inr (.inr rfl))), by simp [intOf]⟩
      · go_wp2_with (go_at_call 34; refine (isKind_any _ _).mono ?_; rintro e w' ⟨rfl, rfl⟩)
        try rw [Exit.noGoto_ret]
        go_ret2
        exact ⟨rfl, rfl⟩
  · go_loop [7] (fun s7 => s7 = .int .i64 0 ∨ s7 = .int .i64 1 ∨ s7 = .int .i64 2 ∨ s7 = .int .i64 3 ∨ s7 = .int .i64 4 ∨ s7 = .int .i64 5) (fun s7 => (6 - intOf s7).toNat)
    case atStart => exact .inl rfl
    case round =>
      rcases hrel with rfl | rfl | rfl | rfl | rfl | rfl
      · go_wp2_with (go_at_call 34; refine (isKind_any _ _).mono ?_; rintro e w' ⟨rfl, rfl⟩)
        exact ⟨.inr (.inl rfl), by simp [intOf]⟩
      · go_wp2_with (go_at_call 34; refine (isKind_any _ _).mono ?_; rintro e w' ⟨rfl, rfl⟩)
        exact ⟨.inr (.inr (.inl rfl)), by simp [intOf]⟩
      · go_wp2_with (go_at_call 34; refine (isKind_any _ _).mono ?_; rintro e w' ⟨rfl, rfl⟩)
        exact ⟨.inr (.inr (.inr (.inl rfl))), by simp [intOf]⟩
      · go_wp2_with (go_at_call 34; refine (isKind_any _ _).mono ?_; rintro e w' ⟨rfl, rfl⟩)
        exact ⟨.inr (.inr (.inr (.inr (.inl rfl)))), by simp [intOf]⟩
      · go_wp2_with (go_at_call 34; refine (isKind_any _ _).mono ?_; rintro e w' ⟨rfl, rfl⟩)
        exact ⟨.inr (.inr (.inr (.inr (.inr rfl)))), by simp [intOf]⟩
      · go_wp2_with (go_at_call 34; refine (isKind_any _ _).mono ?_; rintro e w' ⟨rfl, rfl⟩)
        try rw [Exit.noGoto_ret]
        go_ret2
        exact ⟨rfl, rfl⟩
end Go.Proofs.YtknlackphdcflaaDoor.ParseK
