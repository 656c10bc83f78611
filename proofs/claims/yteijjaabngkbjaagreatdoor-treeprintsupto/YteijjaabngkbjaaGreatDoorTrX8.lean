/- TrX8 -/
import Derived.Test.YteijjaabngkbjaaGreatDoorTrX7
import Derived.Test.YteijjaabngkbjaaGreatDoorTrLAll
namespace Go.Proofs.YteijjaabngkbjaaGreatDoor.X
open Go.RowKit Te
set_option linter.unusedSimpArgs false
set_option linter.unusedVariables false
set_option maxRecDepth 20000 in
set_option maxHeartbeats 4000000 in
theorem stated_1 (name : Bs) (e : Exs) (nb nl : Nat) (ao1 ao2 ao3 : Option Addr) (cap1 cap2 cap3 : Nat) (w : World) (he : ExL w ao1 cap1 e) (b1 : nb ≤ cap2) (b2 : cap2 ≤ 9223372036854775807) (b3 : nl ≤ cap3) (b4 : cap3 ≤ 9223372036854775807) (r : Bool) (hr : Hidden (fitsS ⟨1, name⟩ e nb nl = r)) :
    Calls Tryz.prog 135 #[stV ⟨1, name⟩ (.slice ao1 e.len cap1) (.slice ao2 nb cap2) (.slice ao3 nl cap3)] w fun e w' => e = .returned (.bool r) ∧ Fr (fun _ => False) w w' := by
  have a1 := he.1
  have a2 : cap1 ≤ 9223372036854775807 := by have := he.2.1; unfold maxLen at this; omega
  have hr2 : Hidden (decide (e.len = 1 ∧ nb = 0 ∧ nl = 0) = r) := by rw [← (show _ = r from hr)]; simp [Hidden, fitsS]
  generalize e.len = n at *
  clear hr he
  go_enter Tryz.func135, Tryz.ntmps135
  go_wp2_with fail
  all_goals
    go_ret
    refine ⟨ret_bl ?_, ?_⟩
    · rw [← (show _ = r from hr2)]
      clear hr2
      subst_vars
      have hisE : List.isEmpty name = decide (name = []) := by cases name <;> simp
      try simp only [hisE, Bool.not_eq_true', Bool.not_eq_false', bne_iff_ne, bne_eq_false_iff_eq, decide_eq_true_eq, decide_eq_false_iff_not, beq_iff_eq, beq_eq_false_iff_ne, ne_eq] at *
      first | (simp [*]; done) | (simp [*]; omega) | (rw [Bool.eq_iff_iff]; simp [*]; done) | (rw [Bool.eq_iff_iff]; simp [*]; omega)
    · repeat (refine fr_set ?_ (Nat.le_refl _) _ _)
      exact Fr.alloc _ _ _
set_option maxRecDepth 20000 in
set_option maxHeartbeats 4000000 in
theorem stated_2 (name : Bs) (e : Exs) (nb nl : Nat) (ao1 ao2 ao3 : Option Addr) (cap1 cap2 cap3 : Nat) (w : World) (he : ExL w ao1 cap1 e) (b1 : nb ≤ cap2) (b2 : cap2 ≤ 9223372036854775807) (b3 : nl ≤ cap3) (b4 : cap3 ≤ 9223372036854775807) (r : Bool) (hr : Hidden (fitsS ⟨2, name⟩ e nb nl = r)) :
    Calls Tryz.prog 135 #[stV ⟨2, name⟩ (.slice ao1 e.len cap1) (.slice ao2 nb cap2) (.slice ao3 nl cap3)] w fun e w' => e = .returned (.bool r) ∧ Fr (fun _ => False) w w' := by
  have a1 := he.1
  have a2 : cap1 ≤ 9223372036854775807 := by have := he.2.1; unfold maxLen at this; omega
  have hr2 : Hidden (decide (e.len = 1 ∧ nb = 0 ∧ nl = 0) = r) := by rw [← (show _ = r from hr)]; simp [Hidden, fitsS]
  generalize e.len = n at *
  clear hr he
  go_enter Tryz.func135, Tryz.ntmps135
  go_wp2_with fail
  all_goals
    go_ret
    refine ⟨ret_bl ?_, ?_⟩
    · rw [← (show _ = r from hr2)]
      clear hr2
      subst_vars
      have hisE : List.isEmpty name = decide (name = []) := by cases name <;> simp
      try simp only [hisE, Bool.not_eq_true', Bool.not_eq_false', bne_iff_ne, bne_eq_false_iff_eq, decide_eq_true_eq, decide_eq_false_iff_not, beq_iff_eq, beq_eq_false_iff_ne, ne_eq] at *
      first | (simp [*]; done) | (simp [*]; omega) | (rw [Bool.eq_iff_iff]; simp [*]; done) | (rw [Bool.eq_iff_iff]; simp [*]; omega)
    · repeat (refine fr_set ?_ (Nat.le_refl _) _ _)
      exact Fr.alloc _ _ _
set_option maxRecDepth 20000 in
set_option maxHeartbeats 4000000 in
theorem stated_3 (name : Bs) (e : Exs) (nb nl : Nat) (ao1 ao2 ao3 : Option Addr) (cap1 cap2 cap3 : Nat) (w : World) (he : ExL w ao1 cap1 e) (b1 : nb ≤ cap2) (b2 : cap2 ≤ 9223372036854775807) (b3 : nl ≤ cap3) (b4 : cap3 ≤ 9223372036854775807) (r : Bool) (hr : Hidden (fitsS ⟨3, name⟩ e nb nl = r)) :
    Calls Tryz.prog 135 #[stV ⟨3, name⟩ (.slice ao1 e.len cap1) (.slice ao2 nb cap2) (.slice ao3 nl cap3)] w fun e w' => e = .returned (.bool r) ∧ Fr (fun _ => False) w w' := by
  have a1 := he.1
  have a2 : cap1 ≤ 9223372036854775807 := by have := he.2.1; unfold maxLen at this; omega
  have hr2 : Hidden (decide (e.len = 1 ∧ name = []) = r) := by rw [← (show _ = r from hr)]; simp [Hidden, fitsS]
  generalize e.len = n at *
  clear hr he
  go_enter Tryz.func135, Tryz.ntmps135
  go_wp2_with fail
  all_goals
    go_ret
    refine ⟨ret_bl ?_, ?_⟩
    · rw [← (show _ = r from hr2)]
      clear hr2
      subst_vars
      have hisE : List.isEmpty name = decide (name = []) := by cases name <;> simp
      try simp only [hisE, Bool.not_eq_true', Bool.not_eq_false', bne_iff_ne, bne_eq_false_iff_eq, decide_eq_true_eq, decide_eq_false_iff_not, beq_iff_eq, beq_eq_false_iff_ne, ne_eq] at *
      first | (simp [*]; done) | (simp [*]; omega) | (rw [Bool.eq_iff_iff]; simp [*]; done) | (rw [Bool.eq_iff_iff]; simp [*]; omega)
    · repeat (refine fr_set ?_ (Nat.le_refl _) _ _)
      exact Fr.alloc _ _ _
set_option maxRecDepth 20000 in
set_option maxHeartbeats 4000000 in
theorem stated_4 (name : Bs) (e : Exs) (nb nl : Nat) (ao1 ao2 ao3 : Option Addr) (cap1 cap2 cap3 : Nat) (w : World) (he : ExL w ao1 cap1 e) (b1 : nb ≤ cap2) (b2 : cap2 ≤ 9223372036854775807) (b3 : nl ≤ cap3) (b4 : cap3 ≤ 9223372036854775807) (r : Bool) (hr : Hidden (fitsS ⟨4, name⟩ e nb nl = r)) :
    Calls Tryz.prog 135 #[stV ⟨4, name⟩ (.slice ao1 e.len cap1) (.slice ao2 nb cap2) (.slice ao3 nl cap3)] w fun e w' => e = .returned (.bool r) ∧ Fr (fun _ => False) w w' := by
  have a1 := he.1
  have a2 : cap1 ≤ 9223372036854775807 := by have := he.2.1; unfold maxLen at this; omega
  have hr2 : Hidden (decide (e.len = 1 ∧ name = [] ∧ nl = 0) = r) := by rw [← (show _ = r from hr)]; simp [Hidden, fitsS]
  generalize e.len = n at *
  clear hr he
  go_enter Tryz.func135, Tryz.ntmps135
  go_wp2_with fail
  all_goals
    go_ret
    refine ⟨ret_bl ?_, ?_⟩
    · rw [← (show _ = r from hr2)]
      clear hr2
      subst_vars
      have hisE : List.isEmpty name = decide (name = []) := by cases name <;> simp
      try simp only [hisE, Bool.not_eq_true', Bool.not_eq_false', bne_iff_ne, bne_eq_false_iff_eq, decide_eq_true_eq, decide_eq_false_iff_not, beq_iff_eq, beq_eq_false_iff_ne, ne_eq] at *
      first | (simp [*]; done) | (simp [*]; omega) | (rw [Bool.eq_iff_iff]; simp [*]; done) | (rw [Bool.eq_iff_iff]; simp [*]; omega)
    · repeat (refine fr_set ?_ (Nat.le_refl _) _ _)
      exact Fr.alloc _ _ _
set_option maxRecDepth 20000 in
set_option maxHeartbeats 4000000 in
theorem stated_5 (name : Bs) (e : Exs) (nb nl : Nat) (ao1 ao2 ao3 : Option Addr) (cap1 cap2 cap3 : Nat) (w : World) (he : ExL w ao1 cap1 e) (b1 : nb ≤ cap2) (b2 : cap2 ≤ 9223372036854775807) (b3 : nl ≤ cap3) (b4 : cap3 ≤ 9223372036854775807) (r : Bool) (hr : Hidden (fitsS ⟨5, name⟩ e nb nl = r)) :
    Calls Tryz.prog 135 #[stV ⟨5, name⟩ (.slice ao1 e.len cap1) (.slice ao2 nb cap2) (.slice ao3 nl cap3)] w fun e w' => e = .returned (.bool r) ∧ Fr (fun _ => False) w w' := by
  have a1 := he.1
  have a2 : cap1 ≤ 9223372036854775807 := by have := he.2.1; unfold maxLen at this; omega
  have hr2 : Hidden (decide (e.len ≤ 1 ∧ name = [] ∧ nb = 0 ∧ nl = 0) = r) := by rw [← (show _ = r from hr)]; simp [Hidden, fitsS]
  generalize e.len = n at *
  clear hr he
  go_enter Tryz.func135, Tryz.ntmps135
  go_wp2_with fail
  all_goals
    go_ret
    refine ⟨ret_bl ?_, ?_⟩
    · rw [← (show _ = r from hr2)]
      clear hr2
      subst_vars
      have hisE : List.isEmpty name = decide (name = []) := by cases name <;> simp
      try simp only [hisE, Bool.not_eq_true', Bool.not_eq_false', bne_iff_ne, bne_eq_false_iff_eq, decide_eq_true_eq, decide_eq_false_iff_not, beq_iff_eq, beq_eq_false_iff_ne, ne_eq] at *
      first | (simp [*]; done) | (simp [*]; omega) | (rw [Bool.eq_iff_iff]; simp [*]; done) | (rw [Bool.eq_iff_iff]; simp [*]; omega)
    · repeat (refine fr_set ?_ (Nat.le_refl _) _ _)
      exact Fr.alloc _ _ _
set_option maxRecDepth 20000 in
set_option maxHeartbeats 4000000 in
theorem stated_6 (name : Bs) (e : Exs) (nb nl : Nat) (ao1 ao2 ao3 : Option Addr) (cap1 cap2 cap3 : Nat) (w : World) (he : ExL w ao1 cap1 e) (b1 : nb ≤ cap2) (b2 : cap2 ≤ 9223372036854775807) (b3 : nl ≤ cap3) (b4 : cap3 ≤ 9223372036854775807) (r : Bool) (hr : Hidden (fitsS ⟨6, name⟩ e nb nl = r)) :
    Calls Tryz.prog 135 #[stV ⟨6, name⟩ (.slice ao1 e.len cap1) (.slice ao2 nb cap2) (.slice ao3 nl cap3)] w fun e w' => e = .returned (.bool r) ∧ Fr (fun _ => False) w w' := by
  have a1 := he.1
  have a2 : cap1 ≤ 9223372036854775807 := by have := he.2.1; unfold maxLen at this; omega
  have hr2 : Hidden (decide (e.len = 1 ∧ name = [] ∧ nb = 0 ∧ nl = 0) = r) := by rw [← (show _ = r from hr)]; simp [Hidden, fitsS]
  generalize e.len = n at *
  clear hr he
  go_enter Tryz.func135, Tryz.ntmps135
  go_wp2_with fail
  all_goals
    go_ret
    refine ⟨ret_bl ?_, ?_⟩
    · rw [← (show _ = r from hr2)]
      clear hr2
      subst_vars
      have hisE : List.isEmpty name = decide (name = []) := by cases name <;> simp
      try simp only [hisE, Bool.not_eq_true', Bool.not_eq_false', bne_iff_ne, bne_eq_false_iff_eq, decide_eq_true_eq, decide_eq_false_iff_not, beq_iff_eq, beq_eq_false_iff_ne, ne_eq] at *
      first | (simp [*]; done) | (simp [*]; omega) | (rw [Bool.eq_iff_iff]; simp [*]; done) | (rw [Bool.eq_iff_iff]; simp [*]; omega)
    · repeat (refine fr_set ?_ (Nat.le_refl _) _ _)
      exact Fr.alloc _ _ _
set_option maxRecDepth 20000 in
set_option maxHeartbeats 4000000 in
theorem stated_7 (name : Bs) (e : Exs) (nb nl : Nat) (ao1 ao2 ao3 : Option Addr) (cap1 cap2 cap3 : Nat) (w : World) (he : ExL w ao1 cap1 e) (b1 : nb ≤ cap2) (b2 : cap2 ≤ 9223372036854775807) (b3 : nl ≤ cap3) (b4 : cap3 ≤ 9223372036854775807) (r : Bool) (hr : Hidden (fitsS ⟨7, name⟩ e nb nl = r)) :
    Calls Tryz.prog 135 #[stV ⟨7, name⟩ (.slice ao1 e.len cap1) (.slice ao2 nb cap2) (.slice ao3 nl cap3)] w fun e w' => e = .returned (.bool r) ∧ Fr (fun _ => False) w w' := by
  have a1 := he.1
  have a2 : cap1 ≤ 9223372036854775807 := by have := he.2.1; unfold maxLen at this; omega
  have hr2 : Hidden (decide (e.len = 1 ∧ name = [] ∧ nb = 0 ∧ nl = 0) = r) := by rw [← (show _ = r from hr)]; simp [Hidden, fitsS]
  generalize e.len = n at *
  clear hr he
  go_enter Tryz.func135, Tryz.ntmps135
  go_wp2_with fail
  all_goals
    go_ret
    refine ⟨ret_bl ?_, ?_⟩
    · rw [← (show _ = r from hr2)]
      clear hr2
      subst_vars
      have hisE : List.isEmpty name = decide (name = []) := by cases name <;> simp
      try simp only [hisE, Bool.not_eq_true', Bool.not_eq_false', bne_iff_ne, bne_eq_false_iff_eq, decide_eq_true_eq, decide_eq_false_iff_not, beq_iff_eq, beq_eq_false_iff_ne, ne_eq] at *
      first | (simp [*]; done) | (simp [*]; omega) | (rw [Bool.eq_iff_iff]; simp [*]; done) | (rw [Bool.eq_iff_iff]; simp [*]; omega)
    · repeat (refine fr_set ?_ (Nat.le_refl _) _ _)
      exact Fr.alloc _ _ _
set_option maxRecDepth 20000 in
set_option maxHeartbeats 4000000 in
theorem stated_8 (name : Bs) (e : Exs) (nb nl : Nat) (ao1 ao2 ao3 : Option Addr) (cap1 cap2 cap3 : Nat) (w : World) (he : ExL w ao1 cap1 e) (b1 : nb ≤ cap2) (b2 : cap2 ≤ 9223372036854775807) (b3 : nl ≤ cap3) (b4 : cap3 ≤ 9223372036854775807) (r : Bool) (hr : Hidden (fitsS ⟨8, name⟩ e nb nl = r)) :
    Calls Tryz.prog 135 #[stV ⟨8, name⟩ (.slice ao1 e.len cap1) (.slice ao2 nb cap2) (.slice ao3 nl cap3)] w fun e w' => e = .returned (.bool r) ∧ Fr (fun _ => False) w w' := by
  have a1 := he.1
  have a2 : cap1 ≤ 9223372036854775807 := by have := he.2.1; unfold maxLen at this; omega
  have hr2 : Hidden (decide (e.len = 0) = r) := by rw [← (show _ = r from hr)]; simp [Hidden, fitsS]
  generalize e.len = n at *
  clear hr he
  go_enter Tryz.func135, Tryz.ntmps135
  go_wp2_with fail
  all_goals
    go_ret
    refine ⟨ret_bl ?_, ?_⟩
    · rw [← (show _ = r from hr2)]
      clear hr2
      subst_vars
      have hisE : List.isEmpty name = decide (name = []) := by cases name <;> simp
      try simp only [hisE, Bool.not_eq_true', Bool.not_eq_false', bne_iff_ne, bne_eq_false_iff_eq, decide_eq_true_eq, decide_eq_false_iff_not, beq_iff_eq, beq_eq_false_iff_ne, ne_eq] at *
      first | (simp [*]; done) | (simp [*]; omega) | (rw [Bool.eq_iff_iff]; simp [*]; done) | (rw [Bool.eq_iff_iff]; simp [*]; omega)
    · repeat (refine fr_set ?_ (Nat.le_refl _) _ _)
      exact Fr.alloc _ _ _
set_option maxRecDepth 20000 in
set_option maxHeartbeats 4000000 in
theorem stated_9 (name : Bs) (e : Exs) (nb nl : Nat) (ao1 ao2 ao3 : Option Addr) (cap1 cap2 cap3 : Nat) (w : World) (he : ExL w ao1 cap1 e) (b1 : nb ≤ cap2) (b2 : cap2 ≤ 9223372036854775807) (b3 : nl ≤ cap3) (b4 : cap3 ≤ 9223372036854775807) (r : Bool) (hr : Hidden (fitsS ⟨9, name⟩ e nb nl = r)) :
    Calls Tryz.prog 135 #[stV ⟨9, name⟩ (.slice ao1 e.len cap1) (.slice ao2 nb cap2) (.slice ao3 nl cap3)] w fun e w' => e = .returned (.bool r) ∧ Fr (fun _ => False) w w' := by
  have a1 := he.1
  have a2 : cap1 ≤ 9223372036854775807 := by have := he.2.1; unfold maxLen at this; omega
  by_cases h1 : e.len = 1
  · cases e with
    | nil => simp [Exs.len] at h1
    | cons h' k' r' =>
      obtain ⟨b, off, ao', cap', rfl, _, _, d0, d1, d2, d3, d4, d5, d6⟩ := he.rest.next
      simp only [Nat.zero_mul, Nat.add_zero] at d0
      have hr2 : Hidden ((decide (h'.kind = 4 ∨ h'.kind = 5) && decide (name = [] ∧ nb = 0 ∧ nl = 0)) = r) := by
        show (decide (h'.kind = 4 ∨ h'.kind = 5) && decide (name = [] ∧ nb = 0 ∧ nl = 0)) = r
        rw [← (show _ = r from hr), Bool.eq_iff_iff]
        simp [fitsS, h1, Exs.kind0]
      rw [h1] at a1 ⊢
      clear hr he h1 d1 d2 d3 d4 d5 d6
      rcases Classical.em (name = []) with rfl | hn0
      all_goals rcases Nat.eq_zero_or_pos nb with rfl | hnb
      all_goals rcases Nat.eq_zero_or_pos nl with rfl | hnl
      · have d0 := (Fr.alloc (fun _ => False) w (.cells #[ci 9, ct [], .slice (some ⟨b, off, none⟩) 1 cap1, .slice ao2 0 cap2, .slice ao3 0 cap3] 91)).cellN d0
        go_enter Tryz.func135, Tryz.ntmps135
        go_wp2_with fail
        all_goals
          go_ret
          refine ⟨ret_bl ?_, Fr.alloc _ _ _⟩
          rw [← (show _ = r from hr2)]
          clear hr2
          try simp only [beq_iff_eq, beq_eq_false_iff_ne, ne_eq] at *
          first | (simp [*]; done) | (rw [Bool.eq_iff_iff]; simp [*]; done) | (simp [*]; omega)
      all_goals
        have hr3 : Hidden (false = r) := by
          rw [← (show _ = r from hr2)]
          show false = _
          symm
          rw [Bool.and_eq_false_iff]
          right
          simp only [decide_eq_false_iff_not]
          intro hc
          obtain ⟨q1, q2, q3⟩ := hc
          first | exact hn0 q1 | omega
        clear hr2
        try (have hn1 : List.isEmpty name = false := by cases name with | nil => exact absurd rfl hn0 | cons _ _ => rfl)
        go_enter Tryz.func135, Tryz.ntmps135
        go_wp2_with fail
        go_ret
        exact ⟨ret_bl hr3, Fr.alloc _ _ _⟩
  · have hr2 : Hidden (false = r) := by rw [← (show _ = r from hr)]; simp [Hidden, fitsS, h1]
    have h1' : ((e.len : Int) == 1) = false := by simp only [beq_eq_false_iff_ne, ne_eq]; omega
    clear hr h1
    go_enter Tryz.func135, Tryz.ntmps135
    go_wp2_with fail
    all_goals
      go_ret
      exact ⟨ret_bl hr2, Fr.alloc _ _ _⟩
set_option maxRecDepth 20000 in
set_option maxHeartbeats 4000000 in
theorem stated_no (name : Bs) (e : Exs) (nb nl : Nat) (kind : Int) (hk : ¬ (1 ≤ kind ∧ kind ≤ 9)) (ao1 ao2 ao3 : Option Addr) (cap1 cap2 cap3 : Nat) (w : World) (he : ExL w ao1 cap1 e) (b1 : nb ≤ cap2) (b2 : cap2 ≤ 9223372036854775807) (b3 : nl ≤ cap3) (b4 : cap3 ≤ 9223372036854775807) (r : Bool) (hr : Hidden (fitsS ⟨kind, name⟩ e nb nl = r)) :
    Calls Tryz.prog 135 #[stV ⟨kind, name⟩ (.slice ao1 e.len cap1) (.slice ao2 nb cap2) (.slice ao3 nl cap3)] w fun e w' => e = .returned (.bool r) ∧ Fr (fun _ => False) w w' := by
  have a1 := he.1
  have a2 : cap1 ≤ 9223372036854775807 := by have := he.2.1; unfold maxLen at this; omega
  have n1 : (kind == 1) = false := by simp only [beq_eq_false_iff_ne, ne_eq]; omega
  have n2 : (kind == 2) = false := by simp only [beq_eq_false_iff_ne, ne_eq]; omega
  have n3 : (kind == 3) = false := by simp only [beq_eq_false_iff_ne, ne_eq]; omega
  have n4 : (kind == 4) = false := by simp only [beq_eq_false_iff_ne, ne_eq]; omega
  have n5 : (kind == 5) = false := by simp only [beq_eq_false_iff_ne, ne_eq]; omega
  have n6 : (kind == 6) = false := by simp only [beq_eq_false_iff_ne, ne_eq]; omega
  have n7 : (kind == 7) = false := by simp only [beq_eq_false_iff_ne, ne_eq]; omega
  have n8 : (kind == 8) = false := by simp only [beq_eq_false_iff_ne, ne_eq]; omega
  have n9 : (kind == 9) = false := by simp only [beq_eq_false_iff_ne, ne_eq]; omega
  have hr2 : Hidden (false = r) := by
    rw [← (show _ = r from hr)]
    simp only [beq_eq_false_iff_ne, ne_eq] at n1 n2 n3 n4 n5 n6 n7 n8 n9
    simp [Hidden, fitsS, n1, n2, n3, n4, n5, n6, n7, n8, n9]
  clear hr hk
  go_enter Tryz.func135, Tryz.ntmps135
  go_wp2_with fail
  all_goals
    go_ret
    exact ⟨ret_bl hr2, Fr.alloc _ _ _⟩
theorem stated_any (h : SH) (e : Exs) (nb nl : Nat) (ao1 ao2 ao3 : Option Addr) (cap1 cap2 cap3 : Nat) (w : World) (he : ExL w ao1 cap1 e) (b1 : nb ≤ cap2) (b2 : cap2 ≤ 9223372036854775807) (b3 : nl ≤ cap3) (b4 : cap3 ≤ 9223372036854775807) (r : Bool) (hr : fitsS h e nb nl = r) :
    Calls Tryz.prog 135 #[stV h (.slice ao1 e.len cap1) (.slice ao2 nb cap2) (.slice ao3 nl cap3)] w fun e w' => e = .returned (.bool r) ∧ Fr (fun _ => False) w w' := by
  obtain ⟨kind, name⟩ := h
  by_cases hk : 1 ≤ kind ∧ kind ≤ 9
  · obtain rfl | rfl | rfl | rfl | rfl | rfl | rfl | rfl | rfl : kind = 1 ∨ kind = 2 ∨ kind = 3 ∨ kind = 4 ∨ kind = 5 ∨ kind = 6 ∨ kind = 7 ∨ kind = 8 ∨ kind = 9 := by omega
    · exact stated_1 name e nb nl ao1 ao2 ao3 cap1 cap2 cap3 w he b1 b2 b3 b4 r hr
    · exact stated_2 name e nb nl ao1 ao2 ao3 cap1 cap2 cap3 w he b1 b2 b3 b4 r hr
    · exact stated_3 name e nb nl ao1 ao2 ao3 cap1 cap2 cap3 w he b1 b2 b3 b4 r hr
    · exact stated_4 name e nb nl ao1 ao2 ao3 cap1 cap2 cap3 w he b1 b2 b3 b4 r hr
    · exact stated_5 name e nb nl ao1 ao2 ao3 cap1 cap2 cap3 w he b1 b2 b3 b4 r hr
    · exact stated_6 name e nb nl ao1 ao2 ao3 cap1 cap2 cap3 w he b1 b2 b3 b4 r hr
    · exact stated_7 name e nb nl ao1 ao2 ao3 cap1 cap2 cap3 w he b1 b2 b3 b4 r hr
    · exact stated_8 name e nb nl ao1 ao2 ao3 cap1 cap2 cap3 w he b1 b2 b3 b4 r hr
    · exact stated_9 name e nb nl ao1 ao2 ao3 cap1 cap2 cap3 w he b1 b2 b3 b4 r hr
  · exact stated_no name e nb nl kind hk ao1 ao2 ao3 cap1 cap2 cap3 w he b1 b2 b3 b4 r hr
def StsC (k : Sts) : Prop := ∀ (ao : Option Addr) (cap : Nat) (w : World), OkS k → StL w ao cap k →
  Calls Tryz.prog 90 #[.slice ao k.len cap] w fun e w' => e = .returned (ci (errS rnS cnS k)) ∧ Fr (fun _ => False) w w'
set_option maxRecDepth 20000 in
set_option maxHeartbeats 8000000 in
theorem sts_step (k : Sts) (ih : ∀ k' : Sts, k'.size < k.size → StsC k') : StsC k := by
  intro ao cap w hx hk
  have hrest := hk.rest
  obtain ⟨hcap, hmax, _⟩ := hk
  have hlen : k.len ≤ 9223372036854775807 := by unfold maxLen at hmax; omega
  obtain ⟨R, hR⟩ : ∃ R, errS rnS cnS k = R := ⟨_, rfl⟩
  rw [hR]
  have hRH : Hidden (errS rnS cnS k = R) := hR
  clear hR
  go_enter Tryz.func90, Tryz.ntmps90
  go_wp2_with fail
  go_loopg [3] k.len (fun g iv wr => ∃ (i : Nat) (r : Sts), iv = ci (i : Int) ∧ i + r.len = k.len ∧ r.size ≤ k.size ∧ OkS r ∧ StR w ao i r ∧ R = errS rnS cnS r ∧ g = r.len ∧ Fr (fun _ => False) w wr)
  case atStart => exact ⟨0, k, rfl, by omega, Nat.le_refl _, hx, hrest, (show _ = R from hRH).symm, rfl, Fr.refl _ _⟩
  case round =>
    obtain ⟨i, r, rfl, hlen2, hsize, hok, hrow, hdk, hgk, hfr⟩ := hrel
    have hgkH : Hidden (gk = r.len) := hgk
    have hdkH : Hidden (R = errS rnS cnS r) := hdk
    have hlenH : Hidden (i + r.len = k.len) := hlen2
    clear hgk hdk hlen2 hrest hRH
    cases r with
    | nil =>
      have hi : i = k.len := hlenH
      subst hi
      obtain rfl : R = 0 := hdkH
      go_wp2_with fail
      go_ret
      exact ⟨rfl, hfr⟩
    | cons h' e' b' l' r' =>
      have hil : i < k.len := by have : i + (r'.len + 1) = k.len := hlenH; omega
      obtain ⟨b, off, ao1, cap1, ao2, cap2, ao3, cap3, rfl, hL1, hL2, hL3, hrow2, d0, d1, d2, d3, d4⟩ := hrow.next
      have d0 := hfr.cellN d0
      have d1 := hfr.cellN d1
      have d2 := hfr.cellN d2
      have d3 := hfr.cellN d3
      have d4 := hfr.cellN d4
      have hbx : Hidden ((wr.alloc (.cells #[ci h'.kind, ct h'.name, .slice ao1 e'.len cap1, .slice ao2 b'.len cap2, .slice ao3 l'.len cap3] 91)).heap[wr.heap.size]? = some (.cells #[ci h'.kind, ct h'.name, .slice ao1 e'.len cap1, .slice ao2 b'.len cap2, .slice ao3 l'.len cap3] 91 (0, 0))) := alloc_new _ _
      have hfa : Fr (fun _ => False) w (wr.alloc (.cells #[ci h'.kind, ct h'.name, .slice ao1 e'.len cap1, .slice ao2 b'.len cap2, .slice ao3 l'.len cap3] 91)) := hfr.same (Fr.alloc _ _ _)
      simp only [Sts.size] at hsize
      have l1 : e'.len ≤ 9223372036854775807 := by have := hL1.1; have := hL1.2.1; unfold maxLen at this; omega
      have q2 : cap2 ≤ 9223372036854775807 := by have := hL2.2.1; unfold maxLen at this; omega
      have q3 : cap3 ≤ 9223372036854775807 := by have := hL3.2.1; unfold maxLen at this; omega
      have hkb := ih b' (by omega)
      have hkl := ih l' (by omega)
      unfold StsC at hkb hkl
      have kb := fun (w1 : World) (f : Fr (fun _ => False) w w1) => hkb ao2 cap2 w1 hok.2.2.2.1 (hL2.keep f)
      have kl := fun (w1 : World) (f : Fr (fun _ => False) w w1) => hkl ao3 cap3 w1 hok.2.2.2.2.1 (hL3.keep f)
      clear hkb hkl
      have ks := fun (r : Bool) (hr : fitsS h' e' b'.len l'.len = r) => stated_any h' e' b'.len l'.len ao1 ao2 ao3 cap1 cap2 cap3 _ (hL1.keep hfa) hL2.1 q2 hL3.1 q3 r hr
      cases hf : fitsS h' e' b'.len l'.len with
      | false =>
        have hres : Hidden (1 = R) := by
          rw [show R = _ from hdkH]
          show 1 = orE (orE (errSH rnS h' e' b'.len l'.len) _) _
          simp [errSH, hf, orE]
        clear hdkH
        go_wp2_with fail
        go_at_call 135
        refine (ks _ hf).mono ?_
        rintro e w1 ⟨rfl, f1⟩
        go_wp2_with fail
        go_ret
        exact ⟨ret_int hres, hfa.same f1⟩
      | true =>
        by_cases hkk : h'.kind = 1 ∨ h'.kind = 2 ∨ h'.kind = 8
        · have hk3 : ((h'.kind == 1) = true) ∨ ((h'.kind == 1) = false ∧ (h'.kind == 2) = true) ∨ ((h'.kind == 1) = false ∧ (h'.kind == 2) = false ∧ (h'.kind == 8) = true) := by
            rcases hkk with h | h | h <;> simp [h]
          rcases hk3 with t1 | ⟨t1, t2⟩ | ⟨t1, t2, t3⟩
          · by_cases hn : N.rightS h'.name = 0
            · have hSH : errSH rnS h' e' b'.len l'.len = 0 := by simp [errSH, hf, nameS, hkk, rnS, hn, orE]
              go_wp2_with fail
              go_at_call 135
              refine (ks _ hf).mono ?_
              rintro e w1 ⟨rfl, f1⟩
              have y1 := f1.heap hbx (fun f => f)
              obtain ⟨c0, c1, c2, c3, c4⟩ := st_box y1
              have g1 := hfa.same f1
              go_wp2_with fail
              go_at_call 40
              refine (rright_any h'.name _ hn hok.2.1 _).mono ?_
              rintro e w2 ⟨rfl, f2⟩
              have y2 := f2.heap y1 (fun f => f)
              obtain ⟨c0, c1, c2, c3, c4⟩ := st_box y2
              have g2 := g1.same f2
              go_wp2_with fail
              have hdk2 : Hidden (R = orE (orE 0 (orE (errL rnS cnS e') (orE (errS rnS cnS b') (errS rnS cnS l')))) (errS rnS cnS r')) := by
                rw [show R = _ from hdkH]
                show orE (orE (errSH rnS h' e' b'.len l'.len) _) _ = _
                rw [hSH]
              clear hdkH
              obtain ⟨E, hE⟩ : ∃ E, errL rnS cnS e' = E := ⟨_, rfl⟩
              rw [hE] at hdk2
              have hEH : Hidden (errL rnS cnS e' = E) := hE
              clear hE hSH
              obtain ⟨gkO, hgO⟩ : ∃ gkO, gkO = gk := ⟨gk, rfl⟩
              have hgkO : Hidden (gkO = (Sts.cons h' e' b' l' r').len) := hgO.trans hgkH
              have hgOH : Hidden (gkO = gk) := hgO
              clear hgkH hgO
              go_loopg [6] e'.len (fun g jv wr => ∃ (j : Nat) (q : Exs), jv = ci (j : Int) ∧ j + q.len = e'.len ∧ q.size ≤ e'.size ∧ OkX q ∧ ExR w ao1 j q ∧ E = errL rnS cnS q ∧ g = q.len ∧ Fr (fun _ => False) w2 wr)
              case atStart => exact ⟨0, e', rfl, by omega, Nat.le_refl _, hok.2.2.1, hL1.rest, (show _ = E from hEH).symm, rfl, Fr.refl _ _⟩
              case round =>
                obtain ⟨j, q, rfl, hln, hsz, hokq, hrw, hdq, hgq, hfr⟩ := hrel
                have hgqH : Hidden (gk = q.len) := hgq
                have hdqH : Hidden (E = errL rnS cnS q) := hdq
                have hlnH : Hidden (j + q.len = e'.len) := hln
                have hbw := hfr.heap y2 (fun f => f)
                obtain ⟨c0, c1, c2, c3, c4⟩ := st_box hbw
                have fw := g2.same hfr
                clear hgq hdq hln
                cases q with
                | nil =>
                  have hj : j = e'.len := hlnH
                  subst hj
                  obtain rfl : E = 0 := hdqH
                  have hdk2 : Hidden (R = orE (orE (errS rnS cnS b') (errS rnS cnS l')) (errS rnS cnS r')) := hdk2
                  clear hgqH hlnH hsz hrw
                  by_cases hb0 : errS rnS cnS b' = 0
                  · rw [hb0] at kb hdk2
                    by_cases hl0 : errS rnS cnS l' = 0
                    · rw [hl0] at kl hdk2
                      have hdk3 : Hidden (R = errS rnS cnS r') := hdk2
                      clear hdk2
                      go_wp2_with fail
                      go_at_call 90
                      refine (kb _ fw).mono ?_
                      rintro e W4 ⟨rfl, f4⟩
                      have fw4 := fw.same f4
                      obtain ⟨c0, c1, c2, c3, c4⟩ := st_box (f4.heap hbw (fun f => f))
                      go_wp2_with fail
                      go_at_call 90
                      refine (kl _ fw4).mono ?_
                      rintro e W5 ⟨rfl, f5⟩
                      go_wp2_with fail
                      go_roundg r'.len
                      case measure =>
                        have h8 : gkO = r'.len + 1 := hgkO
                        have h9 := (show gkO = _ from hgOH)
                        omega
                      case rel =>
                        refine ⟨i + 1, r', by go_num, ?_, by omega, hok.2.2.2.2.2, hrow2, hdk3, rfl, fw4.same f5⟩
                        have : i + (r'.len + 1) = k.len := hlenH
                        omega
                    · generalize errS rnS cnS l' = x at kl hdk2 hl0
                      have hx0 : (x != 0) = true := by simpa using hl0
                      have hx1 : (x == 0) = false := by simpa using hl0
                      have hres : Hidden (x = R) := by rw [show R = _ from hdk2]; simp [Hidden, orE, hl0]
                      clear hdk2
                      go_wp2_with fail
                      go_at_call 90
                      refine (kb _ fw).mono ?_
                      rintro e W4 ⟨rfl, f4⟩
                      have fw4 := fw.same f4
                      obtain ⟨c0, c1, c2, c3, c4⟩ := st_box (f4.heap hbw (fun f => f))
                      go_wp2_with fail
                      go_at_call 90
                      refine (kl _ fw4).mono ?_
                      rintro e W5 ⟨rfl, f5⟩
                      go_wp2_with fail
                      go_ret
                      exact ⟨ret_int hres, fw4.same f5⟩
                  · generalize errS rnS cnS b' = x at kb hdk2 hb0
                    have hx0 : (x != 0) = true := by simpa using hb0
                    have hx1 : (x == 0) = false := by simpa using hb0
                    have hres : Hidden (x = R) := by rw [show R = _ from hdk2]; simp [Hidden, orE, hb0]
                    clear hdk2
                    go_wp2_with fail
                    go_at_call 90
                    refine (kb _ fw).mono ?_
                    rintro e W4 ⟨rfl, f4⟩
                    go_wp2_with fail
                    go_ret
                    exact ⟨ret_int hres, fw.same f4⟩
                | cons h2 k2 r2 =>
                  have hjl : j < e'.len := by have : j + (r2.len + 1) = e'.len := hlnH; omega
                  obtain ⟨bb, offb, ao', cap', rfl, hL, hrow3, x0, x1, x2, x3, x4, x5, x6⟩ := hrw.next
                  have x0 := fw.cellN x0
                  have x1 := fw.cellN x1
                  have x2 := fw.cellN x2
                  have x3 := fw.cellN x3
                  have x4 := fw.cellN x4
                  have x5 := fw.cellN x5
                  have x6 := fw.cellN x6
                  have kc := expr_any h2 k2 ao' cap' _ hokq.1 hokq.2.1 (hL.keep fw)
                  have hdq2 : Hidden (E = orE (orE (errH rnS cnS h2 k2.len) (errL rnS cnS k2)) (errL rnS cnS r2)) := hdqH
                  generalize orE (errH rnS cnS h2 k2.len) (errL rnS cnS k2) = x at kc hdq2
                  clear hdqH
                  by_cases h0 : x = 0
                  · subst h0
                    have hdq3 : Hidden (E = errL rnS cnS r2) := hdq2
                    clear hdq2
                    go_wp2_with fail
                    go_at_call 89
                    refine kc.mono ?_
                    rintro e W3 ⟨rfl, f3⟩
                    go_wp2_with fail
                    go_roundg r2.len
                    case measure =>
                      have : gk = r2.len + 1 := hgqH
                      omega
                    case rel =>
                      refine ⟨j + 1, r2, by go_num, ?_, ?_, hokq.2.2, hrow3, hdq3, rfl, hfr.same f3⟩
                      · have : j + (r2.len + 1) = e'.len := hlnH
                        omega
                      · simp only [Exs.size] at hsz; omega
                  · have hx0 : (x != 0) = true := by simpa using h0
                    have hx1 : (x == 0) = false := by simpa using h0
                    have hres : Hidden (x = R) := by
                      have e1 : E = x := by rw [show E = _ from hdq2, orE_ne _ h0]
                      rw [show R = _ from hdk2, e1]
                      simp [Hidden, orE, h0]
                    clear hdq2 hdk2 h0
                    go_wp2_with fail
                    go_at_call 89
                    refine kc.mono ?_
                    rintro e W3 ⟨rfl, f3⟩
                    go_wp2_with fail
                    go_ret
                    exact ⟨ret_int hres, fw.same f3⟩
            · obtain ⟨x, hxx⟩ : ∃ x, N.rightS h'.name = x := ⟨_, rfl⟩
              have hx0 : (x != 0) = true := by rw [← hxx]; simpa using hn
              have hx1 : (x == 0) = false := by rw [← hxx]; simpa using hn
              have hres : Hidden (x = R) := by
                rw [show R = _ from hdkH]
                show x = orE (orE (errSH rnS h' e' b'.len l'.len) _) _
                have hx2 : ¬ x = 0 := by rw [← hxx]; exact hn
                simp [errSH, hf, nameS, hkk, rnS, hxx, orE, hx2]
              clear hdkH hn
              go_wp2_with fail
              go_at_call 135
              refine (ks _ hf).mono ?_
              rintro e w1 ⟨rfl, f1⟩
              have y1 := f1.heap hbx (fun f => f)
              obtain ⟨c0, c1, c2, c3, c4⟩ := st_box y1
              have g1 := hfa.same f1
              go_wp2_with fail
              go_at_call 40
              refine (rright_any h'.name _ hxx hok.2.1 _).mono ?_
              rintro e w2 ⟨rfl, f2⟩
              have y2 := f2.heap y1 (fun f => f)
              obtain ⟨c0, c1, c2, c3, c4⟩ := st_box y2
              have g2 := g1.same f2
              go_wp2_with fail
              go_ret
              exact ⟨ret_int hres, g2⟩
          · by_cases hn : N.rightS h'.name = 0
            · have hSH : errSH rnS h' e' b'.len l'.len = 0 := by simp [errSH, hf, nameS, hkk, rnS, hn, orE]
              go_wp2_with fail
              go_at_call 135
              refine (ks _ hf).mono ?_
              rintro e w1 ⟨rfl, f1⟩
              have y1 := f1.heap hbx (fun f => f)
              obtain ⟨c0, c1, c2, c3, c4⟩ := st_box y1
              have g1 := hfa.same f1
              go_wp2_with fail
              go_at_call 40
              refine (rright_any h'.name _ hn hok.2.1 _).mono ?_
              rintro e w2 ⟨rfl, f2⟩
              have y2 := f2.heap y1 (fun f => f)
              obtain ⟨c0, c1, c2, c3, c4⟩ := st_box y2
              have g2 := g1.same f2
              go_wp2_with fail
              have hdk2 : Hidden (R = orE (orE 0 (orE (errL rnS cnS e') (orE (errS rnS cnS b') (errS rnS cnS l')))) (errS rnS cnS r')) := by
                rw [show R = _ from hdkH]
                show orE (orE (errSH rnS h' e' b'.len l'.len) _) _ = _
                rw [hSH]
              clear hdkH
              obtain ⟨E, hE⟩ : ∃ E, errL rnS cnS e' = E := ⟨_, rfl⟩
              rw [hE] at hdk2
              have hEH : Hidden (errL rnS cnS e' = E) := hE
              clear hE hSH
              obtain ⟨gkO, hgO⟩ : ∃ gkO, gkO = gk := ⟨gk, rfl⟩
              have hgkO : Hidden (gkO = (Sts.cons h' e' b' l' r').len) := hgO.trans hgkH
              have hgOH : Hidden (gkO = gk) := hgO
              clear hgkH hgO
              go_loopg [6] e'.len (fun g jv wr => ∃ (j : Nat) (q : Exs), jv = ci (j : Int) ∧ j + q.len = e'.len ∧ q.size ≤ e'.size ∧ OkX q ∧ ExR w ao1 j q ∧ E = errL rnS cnS q ∧ g = q.len ∧ Fr (fun _ => False) w2 wr)
              case atStart => exact ⟨0, e', rfl, by omega, Nat.le_refl _, hok.2.2.1, hL1.rest, (show _ = E from hEH).symm, rfl, Fr.refl _ _⟩
              case round =>
                obtain ⟨j, q, rfl, hln, hsz, hokq, hrw, hdq, hgq, hfr⟩ := hrel
                have hgqH : Hidden (gk = q.len) := hgq
                have hdqH : Hidden (E = errL rnS cnS q) := hdq
                have hlnH : Hidden (j + q.len = e'.len) := hln
                have hbw := hfr.heap y2 (fun f => f)
                obtain ⟨c0, c1, c2, c3, c4⟩ := st_box hbw
                have fw := g2.same hfr
                clear hgq hdq hln
                cases q with
                | nil =>
                  have hj : j = e'.len := hlnH
                  subst hj
                  obtain rfl : E = 0 := hdqH
                  have hdk2 : Hidden (R = orE (orE (errS rnS cnS b') (errS rnS cnS l')) (errS rnS cnS r')) := hdk2
                  clear hgqH hlnH hsz hrw
                  by_cases hb0 : errS rnS cnS b' = 0
                  · rw [hb0] at kb hdk2
                    by_cases hl0 : errS rnS cnS l' = 0
                    · rw [hl0] at kl hdk2
                      have hdk3 : Hidden (R = errS rnS cnS r') := hdk2
                      clear hdk2
                      go_wp2_with fail
                      go_at_call 90
                      refine (kb _ fw).mono ?_
                      rintro e W4 ⟨rfl, f4⟩
                      have fw4 := fw.same f4
                      obtain ⟨c0, c1, c2, c3, c4⟩ := st_box (f4.heap hbw (fun f => f))
                      go_wp2_with fail
                      go_at_call 90
                      refine (kl _ fw4).mono ?_
                      rintro e W5 ⟨rfl, f5⟩
                      go_wp2_with fail
                      go_roundg r'.len
                      case measure =>
                        have h8 : gkO = r'.len + 1 := hgkO
                        have h9 := (show gkO = _ from hgOH)
                        omega
                      case rel =>
                        refine ⟨i + 1, r', by go_num, ?_, by omega, hok.2.2.2.2.2, hrow2, hdk3, rfl, fw4.same f5⟩
                        have : i + (r'.len + 1) = k.len := hlenH
                        omega
                    · generalize errS rnS cnS l' = x at kl hdk2 hl0
                      have hx0 : (x != 0) = true := by simpa using hl0
                      have hx1 : (x == 0) = false := by simpa using hl0
                      have hres : Hidden (x = R) := by rw [show R = _ from hdk2]; simp [Hidden, orE, hl0]
                      clear hdk2
                      go_wp2_with fail
                      go_at_call 90
                      refine (kb _ fw).mono ?_
                      rintro e W4 ⟨rfl, f4⟩
                      have fw4 := fw.same f4
                      obtain ⟨c0, c1, c2, c3, c4⟩ := st_box (f4.heap hbw (fun f => f))
                      go_wp2_with fail
                      go_at_call 90
                      refine (kl _ fw4).mono ?_
                      rintro e W5 ⟨rfl, f5⟩
                      go_wp2_with fail
                      go_ret
                      exact ⟨ret_int hres, fw4.same f5⟩
                  · generalize errS rnS cnS b' = x at kb hdk2 hb0
                    have hx0 : (x != 0) = true := by simpa using hb0
                    have hx1 : (x == 0) = false := by simpa using hb0
                    have hres : Hidden (x = R) := by rw [show R = _ from hdk2]; simp [Hidden, orE, hb0]
                    clear hdk2
                    go_wp2_with fail
                    go_at_call 90
                    refine (kb _ fw).mono ?_
                    rintro e W4 ⟨rfl, f4⟩
                    go_wp2_with fail
                    go_ret
                    exact ⟨ret_int hres, fw.same f4⟩
                | cons h2 k2 r2 =>
                  have hjl : j < e'.len := by have : j + (r2.len + 1) = e'.len := hlnH; omega
                  obtain ⟨bb, offb, ao', cap', rfl, hL, hrow3, x0, x1, x2, x3, x4, x5, x6⟩ := hrw.next
                  have x0 := fw.cellN x0
                  have x1 := fw.cellN x1
                  have x2 := fw.cellN x2
                  have x3 := fw.cellN x3
                  have x4 := fw.cellN x4
                  have x5 := fw.cellN x5
                  have x6 := fw.cellN x6
                  have kc := expr_any h2 k2 ao' cap' _ hokq.1 hokq.2.1 (hL.keep fw)
                  have hdq2 : Hidden (E = orE (orE (errH rnS cnS h2 k2.len) (errL rnS cnS k2)) (errL rnS cnS r2)) := hdqH
                  generalize orE (errH rnS cnS h2 k2.len) (errL rnS cnS k2) = x at kc hdq2
                  clear hdqH
                  by_cases h0 : x = 0
                  · subst h0
                    have hdq3 : Hidden (E = errL rnS cnS r2) := hdq2
                    clear hdq2
                    go_wp2_with fail
                    go_at_call 89
                    refine kc.mono ?_
                    rintro e W3 ⟨rfl, f3⟩
                    go_wp2_with fail
                    go_roundg r2.len
                    case measure =>
                      have : gk = r2.len + 1 := hgqH
                      omega
                    case rel =>
                      refine ⟨j + 1, r2, by go_num, ?_, ?_, hokq.2.2, hrow3, hdq3, rfl, hfr.same f3⟩
                      · have : j + (r2.len + 1) = e'.len := hlnH
                        omega
                      · simp only [Exs.size] at hsz; omega
                  · have hx0 : (x != 0) = true := by simpa using h0
                    have hx1 : (x == 0) = false := by simpa using h0
                    have hres : Hidden (x = R) := by
                      have e1 : E = x := by rw [show E = _ from hdq2, orE_ne _ h0]
                      rw [show R = _ from hdk2, e1]
                      simp [Hidden, orE, h0]
                    clear hdq2 hdk2 h0
                    go_wp2_with fail
                    go_at_call 89
                    refine kc.mono ?_
                    rintro e W3 ⟨rfl, f3⟩
                    go_wp2_with fail
                    go_ret
                    exact ⟨ret_int hres, fw.same f3⟩
            · obtain ⟨x, hxx⟩ : ∃ x, N.rightS h'.name = x := ⟨_, rfl⟩
              have hx0 : (x != 0) = true := by rw [← hxx]; simpa using hn
              have hx1 : (x == 0) = false := by rw [← hxx]; simpa using hn
              have hres : Hidden (x = R) := by
                rw [show R = _ from hdkH]
                show x = orE (orE (errSH rnS h' e' b'.len l'.len) _) _
                have hx2 : ¬ x = 0 := by rw [← hxx]; exact hn
                simp [errSH, hf, nameS, hkk, rnS, hxx, orE, hx2]
              clear hdkH hn
              go_wp2_with fail
              go_at_call 135
              refine (ks _ hf).mono ?_
              rintro e w1 ⟨rfl, f1⟩
              have y1 := f1.heap hbx (fun f => f)
              obtain ⟨c0, c1, c2, c3, c4⟩ := st_box y1
              have g1 := hfa.same f1
              go_wp2_with fail
              go_at_call 40
              refine (rright_any h'.name _ hxx hok.2.1 _).mono ?_
              rintro e w2 ⟨rfl, f2⟩
              have y2 := f2.heap y1 (fun f => f)
              obtain ⟨c0, c1, c2, c3, c4⟩ := st_box y2
              have g2 := g1.same f2
              go_wp2_with fail
              go_ret
              exact ⟨ret_int hres, g2⟩
          · by_cases hn : N.rightS h'.name = 0
            · have hSH : errSH rnS h' e' b'.len l'.len = 0 := by simp [errSH, hf, nameS, hkk, rnS, hn, orE]
              go_wp2_with fail
              go_at_call 135
              refine (ks _ hf).mono ?_
              rintro e w1 ⟨rfl, f1⟩
              have y1 := f1.heap hbx (fun f => f)
              obtain ⟨c0, c1, c2, c3, c4⟩ := st_box y1
              have g1 := hfa.same f1
              go_wp2_with fail
              go_at_call 40
              refine (rright_any h'.name _ hn hok.2.1 _).mono ?_
              rintro e w2 ⟨rfl, f2⟩
              have y2 := f2.heap y1 (fun f => f)
              obtain ⟨c0, c1, c2, c3, c4⟩ := st_box y2
              have g2 := g1.same f2
              go_wp2_with fail
              have hdk2 : Hidden (R = orE (orE 0 (orE (errL rnS cnS e') (orE (errS rnS cnS b') (errS rnS cnS l')))) (errS rnS cnS r')) := by
                rw [show R = _ from hdkH]
                show orE (orE (errSH rnS h' e' b'.len l'.len) _) _ = _
                rw [hSH]
              clear hdkH
              obtain ⟨E, hE⟩ : ∃ E, errL rnS cnS e' = E := ⟨_, rfl⟩
              rw [hE] at hdk2
              have hEH : Hidden (errL rnS cnS e' = E) := hE
              clear hE hSH
              obtain ⟨gkO, hgO⟩ : ∃ gkO, gkO = gk := ⟨gk, rfl⟩
              have hgkO : Hidden (gkO = (Sts.cons h' e' b' l' r').len) := hgO.trans hgkH
              have hgOH : Hidden (gkO = gk) := hgO
              clear hgkH hgO
              go_loopg [6] e'.len (fun g jv wr => ∃ (j : Nat) (q : Exs), jv = ci (j : Int) ∧ j + q.len = e'.len ∧ q.size ≤ e'.size ∧ OkX q ∧ ExR w ao1 j q ∧ E = errL rnS cnS q ∧ g = q.len ∧ Fr (fun _ => False) w2 wr)
              case atStart => exact ⟨0, e', rfl, by omega, Nat.le_refl _, hok.2.2.1, hL1.rest, (show _ = E from hEH).symm, rfl, Fr.refl _ _⟩
              case round =>
                obtain ⟨j, q, rfl, hln, hsz, hokq, hrw, hdq, hgq, hfr⟩ := hrel
                have hgqH : Hidden (gk = q.len) := hgq
                have hdqH : Hidden (E = errL rnS cnS q) := hdq
                have hlnH : Hidden (j + q.len = e'.len) := hln
                have hbw := hfr.heap y2 (fun f => f)
                obtain ⟨c0, c1, c2, c3, c4⟩ := st_box hbw
                have fw := g2.same hfr
                clear hgq hdq hln
                cases q with
                | nil =>
                  have hj : j = e'.len := hlnH
                  subst hj
                  obtain rfl : E = 0 := hdqH
                  have hdk2 : Hidden (R = orE (orE (errS rnS cnS b') (errS rnS cnS l')) (errS rnS cnS r')) := hdk2
                  clear hgqH hlnH hsz hrw
                  by_cases hb0 : errS rnS cnS b' = 0
                  · rw [hb0] at kb hdk2
                    by_cases hl0 : errS rnS cnS l' = 0
                    · rw [hl0] at kl hdk2
                      have hdk3 : Hidden (R = errS rnS cnS r') := hdk2
                      clear hdk2
                      go_wp2_with fail
                      go_at_call 90
                      refine (kb _ fw).mono ?_
                      rintro e W4 ⟨rfl, f4⟩
                      have fw4 := fw.same f4
                      obtain ⟨c0, c1, c2, c3, c4⟩ := st_box (f4.heap hbw (fun f => f))
                      go_wp2_with fail
                      go_at_call 90
                      refine (kl _ fw4).mono ?_
                      rintro e W5 ⟨rfl, f5⟩
                      go_wp2_with fail
                      go_roundg r'.len
                      case measure =>
                        have h8 : gkO = r'.len + 1 := hgkO
                        have h9 := (show gkO = _ from hgOH)
                        omega
                      case rel =>
                        refine ⟨i + 1, r', by go_num, ?_, by omega, hok.2.2.2.2.2, hrow2, hdk3, rfl, fw4.same f5⟩
                        have : i + (r'.len + 1) = k.len := hlenH
                        omega
                    · generalize errS rnS cnS l' = x at kl hdk2 hl0
                      have hx0 : (x != 0) = true := by simpa using hl0
                      have hx1 : (x == 0) = false := by simpa using hl0
                      have hres : Hidden (x = R) := by rw [show R = _ from hdk2]; simp [Hidden, orE, hl0]
                      clear hdk2
                      go_wp2_with fail
                      go_at_call 90
                      refine (kb _ fw).mono ?_
                      rintro e W4 ⟨rfl, f4⟩
                      have fw4 := fw.same f4
                      obtain ⟨c0, c1, c2, c3, c4⟩ := st_box (f4.heap hbw (fun f => f))
                      go_wp2_with fail
                      go_at_call 90
                      refine (kl _ fw4).mono ?_
                      rintro e W5 ⟨rfl, f5⟩
                      go_wp2_with fail
                      go_ret
                      exact ⟨ret_int hres, fw4.same f5⟩
                  · generalize errS rnS cnS b' = x at kb hdk2 hb0
                    have hx0 : (x != 0) = true := by simpa using hb0
                    have hx1 : (x == 0) = false := by simpa using hb0
                    have hres : Hidden (x = R) := by rw [show R = _ from hdk2]; simp [Hidden, orE, hb0]
                    clear hdk2
                    go_wp2_with fail
                    go_at_call 90
                    refine (kb _ fw).mono ?_
                    rintro e W4 ⟨rfl, f4⟩
                    go_wp2_with fail
                    go_ret
                    exact ⟨ret_int hres, fw.same f4⟩
                | cons h2 k2 r2 =>
                  have hjl : j < e'.len := by have : j + (r2.len + 1) = e'.len := hlnH; omega
                  obtain ⟨bb, offb, ao', cap', rfl, hL, hrow3, x0, x1, x2, x3, x4, x5, x6⟩ := hrw.next
                  have x0 := fw.cellN x0
                  have x1 := fw.cellN x1
                  have x2 := fw.cellN x2
                  have x3 := fw.cellN x3
                  have x4 := fw.cellN x4
                  have x5 := fw.cellN x5
                  have x6 := fw.cellN x6
                  have kc := expr_any h2 k2 ao' cap' _ hokq.1 hokq.2.1 (hL.keep fw)
                  have hdq2 : Hidden (E = orE (orE (errH rnS cnS h2 k2.len) (errL rnS cnS k2)) (errL rnS cnS r2)) := hdqH
                  generalize orE (errH rnS cnS h2 k2.len) (errL rnS cnS k2) = x at kc hdq2
                  clear hdqH
                  by_cases h0 : x = 0
                  · subst h0
                    have hdq3 : Hidden (E = errL rnS cnS r2) := hdq2
                    clear hdq2
                    go_wp2_with fail
                    go_at_call 89
                    refine kc.mono ?_
                    rintro e W3 ⟨rfl, f3⟩
                    go_wp2_with fail
                    go_roundg r2.len
                    case measure =>
                      have : gk = r2.len + 1 := hgqH
                      omega
                    case rel =>
                      refine ⟨j + 1, r2, by go_num, ?_, ?_, hokq.2.2, hrow3, hdq3, rfl, hfr.same f3⟩
                      · have : j + (r2.len + 1) = e'.len := hlnH
                        omega
                      · simp only [Exs.size] at hsz; omega
                  · have hx0 : (x != 0) = true := by simpa using h0
                    have hx1 : (x == 0) = false := by simpa using h0
                    have hres : Hidden (x = R) := by
                      have e1 : E = x := by rw [show E = _ from hdq2, orE_ne _ h0]
                      rw [show R = _ from hdk2, e1]
                      simp [Hidden, orE, h0]
                    clear hdq2 hdk2 h0
                    go_wp2_with fail
                    go_at_call 89
                    refine kc.mono ?_
                    rintro e W3 ⟨rfl, f3⟩
                    go_wp2_with fail
                    go_ret
                    exact ⟨ret_int hres, fw.same f3⟩
            · obtain ⟨x, hxx⟩ : ∃ x, N.rightS h'.name = x := ⟨_, rfl⟩
              have hx0 : (x != 0) = true := by rw [← hxx]; simpa using hn
              have hx1 : (x == 0) = false := by rw [← hxx]; simpa using hn
              have hres : Hidden (x = R) := by
                rw [show R = _ from hdkH]
                show x = orE (orE (errSH rnS h' e' b'.len l'.len) _) _
                have hx2 : ¬ x = 0 := by rw [← hxx]; exact hn
                simp [errSH, hf, nameS, hkk, rnS, hxx, orE, hx2]
              clear hdkH hn
              go_wp2_with fail
              go_at_call 135
              refine (ks _ hf).mono ?_
              rintro e w1 ⟨rfl, f1⟩
              have y1 := f1.heap hbx (fun f => f)
              obtain ⟨c0, c1, c2, c3, c4⟩ := st_box y1
              have g1 := hfa.same f1
              go_wp2_with fail
              go_at_call 40
              refine (rright_any h'.name _ hxx hok.2.1 _).mono ?_
              rintro e w2 ⟨rfl, f2⟩
              have y2 := f2.heap y1 (fun f => f)
              obtain ⟨c0, c1, c2, c3, c4⟩ := st_box y2
              have g2 := g1.same f2
              go_wp2_with fail
              go_ret
              exact ⟨ret_int hres, g2⟩
        · have t1 : (h'.kind == 1) = false := by simp only [beq_eq_false_iff_ne, ne_eq]; exact fun h => hkk (Or.inl h)
          have t2 : (h'.kind == 2) = false := by simp only [beq_eq_false_iff_ne, ne_eq]; exact fun h => hkk (Or.inr (Or.inl h))
          have t3 : (h'.kind == 8) = false := by simp only [beq_eq_false_iff_ne, ne_eq]; exact fun h => hkk (Or.inr (Or.inr h))
          have hSH : errSH rnS h' e' b'.len l'.len = 0 := by simp [errSH, hf, nameS, hkk, orE]
          go_wp2_with fail
          go_at_call 135
          refine (ks _ hf).mono ?_
          rintro e w1 ⟨rfl, f1⟩
          have y1 := f1.heap hbx (fun f => f)
          obtain ⟨c0, c1, c2, c3, c4⟩ := st_box y1
          have g1 := hfa.same f1
          go_wp2_with fail
          have hdk2 : Hidden (R = orE (orE 0 (orE (errL rnS cnS e') (orE (errS rnS cnS b') (errS rnS cnS l')))) (errS rnS cnS r')) := by
            rw [show R = _ from hdkH]
            show orE (orE (errSH rnS h' e' b'.len l'.len) _) _ = _
            rw [hSH]
          clear hdkH
          obtain ⟨E, hE⟩ : ∃ E, errL rnS cnS e' = E := ⟨_, rfl⟩
          rw [hE] at hdk2
          have hEH : Hidden (errL rnS cnS e' = E) := hE
          clear hE hSH
          obtain ⟨gkO, hgO⟩ : ∃ gkO, gkO = gk := ⟨gk, rfl⟩
          have hgkO : Hidden (gkO = (Sts.cons h' e' b' l' r').len) := hgO.trans hgkH
          have hgOH : Hidden (gkO = gk) := hgO
          clear hgkH hgO
          go_loopg [6] e'.len (fun g jv wr => ∃ (j : Nat) (q : Exs), jv = ci (j : Int) ∧ j + q.len = e'.len ∧ q.size ≤ e'.size ∧ OkX q ∧ ExR w ao1 j q ∧ E = errL rnS cnS q ∧ g = q.len ∧ Fr (fun _ => False) w1 wr)
          case atStart => exact ⟨0, e', rfl, by omega, Nat.le_refl _, hok.2.2.1, hL1.rest, (show _ = E from hEH).symm, rfl, Fr.refl _ _⟩
          case round =>
            obtain ⟨j, q, rfl, hln, hsz, hokq, hrw, hdq, hgq, hfr⟩ := hrel
            have hgqH : Hidden (gk = q.len) := hgq
            have hdqH : Hidden (E = errL rnS cnS q) := hdq
            have hlnH : Hidden (j + q.len = e'.len) := hln
            have hbw := hfr.heap y1 (fun f => f)
            obtain ⟨c0, c1, c2, c3, c4⟩ := st_box hbw
            have fw := g1.same hfr
            clear hgq hdq hln
            cases q with
            | nil =>
              have hj : j = e'.len := hlnH
              subst hj
              obtain rfl : E = 0 := hdqH
              have hdk2 : Hidden (R = orE (orE (errS rnS cnS b') (errS rnS cnS l')) (errS rnS cnS r')) := hdk2
              clear hgqH hlnH hsz hrw
              by_cases hb0 : errS rnS cnS b' = 0
              · rw [hb0] at kb hdk2
                by_cases hl0 : errS rnS cnS l' = 0
                · rw [hl0] at kl hdk2
                  have hdk3 : Hidden (R = errS rnS cnS r') := hdk2
                  clear hdk2
                  go_wp2_with fail
                  go_at_call 90
                  refine (kb _ fw).mono ?_
                  rintro e W4 ⟨rfl, f4⟩
                  have fw4 := fw.same f4
                  obtain ⟨c0, c1, c2, c3, c4⟩ := st_box (f4.heap hbw (fun f => f))
                  go_wp2_with fail
                  go_at_call 90
                  refine (kl _ fw4).mono ?_
                  rintro e W5 ⟨rfl, f5⟩
                  go_wp2_with fail
                  go_roundg r'.len
                  case measure =>
                    have h8 : gkO = r'.len + 1 := hgkO
                    have h9 := (show gkO = _ from hgOH)
                    omega
                  case rel =>
                    refine ⟨i + 1, r', by go_num, ?_, by omega, hok.2.2.2.2.2, hrow2, hdk3, rfl, fw4.same f5⟩
                    have : i + (r'.len + 1) = k.len := hlenH
                    omega
                · generalize errS rnS cnS l' = x at kl hdk2 hl0
                  have hx0 : (x != 0) = true := by simpa using hl0
                  have hx1 : (x == 0) = false := by simpa using hl0
                  have hres : Hidden (x = R) := by rw [show R = _ from hdk2]; simp [Hidden, orE, hl0]
                  clear hdk2
                  go_wp2_with fail
                  go_at_call 90
                  refine (kb _ fw).mono ?_
                  rintro e W4 ⟨rfl, f4⟩
                  have fw4 := fw.same f4
                  obtain ⟨c0, c1, c2, c3, c4⟩ := st_box (f4.heap hbw (fun f => f))
                  go_wp2_with fail
                  go_at_call 90
                  refine (kl _ fw4).mono ?_
                  rintro e W5 ⟨rfl, f5⟩
                  go_wp2_with fail
                  go_ret
                  exact ⟨ret_int hres, fw4.same f5⟩
              · generalize errS rnS cnS b' = x at kb hdk2 hb0
                have hx0 : (x != 0) = true := by simpa using hb0
                have hx1 : (x == 0) = false := by simpa using hb0
                have hres : Hidden (x = R) := by rw [show R = _ from hdk2]; simp [Hidden, orE, hb0]
                clear hdk2
                go_wp2_with fail
                go_at_call 90
                refine (kb _ fw).mono ?_
                rintro e W4 ⟨rfl, f4⟩
                go_wp2_with fail
                go_ret
                exact ⟨ret_int hres, fw.same f4⟩
            | cons h2 k2 r2 =>
              have hjl : j < e'.len := by have : j + (r2.len + 1) = e'.len := hlnH; omega
              obtain ⟨bb, offb, ao', cap', rfl, hL, hrow3, x0, x1, x2, x3, x4, x5, x6⟩ := hrw.next
              have x0 := fw.cellN x0
              have x1 := fw.cellN x1
              have x2 := fw.cellN x2
              have x3 := fw.cellN x3
              have x4 := fw.cellN x4
              have x5 := fw.cellN x5
              have x6 := fw.cellN x6
              have kc := expr_any h2 k2 ao' cap' _ hokq.1 hokq.2.1 (hL.keep fw)
              have hdq2 : Hidden (E = orE (orE (errH rnS cnS h2 k2.len) (errL rnS cnS k2)) (errL rnS cnS r2)) := hdqH
              generalize orE (errH rnS cnS h2 k2.len) (errL rnS cnS k2) = x at kc hdq2
              clear hdqH
              by_cases h0 : x = 0
              · subst h0
                have hdq3 : Hidden (E = errL rnS cnS r2) := hdq2
                clear hdq2
                go_wp2_with fail
                go_at_call 89
                refine kc.mono ?_
                rintro e W3 ⟨rfl, f3⟩
                go_wp2_with fail
                go_roundg r2.len
                case measure =>
                  have : gk = r2.len + 1 := hgqH
                  omega
                case rel =>
                  refine ⟨j + 1, r2, by go_num, ?_, ?_, hokq.2.2, hrow3, hdq3, rfl, hfr.same f3⟩
                  · have : j + (r2.len + 1) = e'.len := hlnH
                    omega
                  · simp only [Exs.size] at hsz; omega
              · have hx0 : (x != 0) = true := by simpa using h0
                have hx1 : (x == 0) = false := by simpa using h0
                have hres : Hidden (x = R) := by
                  have e1 : E = x := by rw [show E = _ from hdq2, orE_ne _ h0]
                  rw [show R = _ from hdk2, e1]
                  simp [Hidden, orE, h0]
                clear hdq2 hdk2 h0
                go_wp2_with fail
                go_at_call 89
                refine kc.mono ?_
                rintro e W3 ⟨rfl, f3⟩
                go_wp2_with fail
                go_ret
                exact ⟨ret_int hres, fw.same f3⟩
theorem sts_any (k : Sts) : StsC k := by
  have : ∀ (n : Nat) (k : Sts), k.size < n → StsC k := by
    intro n
    induction n with
    | zero => intro k hk; omega
    | succ n ih => intro k hk; exact sts_step k (fun k' hk' => ih k' (by omega))
  exact this (k.size + 1) k (by omega)
end Go.Proofs.YteijjaabngkbjaaGreatDoor.X
