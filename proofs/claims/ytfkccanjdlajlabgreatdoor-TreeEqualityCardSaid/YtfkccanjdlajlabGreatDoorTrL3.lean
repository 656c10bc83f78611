/- The program's look at statements. -/
import Derived.Test.YtfkccanjdlajlabGreatDoorTrR2
namespace Go.Proofs.YtfkccanjdlajlabGreatDoor
open Go.RowKit Te
set_option linter.unusedSimpArgs false
set_option linter.unusedVariables false

theorem isCall_any (h : EH) (kv : Value) (hkv : ∃ ao n cap, kv = .slice ao n cap) (r : Bool) (hr : Hidden (decide (h.kind = 4 ∨ h.kind = 5) = r)) (w : World) :
    Calls Tryz.prog 160 #[exV h kv] w fun e w' => e = .returned (.bool r) ∧ Fr (fun _ => False) w w' := by
  obtain ⟨ao, n, cap, rfl⟩ := hkv
  obtain ⟨kind, op, mod, name, vt, vb⟩ := h
  go_enter Tryz.func160, Tryz.ntmps160
  go_wp2
  all_goals (go_ret; refine ⟨ret_bl ?_, Fr.alloc _ _ _⟩; rw [← (show _ = r from hr)]; clear hr)
  all_goals (simp only [beq_iff_eq, beq_eq_false_iff_ne, ne_eq] at *; simp [*])
set_option maxRecDepth 20000 in
set_option maxHeartbeats 4000000 in
theorem sfits_1 (name : Bs) (e : Exs) (nb nl : Nat) (ao1 ao2 ao3 : Option Addr) (cap1 cap2 cap3 : Nat) (w : World) (he : ExL w ao1 cap1 e) (b1 : nb ≤ cap2) (b2 : cap2 ≤ 9223372036854775807) (b3 : nl ≤ cap3) (b4 : cap3 ≤ 9223372036854775807) (r : Bool) (hr : Hidden (fitsS ⟨1, name⟩ e nb nl = r)) :
    Calls Tryz.prog 136 #[stV ⟨1, name⟩ (.slice ao1 e.len cap1) (.slice ao2 nb cap2) (.slice ao3 nl cap3)] w fun e w' => e = .returned (.bool r) ∧ Fr (fun _ => False) w w' := by
  have a1 := he.1
  have a2 : cap1 ≤ 9223372036854775807 := by have := he.2.1; unfold maxLen at this; omega
  have hr2 : Hidden (decide (e.len = 1 ∧ nb = 0 ∧ nl = 0) = r) := by rw [← (show _ = r from hr)]; simp [Hidden, fitsS]
  generalize e.len = n at *
  clear hr he
  go_enter Tryz.func136, Tryz.ntmps136
  go_wp2_with fail
  all_goals
    go_ret
    refine ⟨ret_bl ?_, ?_⟩
    · rw [← (show _ = r from hr2)]
      clear hr2
      subst_vars
      try simp only [beq_iff_eq, beq_eq_false_iff_ne, ne_eq] at *
      first | (simp [*]; done) | (simp [*]; omega) | (rw [Bool.eq_iff_iff]; simp [*]; done) | (rw [Bool.eq_iff_iff]; simp [*]; omega)
    · repeat (refine fr_set ?_ (Nat.le_refl _) _ _)
      exact Fr.alloc _ _ _
set_option maxRecDepth 20000 in
set_option maxHeartbeats 4000000 in
theorem sfits_2 (name : Bs) (e : Exs) (nb nl : Nat) (ao1 ao2 ao3 : Option Addr) (cap1 cap2 cap3 : Nat) (w : World) (he : ExL w ao1 cap1 e) (b1 : nb ≤ cap2) (b2 : cap2 ≤ 9223372036854775807) (b3 : nl ≤ cap3) (b4 : cap3 ≤ 9223372036854775807) (r : Bool) (hr : Hidden (fitsS ⟨2, name⟩ e nb nl = r)) :
    Calls Tryz.prog 136 #[stV ⟨2, name⟩ (.slice ao1 e.len cap1) (.slice ao2 nb cap2) (.slice ao3 nl cap3)] w fun e w' => e = .returned (.bool r) ∧ Fr (fun _ => False) w w' := by
  have a1 := he.1
  have a2 : cap1 ≤ 9223372036854775807 := by have := he.2.1; unfold maxLen at this; omega
  have hr2 : Hidden (decide (e.len = 1 ∧ nb = 0 ∧ nl = 0) = r) := by rw [← (show _ = r from hr)]; simp [Hidden, fitsS]
  generalize e.len = n at *
  clear hr he
  go_enter Tryz.func136, Tryz.ntmps136
  go_wp2_with fail
  all_goals
    go_ret
    refine ⟨ret_bl ?_, ?_⟩
    · rw [← (show _ = r from hr2)]
      clear hr2
      subst_vars
      try simp only [beq_iff_eq, beq_eq_false_iff_ne, ne_eq] at *
      first | (simp [*]; done) | (simp [*]; omega) | (rw [Bool.eq_iff_iff]; simp [*]; done) | (rw [Bool.eq_iff_iff]; simp [*]; omega)
    · repeat (refine fr_set ?_ (Nat.le_refl _) _ _)
      exact Fr.alloc _ _ _
set_option maxRecDepth 20000 in
set_option maxHeartbeats 4000000 in
theorem sfits_3 (name : Bs) (e : Exs) (nb nl : Nat) (ao1 ao2 ao3 : Option Addr) (cap1 cap2 cap3 : Nat) (w : World) (he : ExL w ao1 cap1 e) (b1 : nb ≤ cap2) (b2 : cap2 ≤ 9223372036854775807) (b3 : nl ≤ cap3) (b4 : cap3 ≤ 9223372036854775807) (r : Bool) (hr : Hidden (fitsS ⟨3, name⟩ e nb nl = r)) :
    Calls Tryz.prog 136 #[stV ⟨3, name⟩ (.slice ao1 e.len cap1) (.slice ao2 nb cap2) (.slice ao3 nl cap3)] w fun e w' => e = .returned (.bool r) ∧ Fr (fun _ => False) w w' := by
  have a1 := he.1
  have a2 : cap1 ≤ 9223372036854775807 := by have := he.2.1; unfold maxLen at this; omega
  have hr2 : Hidden (decide (e.len = 1 ∧ name = []) = r) := by rw [← (show _ = r from hr)]; simp [Hidden, fitsS]
  generalize e.len = n at *
  clear hr he
  go_enter Tryz.func136, Tryz.ntmps136
  go_wp2_with fail
  all_goals
    go_ret
    refine ⟨ret_bl ?_, ?_⟩
    · rw [← (show _ = r from hr2)]
      clear hr2
      subst_vars
      try simp only [beq_iff_eq, beq_eq_false_iff_ne, ne_eq] at *
      first | (simp [*]; done) | (simp [*]; omega) | (rw [Bool.eq_iff_iff]; simp [*]; done) | (rw [Bool.eq_iff_iff]; simp [*]; omega)
    · repeat (refine fr_set ?_ (Nat.le_refl _) _ _)
      exact Fr.alloc _ _ _
set_option maxRecDepth 20000 in
set_option maxHeartbeats 4000000 in
theorem sfits_4 (name : Bs) (e : Exs) (nb nl : Nat) (ao1 ao2 ao3 : Option Addr) (cap1 cap2 cap3 : Nat) (w : World) (he : ExL w ao1 cap1 e) (b1 : nb ≤ cap2) (b2 : cap2 ≤ 9223372036854775807) (b3 : nl ≤ cap3) (b4 : cap3 ≤ 9223372036854775807) (r : Bool) (hr : Hidden (fitsS ⟨4, name⟩ e nb nl = r)) :
    Calls Tryz.prog 136 #[stV ⟨4, name⟩ (.slice ao1 e.len cap1) (.slice ao2 nb cap2) (.slice ao3 nl cap3)] w fun e w' => e = .returned (.bool r) ∧ Fr (fun _ => False) w w' := by
  have a1 := he.1
  have a2 : cap1 ≤ 9223372036854775807 := by have := he.2.1; unfold maxLen at this; omega
  have hr2 : Hidden (decide (e.len = 1 ∧ name = [] ∧ nl = 0) = r) := by rw [← (show _ = r from hr)]; simp [Hidden, fitsS]
  generalize e.len = n at *
  clear hr he
  go_enter Tryz.func136, Tryz.ntmps136
  go_wp2_with fail
  all_goals
    go_ret
    refine ⟨ret_bl ?_, ?_⟩
    · rw [← (show _ = r from hr2)]
      clear hr2
      subst_vars
      try simp only [beq_iff_eq, beq_eq_false_iff_ne, ne_eq] at *
      first | (simp [*]; done) | (simp [*]; omega) | (rw [Bool.eq_iff_iff]; simp [*]; done) | (rw [Bool.eq_iff_iff]; simp [*]; omega)
    · repeat (refine fr_set ?_ (Nat.le_refl _) _ _)
      exact Fr.alloc _ _ _
set_option maxRecDepth 20000 in
set_option maxHeartbeats 4000000 in
theorem sfits_5 (name : Bs) (e : Exs) (nb nl : Nat) (ao1 ao2 ao3 : Option Addr) (cap1 cap2 cap3 : Nat) (w : World) (he : ExL w ao1 cap1 e) (b1 : nb ≤ cap2) (b2 : cap2 ≤ 9223372036854775807) (b3 : nl ≤ cap3) (b4 : cap3 ≤ 9223372036854775807) (r : Bool) (hr : Hidden (fitsS ⟨5, name⟩ e nb nl = r)) :
    Calls Tryz.prog 136 #[stV ⟨5, name⟩ (.slice ao1 e.len cap1) (.slice ao2 nb cap2) (.slice ao3 nl cap3)] w fun e w' => e = .returned (.bool r) ∧ Fr (fun _ => False) w w' := by
  have a1 := he.1
  have a2 : cap1 ≤ 9223372036854775807 := by have := he.2.1; unfold maxLen at this; omega
  have hr2 : Hidden (decide (e.len ≤ 1 ∧ name = [] ∧ nb = 0 ∧ nl = 0) = r) := by rw [← (show _ = r from hr)]; simp [Hidden, fitsS]
  generalize e.len = n at *
  clear hr he
  go_enter Tryz.func136, Tryz.ntmps136
  go_wp2_with fail
  all_goals
    go_ret
    refine ⟨ret_bl ?_, ?_⟩
    · rw [← (show _ = r from hr2)]
      clear hr2
      subst_vars
      try simp only [beq_iff_eq, beq_eq_false_iff_ne, ne_eq] at *
      first | (simp [*]; done) | (simp [*]; omega) | (rw [Bool.eq_iff_iff]; simp [*]; done) | (rw [Bool.eq_iff_iff]; simp [*]; omega)
    · repeat (refine fr_set ?_ (Nat.le_refl _) _ _)
      exact Fr.alloc _ _ _
set_option maxRecDepth 20000 in
set_option maxHeartbeats 4000000 in
theorem sfits_6 (name : Bs) (e : Exs) (nb nl : Nat) (ao1 ao2 ao3 : Option Addr) (cap1 cap2 cap3 : Nat) (w : World) (he : ExL w ao1 cap1 e) (b1 : nb ≤ cap2) (b2 : cap2 ≤ 9223372036854775807) (b3 : nl ≤ cap3) (b4 : cap3 ≤ 9223372036854775807) (r : Bool) (hr : Hidden (fitsS ⟨6, name⟩ e nb nl = r)) :
    Calls Tryz.prog 136 #[stV ⟨6, name⟩ (.slice ao1 e.len cap1) (.slice ao2 nb cap2) (.slice ao3 nl cap3)] w fun e w' => e = .returned (.bool r) ∧ Fr (fun _ => False) w w' := by
  have a1 := he.1
  have a2 : cap1 ≤ 9223372036854775807 := by have := he.2.1; unfold maxLen at this; omega
  have hr2 : Hidden (decide (e.len = 1 ∧ name = [] ∧ nb = 0 ∧ nl = 0) = r) := by rw [← (show _ = r from hr)]; simp [Hidden, fitsS]
  generalize e.len = n at *
  clear hr he
  go_enter Tryz.func136, Tryz.ntmps136
  go_wp2_with fail
  all_goals
    go_ret
    refine ⟨ret_bl ?_, ?_⟩
    · rw [← (show _ = r from hr2)]
      clear hr2
      subst_vars
      try simp only [beq_iff_eq, beq_eq_false_iff_ne, ne_eq] at *
      first | (simp [*]; done) | (simp [*]; omega) | (rw [Bool.eq_iff_iff]; simp [*]; done) | (rw [Bool.eq_iff_iff]; simp [*]; omega)
    · repeat (refine fr_set ?_ (Nat.le_refl _) _ _)
      exact Fr.alloc _ _ _
set_option maxRecDepth 20000 in
set_option maxHeartbeats 4000000 in
theorem sfits_7 (name : Bs) (e : Exs) (nb nl : Nat) (ao1 ao2 ao3 : Option Addr) (cap1 cap2 cap3 : Nat) (w : World) (he : ExL w ao1 cap1 e) (b1 : nb ≤ cap2) (b2 : cap2 ≤ 9223372036854775807) (b3 : nl ≤ cap3) (b4 : cap3 ≤ 9223372036854775807) (r : Bool) (hr : Hidden (fitsS ⟨7, name⟩ e nb nl = r)) :
    Calls Tryz.prog 136 #[stV ⟨7, name⟩ (.slice ao1 e.len cap1) (.slice ao2 nb cap2) (.slice ao3 nl cap3)] w fun e w' => e = .returned (.bool r) ∧ Fr (fun _ => False) w w' := by
  have a1 := he.1
  have a2 : cap1 ≤ 9223372036854775807 := by have := he.2.1; unfold maxLen at this; omega
  have hr2 : Hidden (decide (e.len = 1 ∧ name = [] ∧ nb = 0 ∧ nl = 0) = r) := by rw [← (show _ = r from hr)]; simp [Hidden, fitsS]
  generalize e.len = n at *
  clear hr he
  go_enter Tryz.func136, Tryz.ntmps136
  go_wp2_with fail
  all_goals
    go_ret
    refine ⟨ret_bl ?_, ?_⟩
    · rw [← (show _ = r from hr2)]
      clear hr2
      subst_vars
      try simp only [beq_iff_eq, beq_eq_false_iff_ne, ne_eq] at *
      first | (simp [*]; done) | (simp [*]; omega) | (rw [Bool.eq_iff_iff]; simp [*]; done) | (rw [Bool.eq_iff_iff]; simp [*]; omega)
    · repeat (refine fr_set ?_ (Nat.le_refl _) _ _)
      exact Fr.alloc _ _ _
set_option maxRecDepth 20000 in
set_option maxHeartbeats 4000000 in
theorem sfits_8 (name : Bs) (e : Exs) (nb nl : Nat) (ao1 ao2 ao3 : Option Addr) (cap1 cap2 cap3 : Nat) (w : World) (he : ExL w ao1 cap1 e) (b1 : nb ≤ cap2) (b2 : cap2 ≤ 9223372036854775807) (b3 : nl ≤ cap3) (b4 : cap3 ≤ 9223372036854775807) (r : Bool) (hr : Hidden (fitsS ⟨8, name⟩ e nb nl = r)) :
    Calls Tryz.prog 136 #[stV ⟨8, name⟩ (.slice ao1 e.len cap1) (.slice ao2 nb cap2) (.slice ao3 nl cap3)] w fun e w' => e = .returned (.bool r) ∧ Fr (fun _ => False) w w' := by
  have a1 := he.1
  have a2 : cap1 ≤ 9223372036854775807 := by have := he.2.1; unfold maxLen at this; omega
  have hr2 : Hidden (decide (e.len = 0) = r) := by rw [← (show _ = r from hr)]; simp [Hidden, fitsS]
  generalize e.len = n at *
  clear hr he
  go_enter Tryz.func136, Tryz.ntmps136
  go_wp2_with fail
  all_goals
    go_ret
    refine ⟨ret_bl ?_, ?_⟩
    · rw [← (show _ = r from hr2)]
      clear hr2
      subst_vars
      try simp only [beq_iff_eq, beq_eq_false_iff_ne, ne_eq] at *
      first | (simp [*]; done) | (simp [*]; omega) | (rw [Bool.eq_iff_iff]; simp [*]; done) | (rw [Bool.eq_iff_iff]; simp [*]; omega)
    · repeat (refine fr_set ?_ (Nat.le_refl _) _ _)
      exact Fr.alloc _ _ _
set_option maxRecDepth 20000 in
set_option maxHeartbeats 4000000 in
theorem sfits_9 (name : Bs) (e : Exs) (nb nl : Nat) (ao1 ao2 ao3 : Option Addr) (cap1 cap2 cap3 : Nat) (w : World) (he : ExL w ao1 cap1 e) (b1 : nb ≤ cap2) (b2 : cap2 ≤ 9223372036854775807) (b3 : nl ≤ cap3) (b4 : cap3 ≤ 9223372036854775807) (r : Bool) (hr : Hidden (fitsS ⟨9, name⟩ e nb nl = r)) :
    Calls Tryz.prog 136 #[stV ⟨9, name⟩ (.slice ao1 e.len cap1) (.slice ao2 nb cap2) (.slice ao3 nl cap3)] w fun e w' => e = .returned (.bool r) ∧ Fr (fun _ => False) w w' := by
  have a1 := he.1
  have a2 : cap1 ≤ 9223372036854775807 := by have := he.2.1; unfold maxLen at this; omega
  have hbx : Hidden ((w.alloc (.cells #[ci 9, ct name, .slice ao1 e.len cap1, .slice ao2 nb cap2, .slice ao3 nl cap3] 78)).heap[w.heap.size]? = some (.cells #[ci 9, ct name, .slice ao1 e.len cap1, .slice ao2 nb cap2, .slice ao3 nl cap3] 78 (0, 0))) := alloc_new _ _
  have f0 := Fr.alloc (fun _ => False) w (.cells #[ci 9, ct name, .slice ao1 e.len cap1, .slice ao2 nb cap2, .slice ao3 nl cap3] 78)
  by_cases h1 : e.len = 1
  · cases e with
    | nil => simp [Exs.len] at h1
    | cons h' k' r' =>
      obtain ⟨b, off, ao', cap', rfl, _, _, d0, d1, d2, d3, d4, d5, d6⟩ := he.rest.next
      simp only [Nat.zero_mul, Nat.add_zero] at d0 d1 d2 d3 d4 d5 d6
      have d0 := f0.cellN d0
      have d1 := f0.cellN d1
      have d2 := f0.cellN d2
      have d3 := f0.cellN d3
      have d4 := f0.cellN d4
      have d5 := f0.cellN d5
      have d6 := f0.cellN d6
      have kc := fun w => isCall_any h' (.slice ao' k'.len cap') ⟨_, _, _, rfl⟩ _ rfl w
      have hr2 : Hidden ((decide (h'.kind = 4 ∨ h'.kind = 5) && decide (name = [] ∧ nb = 0 ∧ nl = 0)) = r) := by
        show (decide (h'.kind = 4 ∨ h'.kind = 5) && decide (name = [] ∧ nb = 0 ∧ nl = 0)) = r
        rw [← (show _ = r from hr), Bool.eq_iff_iff]
        simp [fitsS, h1, Exs.kind0]
      generalize decide (h'.kind = 4 ∨ h'.kind = 5) = cb at kc hr2
      rw [h1] at hbx f0 d0 d1 d2 d3 d4 d5 d6 a1 ⊢
      clear hr he h1
      cases cb
      all_goals
        go_enter Tryz.func136, Tryz.ntmps136
        go_wp2_with fail
        go_at_call 160
        refine (kc _).mono ?_
        rintro ee w1 ⟨rfl, f1⟩
        obtain ⟨e0, e1, e2, e3, e4⟩ := st_box (f1.heap hbx (fun f => f))
        go_wp2_with fail
        all_goals
          go_ret
          refine ⟨ret_bl ?_, f0.same f1⟩
          rw [← (show _ = r from hr2)]
          clear hr2
          subst_vars
          try simp only [beq_iff_eq, beq_eq_false_iff_ne, ne_eq] at *
          first | (simp [*]; done) | (simp [*]; omega) | (rw [Bool.eq_iff_iff]; simp [*]; done) | (rw [Bool.eq_iff_iff]; simp [*]; omega)
  · have hr2 : Hidden (false = r) := by rw [← (show _ = r from hr)]; simp [Hidden, fitsS, h1]
    have h1' : ((e.len : Int) == 1) = false := by simp only [beq_eq_false_iff_ne, ne_eq]; omega
    clear hr h1
    go_enter Tryz.func136, Tryz.ntmps136
    go_wp2_with fail
    go_ret
    exact ⟨ret_bl hr2, Fr.alloc _ _ _⟩
set_option maxRecDepth 20000 in
set_option maxHeartbeats 4000000 in
theorem sfits_no (name : Bs) (e : Exs) (nb nl : Nat) (kind : Int) (hk : ¬ (1 ≤ kind ∧ kind ≤ 9)) (ao1 ao2 ao3 : Option Addr) (cap1 cap2 cap3 : Nat) (w : World) (he : ExL w ao1 cap1 e) (b1 : nb ≤ cap2) (b2 : cap2 ≤ 9223372036854775807) (b3 : nl ≤ cap3) (b4 : cap3 ≤ 9223372036854775807) (r : Bool) (hr : Hidden (fitsS ⟨kind, name⟩ e nb nl = r)) :
    Calls Tryz.prog 136 #[stV ⟨kind, name⟩ (.slice ao1 e.len cap1) (.slice ao2 nb cap2) (.slice ao3 nl cap3)] w fun e w' => e = .returned (.bool r) ∧ Fr (fun _ => False) w w' := by
  have a1 := he.1
  have a2 : cap1 ≤ 9223372036854775807 := by have := he.2.1; unfold maxLen at this; omega
  have n1 : (kind == 1) = false := by simp only [beq_eq_false_iff_ne, ne_eq]; omega
  have n2 : (kind == 2) = false := by simp only [beq_eq_false_iff_ne, ne_eq]; omega
  have n3 : (kind == 3) = false := by simp only [beq_eq_false_iff_ne, ne_eq]; omega
  have n4 : (kind == 4) = false := by simp only [beq_eq_false_iff_ne, ne_eq]; omega
  have n5 : (kind == 5) = false := by simp only [beq_eq_false_iff_ne, ne_eq]; omega
  have n6 : (kind == 6) = false := by simp only [beq_eq_false_iff_ne, ne_eq]; omega
  have n7 : (kind == 7) = false := by simp only [beq_eq_false_iff_ne, ne_eq]; omega
  have n8 : (kind == 8) = false := by simp only [beq_eq_false_iff_ne, ne_eq]; omega
  have n9 : (kind == 9) = false := by simp only [beq_eq_false_iff_ne, ne_eq]; omega
  have hr2 : Hidden (false = r) := by
    rw [← (show _ = r from hr)]
    simp only [beq_eq_false_iff_ne, ne_eq] at n1 n2 n3 n4 n5 n6 n7 n8 n9
    simp [Hidden, fitsS, n1, n2, n3, n4, n5, n6, n7, n8, n9]
  clear hr hk
  go_enter Tryz.func136, Tryz.ntmps136
  go_wp2_with fail
  go_ret
  exact ⟨ret_bl hr2, Fr.alloc _ _ _⟩
theorem sfits_any (h : SH) (e : Exs) (nb nl : Nat) (ao1 ao2 ao3 : Option Addr) (cap1 cap2 cap3 : Nat) (w : World) (he : ExL w ao1 cap1 e) (b1 : nb ≤ cap2) (b2 : cap2 ≤ 9223372036854775807) (b3 : nl ≤ cap3) (b4 : cap3 ≤ 9223372036854775807) (r : Bool) (hr : fitsS h e nb nl = r) :
    Calls Tryz.prog 136 #[stV h (.slice ao1 e.len cap1) (.slice ao2 nb cap2) (.slice ao3 nl cap3)] w fun e w' => e = .returned (.bool r) ∧ Fr (fun _ => False) w w' := by
  obtain ⟨kind, name⟩ := h
  by_cases hk : 1 ≤ kind ∧ kind ≤ 9
  · obtain rfl | rfl | rfl | rfl | rfl | rfl | rfl | rfl | rfl : kind = 1 ∨ kind = 2 ∨ kind = 3 ∨ kind = 4 ∨ kind = 5 ∨ kind = 6 ∨ kind = 7 ∨ kind = 8 ∨ kind = 9 := by omega
    · exact sfits_1 name e nb nl ao1 ao2 ao3 cap1 cap2 cap3 w he b1 b2 b3 b4 r hr
    · exact sfits_2 name e nb nl ao1 ao2 ao3 cap1 cap2 cap3 w he b1 b2 b3 b4 r hr
    · exact sfits_3 name e nb nl ao1 ao2 ao3 cap1 cap2 cap3 w he b1 b2 b3 b4 r hr
    · exact sfits_4 name e nb nl ao1 ao2 ao3 cap1 cap2 cap3 w he b1 b2 b3 b4 r hr
    · exact sfits_5 name e nb nl ao1 ao2 ao3 cap1 cap2 cap3 w he b1 b2 b3 b4 r hr
    · exact sfits_6 name e nb nl ao1 ao2 ao3 cap1 cap2 cap3 w he b1 b2 b3 b4 r hr
    · exact sfits_7 name e nb nl ao1 ao2 ao3 cap1 cap2 cap3 w he b1 b2 b3 b4 r hr
    · exact sfits_8 name e nb nl ao1 ao2 ao3 cap1 cap2 cap3 w he b1 b2 b3 b4 r hr
    · exact sfits_9 name e nb nl ao1 ao2 ao3 cap1 cap2 cap3 w he b1 b2 b3 b4 r hr
  · exact sfits_no name e nb nl kind hk ao1 ao2 ao3 cap1 cap2 cap3 w he b1 b2 b3 b4 r hr
end Go.Proofs.YtfkccanjdlajlabGreatDoor
