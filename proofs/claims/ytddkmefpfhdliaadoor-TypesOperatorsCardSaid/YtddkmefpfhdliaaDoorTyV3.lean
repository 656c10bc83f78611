/- The law TypesOperators. -/
import Derived.Test.YtddkmefpfhdliaaDoorTyE2
namespace Go.Proofs.YtddkmefpfhdliaaDoor.typesOperators
open Go.RowKit Ty
set_option linter.unusedSimpArgs false
set_option linter.unusedVariables false

theorem bin_swap (op a b : Int) : binS op b a = binS op a b := by
  unfold binS
  by_cases h : op < 1 ∨ 13 < op
  · rw [if_pos h, if_pos h]
  · rw [if_neg h, if_neg h]
    by_cases hab : a = b
    · subst hab; rfl
    · rw [if_pos hab, if_pos (fun e => hab e.symm)]
theorem bin_facts (op a b : Int) : ((binS op a b).2 ≠ 0 ∧ (binS op a b).1 = 0) ∨ ((binS op a b).2 = 0 ∧ a = b ∧ nameS a ≠ [] ∧ ((binS op a b).1 = a ∨ (binS op a b).1 = 3) ∧ (6 ≤ op → (binS op a b).1 = 3) ∧ (op < 6 → (binS op a b).1 = a)) := by
  unfold binS
  by_cases h : op < 1 ∨ 13 < op
  · rw [if_pos h]; exact Or.inl ⟨by decide, rfl⟩
  rw [if_neg h]
  by_cases hab : a = b
  · subst hab
    rw [if_neg (by simp)]
    have hc : op = 1 ∨ op = 2 ∨ op = 3 ∨ op = 4 ∨ op = 5 ∨ op = 6 ∨ op = 7 ∨ op = 8 ∨ op = 9 ∨ op = 10 ∨ op = 11 ∨ op = 12 ∨ op = 13 := by omega
    by_cases h1 : a = 1
    · subst h1
      rcases hc with rfl | rfl | rfl | rfl | rfl | rfl | rfl | rfl | rfl | rfl | rfl | rfl | rfl <;> decide
    by_cases h2 : a = 2
    · subst h2
      rcases hc with rfl | rfl | rfl | rfl | rfl | rfl | rfl | rfl | rfl | rfl | rfl | rfl | rfl <;> decide
    by_cases h3 : a = 3
    · subst h3
      rcases hc with rfl | rfl | rfl | rfl | rfl | rfl | rfl | rfl | rfl | rfl | rfl | rfl | rfl <;> decide
    unfold takenS
    rw [if_neg h1, if_neg h2, if_neg h3]
    exact Or.inl ⟨by decide, rfl⟩
  · rw [if_pos hab]; exact Or.inl ⟨by decide, rfl⟩
theorem un_facts (op a : Int) : ((unS op a).2 ≠ 0 ∧ (unS op a).1 = 0) ∨ ((unS op a).2 = 0 ∧ op ≤ 2 ∧ (unS op a).1 = a) ∨ ((unS op a).2 = 0 ∧ op = 3 ∧ a = 2 ∧ (unS op a).1 = 1) ∨ ((unS op a).2 = 0 ∧ op = 4 ∧ a = 1 ∧ (unS op a).1 = 2) := by
  unfold unS
  by_cases h1 : op = 1
  · subst h1
    by_cases a1 : a = 1
    · subst a1; decide
    by_cases a2 : a = 2
    · subst a2; decide
    simp [a1, a2]
  by_cases h2 : op = 2
  · subst h2
    by_cases a3 : a = 3
    · subst a3; decide
    simp [a3]
  by_cases h3 : op = 3
  · subst h3
    by_cases a2 : a = 2
    · subst a2; decide
    simp [a2]
  by_cases h4 : op = 4
  · subst h4
    by_cases a1 : a = 1
    · subst a1; decide
    simp [a1]
  simp [h1, h2, h3, h4]
set_option maxRecDepth 20000 in
set_option maxHeartbeats 4000000 in
theorem walk (op a b : Int) (w : World) (h0 : (Lit.int .i64 op).wf = true) (h1 : (Lit.int .i64 a).wf = true) (h2 : (Lit.int .i64 b).wf = true) (ht : F.Tab w) :
    Calls Tryd.prog 6 #[.int .i64 op, .int .i64 a, .int .i64 b] w fun e w' => e = .returned (.bool true) ∧ Fr (fun _ => False) w w' := by
  have ku := fun w => unary_any op a w
  have kb := fun w => binary_any op a b w
  have kb2 := fun w => binary_any op b a w
  have kn := fun w => name_any a w
  rw [bin_swap] at kb2
  have kl := live_any w ht
  have fb := bin_facts op a b
  have fu := un_facts op a
  generalize unS op a = U at ku fu
  generalize binS op a b = V at kb kb2 fb
  generalize nameS a = na at kn fb
  obtain ⟨U1, U2⟩ := U
  obtain ⟨V1, V2⟩ := V
  simp only at fb fu
  have n1 : (V1 != V1) = false := by simp
  have n2 : (V2 != V2) = false := by simp
  clear h0 h1 h2
  have hU : (U2 ≠ 0 ∧ U1 = 0 ∧ (U2 == 0) = false ∧ (U2 != 0) = true) ∨ (U2 = 0 ∧ decide (op ≤ 2) = true ∧ U1 = a) ∨ (U2 = 0 ∧ op = 3 ∧ a = 2 ∧ U1 = 1) ∨ (U2 = 0 ∧ op = 4 ∧ a = 1 ∧ U1 = 2) := by
    rcases fu with ⟨x, y⟩ | ⟨x, y, z⟩ | h | h
    · exact Or.inl ⟨x, y, by simp [x], by simp [x]⟩
    · exact Or.inr (Or.inl ⟨x, by simpa using y, z⟩)
    · exact Or.inr (Or.inr (Or.inl h))
    · exact Or.inr (Or.inr (Or.inr h))
  have hV : (V1 = 0 ∧ (V2 == 0) = false ∧ (V2 != 0) = true) ∨ (V2 = 0 ∧ b = a ∧ (na == []) = false ∧ List.isEmpty na = false ∧ V1 = a ∧ decide ((6 : Int) ≤ op) = false ∧ decide (op < 6) = true) ∨ (V2 = 0 ∧ b = a ∧ (na == []) = false ∧ List.isEmpty na = false ∧ V1 = 3 ∧ decide ((6 : Int) ≤ op) = true ∧ decide (op < 6) = false ∧ a = 3) ∨ (V2 = 0 ∧ b = a ∧ (na == []) = false ∧ List.isEmpty na = false ∧ V1 = 3 ∧ decide ((6 : Int) ≤ op) = true ∧ decide (op < 6) = false ∧ ((3 : Int) != a) = true ∧ ((3 : Int) == a) = false) := by
    rcases fb with ⟨x, y⟩ | ⟨x, y, gn, gv, g6, g5⟩
    · exact Or.inl ⟨y, by simp [x], by simp [x]⟩
    · have n1 : (na == []) = false := by simpa using gn
      have n2 : List.isEmpty na = false := by cases na with | nil => exact absurd rfl gn | cons p q => rfl
      by_cases h6 : op < 6
      · exact Or.inr (Or.inl ⟨x, y.symm, n1, n2, g5 h6, by simp; omega, by simpa using h6⟩)
      · have h6' : 6 ≤ op := by omega
        by_cases h3 : a = 3
        · exact Or.inr (Or.inr (Or.inl ⟨x, y.symm, n1, n2, g6 h6', by simpa using h6', by simpa using h6, h3⟩))
        · exact Or.inr (Or.inr (Or.inr ⟨x, y.symm, n1, n2, g6 h6', by simpa using h6', by simpa using h6, by simpa using (fun e => h3 e.symm), by simpa using (fun e => h3 e.symm)⟩))
  have naa : (a != a) = false := by simp
  have eaa : (a == a) = true := by simp
  clear fb fu
  rcases hU with ⟨_, rfl, u1, u2⟩ | ⟨rfl, u1, rfl⟩ | ⟨rfl, rfl, rfl, rfl⟩ | ⟨rfl, rfl, rfl, rfl⟩
  all_goals rcases hV with ⟨rfl, v1, v2⟩ | ⟨rfl, rfl, v1, v2, hv, v3, v4⟩ | ⟨rfl, rfl, v1, v2, rfl, v3, v4, ha⟩ | ⟨rfl, rfl, v1, v2, rfl, v3, v4, v5, v6⟩
  all_goals (first | (exfalso; revert v3; decide) | skip)
  all_goals (try subst hv)
  all_goals (try subst ha)
  all_goals
    go_enter Tryd.func6, Tryd.ntmps6
    go_wp2_with fail
    go_at_call 18
    refine kl.mono ?_
    rintro e w0 ⟨rfl, f0⟩
    go_wp2_with fail
    go_at_call 21
    refine (kb _).mono ?_
    rintro e w1 ⟨rfl, f1⟩
    go_wp2_with fail
    go_at_call 21
    refine (kb2 _).mono ?_
    rintro e w2 ⟨rfl, f2⟩
    go_wp2_with (first
      | (go_at_call 10; refine (kn _).mono ?_; rintro e w3 ⟨rfl, rfl⟩)
      | (go_at_call 19; refine (ku _).mono ?_; rintro e w4 ⟨rfl, f4⟩))
    go_ret
    exact ⟨rfl, ((f0.same f1).same f2).same f4⟩
end Go.Proofs.YtddkmefpfhdliaaDoor.typesOperators
