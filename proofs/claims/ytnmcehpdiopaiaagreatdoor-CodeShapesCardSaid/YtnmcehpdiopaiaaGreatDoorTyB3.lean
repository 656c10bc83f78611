/- The document's operators. -/
import Derived.Test.YtnmcehpdiopaiaaGreatDoorTyAll
namespace Go.Proofs.YtnmcehpdiopaiaaGreatDoor.Ty
open Go.RowKit
set_option linter.unusedSimpArgs false
set_option linter.unusedVariables false

theorem runary_any (op t : Int) (w : World) : Calls Tryz.prog 46 #[ci op, ci t] w fun e w' => e = .returned (.tuple #[ci (unS op t).1, ci (unS op t).2]) ∧ w' = w := by
  obtain ⟨R, hR⟩ : ∃ R, unS op t = R := ⟨_, rfl⟩
  rw [hR]
  have hRH : Hidden (unS op t = R) := hR
  clear hR
  by_cases h1 : op = 1
  · subst h1
    go_enter Tryz.func46, Tryz.ntmps46
    go_wp2
    all_goals
      go_ret2
      refine ⟨?_, rfl⟩
      rw [← (show unS 1 t = R from hRH)]
      clear hRH
      simp only [unS]
      simp_all
  by_cases h2 : op = 2
  · subst h2
    go_enter Tryz.func46, Tryz.ntmps46
    go_wp2
    all_goals
      go_ret2
      refine ⟨?_, rfl⟩
      rw [← (show unS 2 t = R from hRH)]
      clear hRH
      simp only [unS]
      simp_all
  by_cases h3 : op = 3
  · subst h3
    go_enter Tryz.func46, Tryz.ntmps46
    go_wp2
    all_goals
      go_ret2
      refine ⟨?_, rfl⟩
      rw [← (show unS 3 t = R from hRH)]
      clear hRH
      simp only [unS]
      simp_all
  by_cases h4 : op = 4
  · subst h4
    go_enter Tryz.func46, Tryz.ntmps46
    go_wp2
    all_goals
      go_ret2
      refine ⟨?_, rfl⟩
      rw [← (show unS 4 t = R from hRH)]
      clear hRH
      simp only [unS]
      simp_all
  have b1 : (op == 1) = false := by simp [h1]
  have b2 : (op == 2) = false := by simp [h2]
  have b3 : (op == 3) = false := by simp [h3]
  have b4 : (op == 4) = false := by simp [h4]
  have hR2 : Hidden (R = (0, 1)) := (show unS op t = R from hRH).symm.trans (by unfold unS; rw [if_neg h1, if_neg h2, if_neg h3, if_neg h4])
  clear h1 h2 h3 h4
  go_enter Tryz.func46, Tryz.ntmps46
  go_wp2
  go_ret2
  rw [show R = (0, 1) from hR2]
  exact ⟨rfl, rfl⟩
set_option maxRecDepth 20000 in
set_option maxHeartbeats 4000000 in
theorem rbinary_any (op a b : Int) (w : World) : Calls Tryz.prog 47 #[ci op, ci a, ci b] w fun e w' => e = .returned (.tuple #[ci (binS op a b).1, ci (binS op a b).2]) ∧ w' = w := by
  have kv := rvalued_any a
  by_cases hop : op < 1 ∨ 13 < op
  · have e : binS op a b = (0, 1) := by unfold binS; rw [if_pos hop]
    rw [e]
    clear e
    by_cases hlt : op < 1
    · have hd : decide (op < 1) = true := by simpa using hlt
      clear hlt hop
      go_enter Tryz.func47, Tryz.ntmps47
      go_wp2
      go_ret2
      exact ⟨rfl, rfl⟩
    · have hd : decide (op < 1) = false := by simpa using hlt
      have hge : (13 : Int) < op := by omega
      clear hlt hop
      go_enter Tryz.func47, Tryz.ntmps47
      go_wp2
      go_ret2
      exact ⟨rfl, rfl⟩
  · have hd : decide (op < 1) = false := by simp; omega
    have hge : ¬ (13 : Int) < op := by omega
    by_cases hab : a = b
    · subst hab
      have e : binS op a a = takenS (rowB op).1 (rowB op).2.1 (rowB op).2.2 a := by unfold binS; rw [if_neg hop, if_neg (by simp)]
      rw [e]
      have hne : (a != a) = false := by simp
      have hc : op = 1 ∨ op = 2 ∨ op = 3 ∨ op = 4 ∨ op = 5 ∨ op = 6 ∨ op = 7 ∨ op = 8 ∨ op = 9 ∨ op = 10 ∨ op = 11 ∨ op = 12 ∨ op = 13 := by omega
      have hac : a = 1 ∨ a = 2 ∨ a = 3 ∨ (valued a = false ∧ ¬ (a = 1 ∨ a = 2 ∨ a = 3)) := by
        by_cases h : a = 1 ∨ a = 2 ∨ a = 3
        · omega
        · refine Or.inr (Or.inr (Or.inr ⟨?_, h⟩))
          rw [← Bool.not_eq_true, valued_iff]
          exact h
      clear e hd hge hop
      rcases hac with rfl | rfl | rfl | ⟨hv, hnn⟩
      case inr.inr.inr =>
        have ez : takenS (rowB op).1 (rowB op).2.1 (rowB op).2.2 a = (0, 22) := by
          unfold takenS
          rw [if_neg (fun h => hnn (Or.inl h)), if_neg (fun h => hnn (Or.inr (Or.inl h))), if_neg (fun h => hnn (Or.inr (Or.inr h)))]
        rw [ez]
        rw [hv] at kv
        have hd : decide (op < 1) = false := by simp; omega
        have hge : ¬ (13 : Int) < op := by omega
        clear ez hnn hc hv
        go_enter Tryz.func47, Tryz.ntmps47
        go_wp2_with (go_at_call 65; refine (kv _).mono ?_; rintro e w' ⟨rfl, rfl⟩)
        go_ret2
        exact ⟨rfl, rfl⟩
      all_goals
        rcases hc with rfl | rfl | rfl | rfl | rfl | rfl | rfl | rfl | rfl | rfl | rfl | rfl | rfl
        all_goals
          go_enter Tryz.func47, Tryz.ntmps47
          go_wp2_with (go_at_call 65; refine (kv _).mono ?_; rintro e w' ⟨rfl, rfl⟩)
          go_ret2
          exact ⟨rfl, rfl⟩
    · have e : binS op a b = (0, 22) := by unfold binS; rw [if_neg hop, if_pos hab]
      rw [e]
      have hne : (a != b) = true := by simpa using hab
      clear e hab hop
      go_enter Tryz.func47, Tryz.ntmps47
      go_wp2_with (go_at_call 65; refine (kv _).mono ?_; rintro e w' ⟨rfl, rfl⟩)
      go_ret2
      exact ⟨rfl, rfl⟩
end Go.Proofs.YtnmcehpdiopaiaaGreatDoor.Ty
