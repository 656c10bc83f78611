/- Names of types. -/
import Derived.Test.YtjnjajiofhkinaaGreatDoorTyM
import Derived.Test.YtjnjajiofhkinaaGreatDoorTrG
namespace Go.Proofs.YtjnjajiofhkinaaGreatDoor.Ty
open Go.RowKit
set_option linter.unusedSimpArgs false
set_option linter.unusedVariables false

theorem ofv_any (t : Int) (w : World) : Calls Tryz.prog 64 #[ci t] w fun e w' => e = .returned (.bool (valued t)) ∧ w' = w := by
  go_enter Tryz.func64, Tryz.ntmps64
  go_wp2
  all_goals
    go_ret
    refine ⟨ret_bl ?_, rfl⟩
    rw [Bool.eq_iff_iff, valued_iff]
    try simp only [decide_eq_true_eq, decide_eq_false_iff_not, beq_iff_eq, beq_eq_false_iff_ne, ne_eq, Bool.false_eq_true, iff_false, false_iff, true_iff, not_or] at *
    omega
theorem rvalued_any (t : Int) (w : World) : Calls Tryz.prog 51 #[ci t] w fun e w' => e = .returned (.bool (valued t)) ∧ w' = w := by
  go_enter Tryz.func51, Tryz.ntmps51
  go_wp2
  all_goals (go_ret; refine ⟨ret_bl ?_, rfl⟩; simp [valued, *])
theorem name_any (t : Int) (w : World) : Calls Tryz.prog 37 #[ci t] w fun e w' => e = .returned (ct (nameS t)) ∧ w' = w := by
  unfold nameS
  by_cases h1 : t = 1
  · subst h1
    go_enter Tryz.func37, Tryz.ntmps37
    go_wp2
    go_ret
    exact ⟨rfl, rfl⟩
  by_cases h2 : t = 2
  · subst h2
    go_enter Tryz.func37, Tryz.ntmps37
    go_wp2
    go_ret
    exact ⟨rfl, rfl⟩
  by_cases h3 : t = 3
  · subst h3
    go_enter Tryz.func37, Tryz.ntmps37
    go_wp2
    go_ret
    exact ⟨rfl, rfl⟩
  rw [if_neg h1, if_neg h2, if_neg h3]
  have b1 : (t == 1) = false := by simp [h1]
  have b2 : (t == 2) = false := by simp [h2]
  have b3 : (t == 3) = false := by simp [h3]
  clear h1 h2 h3
  go_enter Tryz.func37, Tryz.ntmps37
  go_wp2
  go_ret
  exact ⟨rfl, rfl⟩
theorem findS_at {s : Bs} {t : Int} (h1 : 1 ≤ t) (h3 : t ≤ 3) (hn : ∀ u, 1 ≤ u → u < t → nameS u ≠ s) (he : nameS t = s) : findS s = (t, true) := by
  have : t = 1 ∨ t = 2 ∨ t = 3 := by omega
  subst he
  rcases this with rfl | rfl | rfl <;> rfl
theorem findS_no {s : Bs} (hn : ∀ u : Int, 1 ≤ u → u < 4 → nameS u ≠ s) : findS s = (0, false) := by
  have a1 := hn 1 (by omega) (by omega)
  have a2 := hn 2 (by omega) (by omega)
  have a3 := hn 3 (by omega) (by omega)
  simp only [nameS] at a1 a2 a3
  unfold findS
  rw [if_neg (fun e => a1 (by rw [e]; rfl)), if_neg (fun e => a2 (by rw [e]; rfl)), if_neg (fun e => a3 (by rw [e]; rfl))]
end Go.Proofs.YtjnjajiofhkinaaGreatDoor.Ty
