/- Names of types. -/
import Derived.Test.YtpjahcncknccdaaGreatTyM
import Derived.Test.YtpjahcncknccdaaGreatTrG
namespace Go.Proofs.YtpjahcncknccdaaGreat.Ty
open Go.RowKit
set_option linter.unusedSimpArgs false
set_option linter.unusedVariables false

theorem ofv_any (t : Int) (w : World) : Calls Tryz.prog 76 #[ci t] w fun e w' => e = .returned (.bool (valued t)) ∧ w' = w := by
  go_enter Tryz.func76, Tryz.ntmps76
  go_wp2
  all_goals
    go_ret
    refine ⟨ret_bl ?_, rfl⟩
    rw [Bool.eq_iff_iff, valued_iff]
    try simp only [decide_eq_true_eq, decide_eq_false_iff_not, beq_iff_eq, beq_eq_false_iff_ne, ne_eq, Bool.false_eq_true, iff_false, false_iff, true_iff, not_or] at *
    omega
theorem findS_at {s : Bs} {t : Int} (h1 : 1 ≤ t) (h3 : t ≤ 3) (hn : ∀ u, 1 ≤ u → u < t → nameS u ≠ s) (he : nameS t = s) : findS s = (t, true) := by
  have : t = 1 ∨ t = 2 ∨ t = 3 := by omega
  subst he
  rcases this with rfl | rfl | rfl <;> rfl
theorem findS_no {s : Bs} (hn : ∀ u : Int, 1 ≤ u → u < 4 → nameS u ≠ s) : findS s = (0, false) := by
  have a1 := hn 1 (by omega) (by omega)
  have a2 := hn 2 (by omega) (by omega)
  have a3 := hn 3 (by omega) (by omega)
  simp only [nameS] at a1 a2 a3
  unfold findS
  rw [if_neg (fun e => a1 (by rw [e]; rfl)), if_neg (fun e => a2 (by rw [e]; rfl)), if_neg (fun e => a3 (by rw [e]; rfl))]
end Go.Proofs.YtpjahcncknccdaaGreat.Ty
