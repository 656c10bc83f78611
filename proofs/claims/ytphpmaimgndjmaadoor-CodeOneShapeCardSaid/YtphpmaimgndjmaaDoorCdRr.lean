/- The document's Right and Size of an instruction. -/
import Derived.Test.YtphpmaimgndjmaaDoorCdNAll
import Derived.Test.YtphpmaimgndjmaaDoorCdT
namespace Go.Proofs.YtphpmaimgndjmaaDoor.Cd
open Go.RowKit Ty
set_option linter.unusedSimpArgs false
set_option linter.unusedVariables false

theorem rs_other {op n t b : Int} (h1 : 2 ≤ op) (h2 : op ≤ 17) (ht : t = 0) (hb : b = 0) (hn : 0 ≤ n) : rightS ⟨op, n, t, b⟩ = (decide (lo op ≤ n) && decide (n ≤ hi op)) := by
  subst ht hb
  unfold rightS
  have hk : known op = true := by simp [known]; omega
  simp only [hk, Bool.true_and]
  rw [if_neg (by omega)]
  simp
theorem rs_bad {op n t b : Int} (h1 : ¬ op = 1) (h : ¬ (t = 0 ∧ b = 0)) : rightS ⟨op, n, t, b⟩ = false := by
  unfold rightS
  simp only []
  rw [if_neg h1]
  have : (t == 0 && b == 0) = false := by
    cases h3 : (t == 0 && b == 0) with
    | false => rfl
    | true =>
      simp only [Bool.and_eq_true, beq_iff_eq] at h3
      exact absurd h3 h
  rw [this]
  simp
theorem rs_neg {op n t b : Int} (hn : n < 0) : rightS ⟨op, n, t, b⟩ = false := by
  unfold rightS
  have : decide (lo op ≤ n) = false := by
    have := lo_pos op
    simp; omega
  simp [this]
theorem lo_hi (op : Int) : (wd op = 0 ∧ lo op = 0 ∧ hi op = 0) ∨ (wd op = 2 ∧ lo op = 0 ∧ hi op = 65535) ∨ (op = 6 ∧ wd op = 1 ∧ lo op = 1 ∧ hi op = 4) ∨ (op = 7 ∧ wd op = 1 ∧ lo op = 1 ∧ hi op = 11) ∨ ((op == 6) = false ∧ (op == 7) = false ∧ wd op = 1 ∧ lo op = 0 ∧ hi op = 255) := by
  by_cases h6 : op = 6
  · subst h6; right; right; left; exact ⟨rfl, rfl, rfl, rfl⟩
  by_cases h7 : op = 7
  · subst h7; right; right; right; left; exact ⟨rfl, rfl, rfl, rfl⟩
  have e1 : lo op = 0 := by unfold lo; rw [if_neg (by omega)]
  have e2 : hi op = if wd op = 1 then 255 else if wd op = 2 then 65535 else 0 := by unfold hi; rw [if_neg h6, if_neg h7]
  have hw : wd op = 0 ∨ wd op = 1 ∨ wd op = 2 := by
    unfold wd
    by_cases q1 : op = 2 ∨ op = 3 ∨ op = 6 ∨ op = 7
    · rw [if_pos q1]; omega
    · rw [if_neg q1]
      by_cases q2 : op = 4 ∨ op = 5 ∨ op = 8 ∨ op = 9 ∨ op = 10 ∨ op = 15
      · rw [if_pos q2]; omega
      · rw [if_neg q2]; omega
  rcases hw with hw | hw | hw
  · left; exact ⟨hw, e1, by rw [e2, hw]; rfl⟩
  · right; right; right; right; exact ⟨by simp [h6], by simp [h7], hw, e1, by rw [e2, hw]; rfl⟩
  · right; left; exact ⟨hw, e1, by rw [e2, hw]; rfl⟩
end Go.Proofs.YtphpmaimgndjmaaDoor.Cd
