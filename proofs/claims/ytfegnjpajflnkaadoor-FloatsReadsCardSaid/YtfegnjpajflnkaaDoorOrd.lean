/- The order of Compare in whole numbers: it is one, and nothing lies between a float and the next one. -/
import Derived.Test.YtfegnjpajflnkaaDoorFl
import GoSem.ClaimData
namespace Go.Proofs.YtfegnjpajflnkaaDoor
open Fl
set_option linter.unusedSimpArgs false
set_option linter.unusedVariables false

theorem class_nan (a : Int) : (classS a = 1) ↔ nan a = true := by
  unfold classS nan
  simp only [decide_eq_true_eq]
  repeat' split
  all_goals omega
theorem class_zero (a : Int) (ha : U a) : (classS a = 3) ↔ (a = 0 ∨ a = 9223372036854775808) := by
  obtain ⟨_, _⟩ := ha
  unfold classS
  repeat' split
  all_goals omega
/-- Where a float stands in the order of Compare. -/
def rk (a : Int) : Int := if nan a then 9223372036854775808 else if 9223372036854775808 ≤ a then 9223372036854775807 - a else a
theorem rk_num (a : Int) (ha : U a) (h : nan a = false) : rk a ≤ 9218868437227405312 ∧ -9218868437227405313 ≤ rk a ∧ (9223372036854775808 ≤ a → rk a = 9223372036854775807 - a) ∧ (a < 9223372036854775808 → rk a = a) := by
  obtain ⟨_, _⟩ := ha
  unfold rk
  rw [h]
  simp only [nan, decide_eq_false_iff_not] at h
  simp only [Bool.false_eq_true, if_false]
  split <;> omega
theorem rk_nan (a : Int) (h : nan a = true) : rk a = 9223372036854775808 := by simp [rk, h]
theorem cmp_rk (a b : Int) (ha : U a) (hb : U b) : cmpS a b = if rk a < rk b then -1 else if rk b < rk a then 1 else 0 := by
  unfold cmpS
  cases na : nan a
  · obtain ⟨p1, p2, p3, p4⟩ := rk_num a ha na
    cases nb : nan b
    · obtain ⟨q1, q2, q3, q4⟩ := rk_num b hb nb
      obtain ⟨_, _⟩ := ha; obtain ⟨_, _⟩ := hb
      simp only [Bool.false_eq_true, if_false]
      unfold srI
      by_cases c1 : 9223372036854775808 ≤ a <;> by_cases c2 : 9223372036854775808 ≤ b <;> simp only [c1, c2, if_true, if_false]
      · rw [p3 c1, q3 c2]; repeat' split
        all_goals omega
      · rw [p3 c1, q4 (by omega)]; repeat' split
        all_goals omega
      · rw [p4 (by omega), q3 c2]; repeat' split
        all_goals omega
      · rw [p4 (by omega), q4 (by omega)]; repeat' split
        all_goals omega
    · have q := rk_nan b nb
      simp only [Bool.false_eq_true, if_false, if_true]
      rw [if_pos (by omega)]
  · have p := rk_nan a na
    cases nb : nan b
    · obtain ⟨q1, q2, q3, q4⟩ := rk_num b hb nb
      simp only [Bool.false_eq_true, if_false, if_true]
      rw [if_neg (by omega), if_pos (by omega)]
    · have q := rk_nan b nb
      simp only [if_true]
      rw [if_neg (by omega), if_neg (by omega)]
theorem cmp_turn (a b : Int) (ha : U a) (hb : U b) : cmpS b a = - cmpS a b := by
  rw [cmp_rk a b ha hb, cmp_rk b a hb ha]
  repeat' split
  all_goals omega
theorem cmp_vals (a b : Int) : cmpS a b = -1 ∨ cmpS a b = 0 ∨ cmpS a b = 1 := by
  unfold cmpS
  repeat' split
  all_goals simp
theorem cmp_trans (a b c : Int) (ha : U a) (hb : U b) (hc : U c) (h : cmpS a b ≤ 0) (g : cmpS b c ≤ 0) : ¬ 0 < cmpS a c := by
  rw [cmp_rk a b ha hb] at h
  rw [cmp_rk b c hb hc] at g
  rw [cmp_rk a c ha hc]
  have h' : rk a ≤ rk b := by revert h; repeat' split; all_goals omega
  have g' : rk b ≤ rk c := by revert g; repeat' split; all_goals omega
  repeat' split
  all_goals omega
theorem cmp_canon (a b : Int) (ha : U a) (hb : U b) (h : cmpS a b = 0) : canonS a = canonS b := by
  rw [cmp_rk a b ha hb] at h
  have h' : rk a = rk b := by revert h; repeat' split; all_goals omega
  unfold canonS
  cases na : nan a
  · obtain ⟨p1, p2, p3, p4⟩ := rk_num a ha na
    cases nb : nan b
    · obtain ⟨q1, q2, q3, q4⟩ := rk_num b hb nb
      obtain ⟨_, _⟩ := ha; obtain ⟨_, _⟩ := hb
      simp only [Bool.false_eq_true, if_false]
      by_cases c1 : 9223372036854775808 ≤ a <;> by_cases c2 : 9223372036854775808 ≤ b
      · have := p3 c1; have := q3 c2; omega
      · have := p3 c1; have := q4 (by omega); omega
      · have := p4 (by omega); have := q3 c2; omega
      · have := p4 (by omega); have := q4 (by omega); omega
    · have q := rk_nan b nb; omega
  · have p := rk_nan a na
    cases nb : nan b
    · obtain ⟨q1, q2, q3, q4⟩ := rk_num b hb nb; omega
    · rfl
theorem next_U (a : Int) (ha : U a) : U (nextS a) := by
  obtain ⟨_, _⟩ := ha
  unfold nextS
  repeat' split
  all_goals exact ⟨by omega, by omega⟩
theorem rk_next (a : Int) (ha : U a) (h : nan a = false) : (rk a < 9218868437227405312 ∧ rk (nextS a) = rk a + 1) ∨ (rk a = 9218868437227405312 ∧ rk (nextS a) = 9223372036854775808) := by
  obtain ⟨p1, p2, p3, p4⟩ := rk_num a ha h
  obtain ⟨h0, h1⟩ := ha
  have h' := h
  simp only [nan, decide_eq_false_iff_not] at h'
  have out : ∀ b : Int, ¬ 9218868437227405312 < b % 9223372036854775808 → nan b = false := fun b hb => by simp only [nan, decide_eq_false_iff_not]; exact hb
  unfold nextS
  rw [h]
  simp only [Bool.false_eq_true, if_false]
  by_cases c1 : a = 9223372036854775808
  · subst c1; left; exact ⟨by decide, by decide⟩
  · rw [if_neg c1]
    by_cases c2 : 9223372036854775808 < a
    · rw [if_pos c2]
      left
      have e := p3 (by omega)
      refine ⟨by omega, ?_⟩
      unfold rk
      rw [out (a - 1) (by omega)]
      simp only [Bool.false_eq_true, if_false]
      rw [if_pos (by omega)]
      unfold rk at e
      omega
    · rw [if_neg c2]
      have e := p4 (by omega)
      by_cases c3 : a = 9218868437227405312
      · subst c3; right; exact ⟨by decide, by decide⟩
      · rw [if_neg c3]
        left
        refine ⟨by omega, ?_⟩
        rw [e]
        unfold rk
        rw [out (a + 1) (by omega)]
        simp only [Bool.false_eq_true, if_false]
        rw [if_neg (by omega)]
theorem cmp_next (a : Int) (ha : U a) (h : classS a ≠ 1) : cmpS a (nextS a) = -1 := by
  have hn : nan a = false := by have := class_nan a; cases e : nan a <;> simp_all
  rw [cmp_rk a _ ha (next_U a ha)]
  have := rk_next a ha hn
  rw [if_pos (by omega)]
theorem cmp_between (a b : Int) (ha : U a) (hb : U b) (h : cmpS a b = -1) : ¬ 0 < cmpS (nextS a) b := by
  rw [cmp_rk a b ha hb] at h
  have h' : rk a < rk b := by revert h; repeat' split; all_goals omega
  rw [cmp_rk _ b (next_U a ha) hb]
  cases na : nan a
  · have := rk_next a ha na
    have hb' : rk b ≤ 9218868437227405312 ∨ rk b = 9223372036854775808 := by
      cases nb : nan b
      · left; exact (rk_num b hb nb).1
      · right; exact rk_nan b nb
    repeat' split
    all_goals omega
  · have := rk_nan a na
    cases nb : nan b
    · have := rk_num b hb nb; omega
    · have := rk_nan b nb; omega
theorem less_nan (a b : Int) (h : classS a = 1 ∨ classS b = 1) : lessS a b = false ∧ eqS a b = false := by
  rw [class_nan, class_nan] at h
  unfold lessS eqS
  rcases h with h | h <;> simp [h]
theorem less_cmp (a b : Int) (ha : U a) (hb : U b) (h1 : classS a ≠ 1) (h2 : classS b ≠ 1) (hz : ¬ (classS a = 3 ∧ classS b = 3)) : lessS a b = decide (cmpS a b = -1) ∧ eqS a b = decide (cmpS a b = 0) := by
  rw [class_zero a ha, class_zero b hb] at hz
  have n1 : nan a = false := by have := class_nan a; cases e : nan a <;> simp_all
  have n2 : nan b = false := by have := class_nan b; cases e : nan b <;> simp_all
  obtain ⟨_, _⟩ := ha; obtain ⟨_, _⟩ := hb
  unfold lessS eqS cmpS srI
  simp only [n1, n2, Bool.false_eq_true, if_false, Bool.not_false, Bool.true_and, decide_eq_decide]
  constructor
  · repeat' split
    all_goals omega
  · repeat' split
    all_goals omega
theorem less_zeros (a b : Int) (ha : U a) (hb : U b) (hz : classS a = 3 ∧ classS b = 3) : lessS a b = false ∧ eqS a b = true := by
  rw [class_zero a ha, class_zero b hb] at hz
  obtain ⟨h1 | h1, h2 | h2⟩ := hz <;> subst h1 <;> subst h2 <;> decide

theorem wf_U {a : Int} (h : (Lit.int .u64 a).wf = true) : U a := by
  simp only [Lit.wf, Bool.and_eq_true, decide_eq_true_eq] at h
  exact ⟨by simpa [IntKind.min, IntKind.signed] using h.1, by have := h.2; simp [IntKind.max, IntKind.signed, IntKind.bits] at this; omega⟩
end Go.Proofs.YtfegnjpajflnkaaDoor
