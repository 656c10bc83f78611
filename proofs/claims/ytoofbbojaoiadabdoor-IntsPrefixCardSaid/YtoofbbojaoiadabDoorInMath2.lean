/- Plain mathematics: quotients and rests of whole numbers of 64 bits. -/
import Derived.Test.YtoofbbojaoiadabDoorInMath
import Derived.WalkKit
import Derived.RowKit3
namespace Go.Proofs.YtoofbbojaoiadabDoor
open Go.RowKit
set_option linter.unusedSimpArgs false
set_option linter.unusedVariables false

theorem wrap64_I {z : Int} (h : I64 z) : wrap64 z = z := by
  obtain ⟨_, _⟩ := h
  unfold wrap64
  omega
theorem wrap64_far (z : Int) : ∃ k : Int, wrap64 z = z + 18446744073709551616 * k ∧ I64 (wrap64 z) := by
  unfold wrap64 I64
  exact ⟨-((z + 9223372036854775808) / 18446744073709551616), by omega, by omega, by omega⟩

theorem tdiv_I (a b : Int) (ha : I64 a) (hb : b ≠ 0) (h : ¬ (a = -9223372036854775808 ∧ b = -1)) : I64 (a.tdiv b) := by
  obtain ⟨a0, a1⟩ := ha
  by_cases c1 : b = 1
  · subst c1; rw [Int.tdiv_one]; exact ⟨a0, a1⟩
  by_cases c2 : b = -1
  · subst c2
    rw [Int.tdiv_neg, Int.tdiv_one]
    exact ⟨by omega, by omega⟩
  have e : (a.tdiv b).natAbs = a.natAbs / b.natAbs := Int.natAbs_tdiv a b
  have : a.natAbs / b.natAbs ≤ a.natAbs / 2 := Nat.div_le_div_left (by omega) (by omega)
  unfold I64
  rw [← e] at this
  omega
theorem tmod_lt (a b : Int) (hb : b ≠ 0) : (a.tmod b).natAbs < b.natAbs := by
  rw [Int.natAbs_tmod]
  exact Nat.mod_lt _ (by omega)
theorem tmod_I (a b : Int) (ha : I64 a) (hb : I64 b) : I64 (a.tmod b) := by
  obtain ⟨a0, a1⟩ := ha
  obtain ⟨b0, b1⟩ := hb
  by_cases c : b = 0
  · subst c; rw [Int.tmod_zero]; exact ⟨a0, a1⟩
  have := tmod_lt a b c
  exact ⟨by omega, by omega⟩
theorem tmod_sign (a b : Int) : (0 ≤ a → 0 ≤ a.tmod b) ∧ (a ≤ 0 → a.tmod b ≤ 0) := by
  constructor
  · intro h; exact Int.tmod_nonneg b h
  · intro h
    have := Int.tmod_nonneg b (show 0 ≤ -a by omega)
    rw [Int.neg_tmod] at this
    omega
theorem tmod_m1 (a : Int) : a.tmod (-1) = 0 := by
  rw [Int.tmod_neg, Int.tmod_one]

/-- The product is one of 64 bits just where the wrapped one, divided, gives the factor back. -/
theorem mul_back (a b : Int) (ha : I64 a) (hb : I64 b) (hb0 : b ≠ 0) (h1 : ¬ (b = -1 ∧ a = -9223372036854775808)) : (wrap64 (a * b)).tdiv b = a ↔ I64 (a * b) := by
  constructor
  · intro h
    obtain ⟨k, hk, hI⟩ := wrap64_far (a * b)
    have hd := Int.mul_tdiv_add_tmod (wrap64 (a * b)) b
    rw [h] at hd
    have hlt := tmod_lt (wrap64 (a * b)) b hb0
    have hbb : b.natAbs ≤ 9223372036854775808 := by obtain ⟨_, _⟩ := hb; omega
    rw [Int.mul_comm b a] at hd
    have : k = 0 := by omega
    subst this
    rw [hk, Int.mul_zero, Int.add_zero] at hI
    exact hI
  · intro h
    rw [wrap64_I h]
    exact Int.mul_tdiv_cancel a hb0
end Go.Proofs.YtoofbbojaoiadabDoor
