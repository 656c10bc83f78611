/- Plain mathematics: whole numbers of 64 bits, reckoned in two words. -/
import Derived.Test.YtoofbbojaoiadabDoorInDec
namespace Go.Proofs.YtoofbbojaoiadabDoor
set_option linter.unusedSimpArgs false
set_option linter.unusedVariables false

/-- A whole number of 64 bits. -/
def I64 (a : Int) : Prop := -9223372036854775808 ≤ a ∧ a ≤ 9223372036854775807
def fit (z : Int) : Bool := decide (-9223372036854775808 ≤ z) && decide (z ≤ 9223372036854775807)
def fitV (z : Int) : Int := if fit z then z else 0
def fitE (z : Int) : Int := if fit z then 0 else 80
theorem fit_iff (z : Int) : fit z = true ↔ I64 z := by unfold fit I64; simp
theorem fitV_in {z : Int} (h : I64 z) : fitV z = z ∧ fitE z = 0 := by
  have := (fit_iff z).2 h
  simp [fitV, fitE, this]
theorem fitV_out {z : Int} (h : ¬ I64 z) : fitV z = 0 ∧ fitE z = 80 := by
  have : fit z = false := by cases h2 : fit z <;> simp_all [fit_iff]
  simp [fitV, fitE, this]
theorem fitV_I (z : Int) : I64 (fitV z) := by
  by_cases h : I64 z
  · rw [(fitV_in h).1]; exact h
  · rw [(fitV_out h).1]; exact ⟨by omega, by omega⟩
theorem fitE_zero (z : Int) : fitE z = 0 ↔ I64 z := by
  by_cases h : I64 z
  · simp [(fitV_in h).2, h]
  · simp [(fitV_out h).2, h]
/-- The word above a number's own. -/
def swS (a : Int) : Int := if a < 0 then 18446744073709551615 else 0

theorem narrow_math (z hi lo v : Int) (h1 : -85070591730234615865843651857942052864 ≤ z) (h2 : z ≤ 85070591730234615865843651857942052864) (hh : hi = z / 18446744073709551616 % 18446744073709551616) (hl : lo = z % 18446744073709551616)
    (hv : v = (if lo < 9223372036854775808 then lo else lo - 18446744073709551616)) : (hi = swS v ↔ I64 z) ∧ (I64 z → v = z) := by
  unfold swS I64
  subst hh hl
  split at hv <;> subst hv <;> split <;> constructor <;> omega

theorem add_math (a b : Int) (ha : I64 a) (hb : I64 b) :
    (swS a + swS b + (a % 18446744073709551616 + b % 18446744073709551616) / 18446744073709551616) % 18446744073709551616 = (a + b) / 18446744073709551616 % 18446744073709551616 ∧ (a % 18446744073709551616 + b % 18446744073709551616) % 18446744073709551616 = (a + b) % 18446744073709551616 := by
  obtain ⟨_, _⟩ := ha
  obtain ⟨_, _⟩ := hb
  unfold swS
  split <;> split <;> constructor <;> omega
theorem sub_math (a b : Int) (ha : I64 a) (hb : I64 b) :
    (swS a + 18446744073709551616 - swS b - (if a % 18446744073709551616 < b % 18446744073709551616 then 1 else 0)) % 18446744073709551616 = (a - b) / 18446744073709551616 % 18446744073709551616 ∧ (a % 18446744073709551616 + 18446744073709551616 - b % 18446744073709551616) % 18446744073709551616 = (a - b) % 18446744073709551616 := by
  obtain ⟨_, _⟩ := ha
  obtain ⟨_, _⟩ := hb
  unfold swS
  split <;> split <;> split <;> constructor <;> omega

theorem prod_bound (a b : Int) (ha : I64 a) (hb : I64 b) : -85070591730234615865843651857942052864 ≤ a * b ∧ a * b ≤ 85070591730234615865843651857942052864 := by
  obtain ⟨_, _⟩ := ha
  obtain ⟨_, _⟩ := hb
  have h : (a * b).natAbs ≤ 9223372036854775808 * 9223372036854775808 := by
    rw [Int.natAbs_mul]
    exact Nat.mul_le_mul (by omega) (by omega)
  omega

theorem mul_math (a b : Int) (ha : I64 a) (hb : I64 b) :
    ((a % 18446744073709551616) * (b % 18446744073709551616) / 18446744073709551616 - ((if a < 0 then b % 18446744073709551616 else 0) + (if b < 0 then a % 18446744073709551616 else 0))) % 18446744073709551616 = a * b / 18446744073709551616 % 18446744073709551616
    ∧ (a % 18446744073709551616) * (b % 18446744073709551616) % 18446744073709551616 = a * b % 18446744073709551616 := by
  obtain ⟨_, _⟩ := ha
  obtain ⟨_, _⟩ := hb
  by_cases c1 : a < 0 <;> by_cases c2 : b < 0
  · rw [if_pos c1, if_pos c2]
    have e1 : a % 18446744073709551616 = a + 18446744073709551616 := by omega
    have e2 : b % 18446744073709551616 = b + 18446744073709551616 := by omega
    rw [e1, e2, Int.add_mul, Int.mul_add, Int.mul_add]
    generalize a * b = p
    constructor <;> omega
  · rw [if_pos c1, if_neg c2]
    have e1 : a % 18446744073709551616 = a + 18446744073709551616 := by omega
    have e2 : b % 18446744073709551616 = b := by omega
    rw [e1, e2, Int.add_mul]
    generalize a * b = p
    constructor <;> omega
  · rw [if_neg c1, if_pos c2]
    have e1 : a % 18446744073709551616 = a := by omega
    have e2 : b % 18446744073709551616 = b + 18446744073709551616 := by omega
    rw [e1, e2, Int.mul_add]
    generalize a * b = p
    constructor <;> omega
  · rw [if_neg c1, if_neg c2]
    have e1 : a % 18446744073709551616 = a := by omega
    have e2 : b % 18446744073709551616 = b := by omega
    rw [e1, e2]
    generalize a * b = p
    constructor <;> omega
end Go.Proofs.YtoofbbojaoiadabDoor
