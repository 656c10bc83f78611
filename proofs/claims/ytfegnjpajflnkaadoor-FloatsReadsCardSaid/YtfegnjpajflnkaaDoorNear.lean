/- Plain facts on rounding: a number that a double holds is written as that double; nothing but zero is rounded to zero. -/
import Derived.Test.YtfegnjpajflnkaaDoorOrd
namespace Go.Proofs.YtfegnjpajflnkaaDoor
namespace Fl
set_option linter.unusedSimpArgs false
set_option linter.unusedVariables false

theorem log2_mul_pow (m k : Nat) (h : m ≠ 0) : (m * 2 ^ k).log2 = m.log2 + k := by
  induction k with
  | zero => simp
  | succ k ih =>
    rw [Nat.pow_succ, ← Nat.mul_assoc, Nat.mul_comm _ 2, Nat.log2_two_mul, ih]
    · omega
    · have := Nat.two_pow_pos k
      exact Nat.mul_ne_zero h (by omega)

theorem cut_exact (neg : Bool) (k d : Nat) : Ieee.Toward.even.cut neg (k * 2 ^ d) d = k := by
  unfold Ieee.Toward.cut
  by_cases hk : k = 0
  · subst hk; simp
  · have hm : min d ((k * 2 ^ d).log2 + 2) = d := by
      rw [log2_mul_pow k d hk]; omega
    simp only [hm, Nat.shiftLeft_eq, Nat.one_mul]
    have hp := Nat.two_pow_pos d
    rw [Nat.mul_div_cancel _ hp, Nat.mul_mod_left]
    have : ¬ (2 ^ d < 2 * 0) := by omega
    have h2 : (2 ^ d == 2 * 0) = false := by simp
    simp [h2]

theorem word_f (neg : Bool) (r : Nat) : Ieee.double.word neg r = if neg then 9223372036854775808 + r else r := by
  unfold Ieee.Format.word
  rw [signWeight_eq]

theorem mag_pos (r : Nat) (h : r ≠ 0) : mag r ≠ 0 := by unfold mag; split <;> omega
theorem mag_lt (r : Nat) : mag r < 9007199254740992 := by unfold mag; split <;> omega
theorem rung_eq (r : Nat) : ex r * 4503599627370496 + mag r = r := by unfold ex mag; split <;> omega
theorem mag_log2 (r : Nat) (h : 4503599627370496 ≤ r) : (mag r).log2 = 52 := by
  unfold mag
  rw [if_neg (by omega)]
  rw [Nat.log2_eq_iff (by omega)]
  omega
theorem mag_log2_small (r : Nat) (h : r < 4503599627370496) (h0 : r ≠ 0) : (mag r).log2 < 52 := by
  unfold mag
  rw [if_pos h, Nat.log2_lt h0]
  exact h

/-- The place of the last digit, for a number that is a double's. -/
theorem max_ex (r : Nat) (h : r ≠ 0) : max ((mag r).log2 + (ex r : Int) - 52) 0 = (ex r : Int) := by
  by_cases c : r < 4503599627370496
  · have := mag_log2_small r c h
    have e : ex r = 0 := by unfold ex; rw [if_pos c]
    omega
  · have := mag_log2 r (by omega)
    omega

/-- A number that is a double's is written as that double. -/
theorem nearest_exact (neg : Bool) (M : Nat) (P : Int) (r u v : Nat) (hr : r < 9218868437227405312) (hp : P + 1074 + v = u) (h : M * 2 ^ u = val r * 2 ^ v) :
    Ieee.double.nearest neg M P = Ieee.double.word neg r := by
  unfold Ieee.Format.nearest
  by_cases hM : M = 0
  · subst hM
    have : val r = 0 := by
      rw [Nat.zero_mul] at h
      rcases Nat.mul_eq_zero.1 h.symm with h | h
      · exact h
      · have := Nat.two_pow_pos v; omega
    have : r = 0 := by rw [← val_zero] at this; exact val_inj.1 this
    subst this
    simp
  · rw [if_neg hM]
    have hr0 : r ≠ 0 := by
      rintro rfl
      rw [val_zero, Nat.zero_mul] at h
      rcases Nat.mul_eq_zero.1 h with h | h
      · exact hM h
      · have := Nat.two_pow_pos u; omega
    have hm0 := mag_pos r hr0
    have hv : val r = mag r * 2 ^ ex r := rfl
    have hl : M.log2 + u = (mag r).log2 + ex r + v := by
      have e1 := log2_mul_pow M u hM
      rw [h, hv, Nat.mul_assoc, ← Nat.pow_add, log2_mul_pow _ _ hm0] at e1
      omega
    have hlast : max (P + M.log2 - Ieee.double.fractionBits) Ieee.double.leastPlace = (ex r : Int) - 1074 := by
      have := max_ex r hr0
      rw [leastPlace_eq, show ((Ieee.double.fractionBits : Nat) : Int) = 52 from rfl]
      omega
    simp only [hlast]
    have e3 : (((ex r : Int) - 1074 - Ieee.double.leastPlace).toNat) = ex r := by rw [leastPlace_eq]; omega
    rw [e3, binade_eq, infRung_eq]
    have key : Ieee.Toward.even.cut neg (M <<< (P - ((ex r : Int) - 1074)).toNat) ((ex r : Int) - 1074 - P).toNat = mag r := by
      rw [Nat.shiftLeft_eq]
      by_cases c : (ex r : Int) - 1074 ≤ P
      · have e : ((ex r : Int) - 1074 - P).toNat = 0 := by omega
        rw [e]
        have ek : M * 2 ^ (P - ((ex r : Int) - 1074)).toNat = mag r := by
          have hu : u = (P - ((ex r : Int) - 1074)).toNat + (ex r + v) := by omega
          have hp2 := Nat.two_pow_pos (ex r + v)
          rw [hu, Nat.pow_add, ← Nat.mul_assoc, hv, Nat.mul_assoc (mag r), ← Nat.pow_add] at h
          exact Nat.eq_of_mul_eq_mul_right hp2 h
        rw [ek]
        have := cut_exact neg (mag r) 0
        rwa [Nat.pow_zero, Nat.mul_one] at this
      · have e : (P - ((ex r : Int) - 1074)).toNat = 0 := by omega
        rw [e, Nat.pow_zero, Nat.mul_one]
        have ek : M = mag r * 2 ^ ((ex r : Int) - 1074 - P).toNat := by
          have hu : ex r + v = ((ex r : Int) - 1074 - P).toNat + u := by omega
          have hp2 := Nat.two_pow_pos u
          rw [hv, Nat.mul_assoc, ← Nat.pow_add, hu, Nat.pow_add, ← Nat.mul_assoc] at h
          exact Nat.eq_of_mul_eq_mul_right hp2 h
        rw [ek]
        exact cut_exact neg _ _
    rw [key]
    have := rung_eq r
    rw [this, Nat.min_eq_left (by omega)]

/-- The rung to which a number is rounded. -/
def rung (M : Nat) (P : Int) : Nat := if M = 0 then 0 else min ((max (P + M.log2 - 52) (-1074) + 1074).toNat * 4503599627370496 + Ieee.Toward.even.cut false (M <<< (P - max (P + M.log2 - 52) (-1074)).toNat) (max (P + M.log2 - 52) (-1074) - P).toNat) 9218868437227405312
theorem cut_sign (neg : Bool) (n d : Nat) : Ieee.Toward.even.cut neg n d = Ieee.Toward.even.cut false n d := rfl
theorem nearest_rung (neg : Bool) (M : Nat) (P : Int) : Ieee.double.nearest neg M P = Ieee.double.word neg (rung M P) := by
  unfold Ieee.Format.nearest rung
  by_cases hM : M = 0
  · rw [if_pos hM, if_pos hM]
  · rw [if_neg hM, if_neg hM]
    simp only [binade_eq, infRung_eq, leastPlace_eq, cut_sign neg, show ((Ieee.double.fractionBits : Nat) : Int) = 52 from rfl, Int.sub_neg]
theorem rung_le (M : Nat) (P : Int) : rung M P ≤ 9218868437227405312 := by
  unfold rung
  split
  · omega
  · exact Nat.min_le_right _ _
theorem rung_zero (M : Nat) (P : Int) (hP : -1074 ≤ P) : rung M P = 0 ↔ M = 0 := by
  unfold rung
  by_cases hM : M = 0
  · simp [hM]
  · rw [if_neg hM]
    refine ⟨fun h => ?_, fun h => absurd h hM⟩
    exfalso
    by_cases c : P + M.log2 - 52 ≤ -1074
    · have e : max (P + M.log2 - 52) (-1074) = -1074 := by omega
      rw [e] at h
      have e2 : ((-1074 : Int) - P).toNat = 0 := by omega
      rw [e2] at h
      have e3 := cut_exact false (M <<< (P - -1074).toNat) 0
      rw [Nat.pow_zero, Nat.mul_one] at e3
      rw [e3, Nat.shiftLeft_eq] at h
      have := Nat.two_pow_pos (P - -1074).toNat
      have h5 : 0 < M * 2 ^ (P - -1074).toNat := Nat.mul_pos (by omega) this
      omega
    · have e : max (P + M.log2 - 52) (-1074) = P + M.log2 - 52 := by omega
      rw [e] at h
      generalize Ieee.Toward.even.cut _ _ _ = z at h
      omega
theorem rung_exact (M : Nat) (P : Int) (r u v : Nat) (hr : r < 9218868437227405312) (hp : P + 1074 + v = u) (h : M * 2 ^ u = val r * 2 ^ v) : rung M P = r := by
  have h1 := nearest_exact false M P r u v hr hp h
  rw [nearest_rung, word_f, word_f] at h1
  simpa using h1

/-- What is below 2^53, times a power of two that fits, is a double's. -/
theorem val_of (m t : Nat) (hm : m < 9007199254740992) (ht : t ≤ 2045) : ∃ r, r < 9218868437227405312 ∧ val r = m * 2 ^ t := by
  by_cases h0 : m = 0
  · subst h0; exact ⟨0, by omega, by rw [val_zero, Nat.zero_mul]⟩
  have hl : m.log2 ≤ 52 := by
    have := (Nat.log2_lt h0 (k := 53)).2 (by omega)
    omega
  by_cases c : t + m.log2 < 52
  · refine ⟨m * 2 ^ t, ?_, ?_⟩
    · have : m * 2 ^ t < 2 ^ 52 := by
        rw [← Nat.log2_lt (Nat.mul_ne_zero h0 (by have := Nat.two_pow_pos t; omega)), log2_mul_pow m t h0]
        omega
      omega
    · have : m * 2 ^ t < 4503599627370496 := by
        have : m * 2 ^ t < 2 ^ 52 := by
          rw [← Nat.log2_lt (Nat.mul_ne_zero h0 (by have := Nat.two_pow_pos t; omega)), log2_mul_pow m t h0]
          omega
        omega
      unfold val mag ex
      rw [if_pos this, if_pos this]
      omega
  · obtain ⟨q, hq⟩ : ∃ q, q + 52 = t + m.log2 := ⟨t + m.log2 - 52, by omega⟩
    obtain ⟨d, hd⟩ : ∃ d, d + m.log2 = 52 := ⟨52 - m.log2, by omega⟩
    have b1 : 2 ^ 52 ≤ m * 2 ^ d := by
      have := (Nat.le_log2 (n := m * 2 ^ d) (k := 52) (Nat.mul_ne_zero h0 (by have := Nat.two_pow_pos d; omega))).1 (by rw [log2_mul_pow m d h0]; omega)
      exact this
    have b2 : m * 2 ^ d < 2 ^ 53 := by
      rw [← Nat.log2_lt (Nat.mul_ne_zero h0 (by have := Nat.two_pow_pos d; omega)), log2_mul_pow m d h0]
      omega
    generalize hz : m * 2 ^ d = z at *
    have b3 : 4503599627370496 ≤ z := b1
    have b4 : z < 9007199254740992 := b2
    refine ⟨q * 4503599627370496 + z, by omega, ?_⟩
    have e1 : (q * 4503599627370496 + z) / 4503599627370496 = q + 1 := by omega
    have e2 : (q * 4503599627370496 + z) % 4503599627370496 = z - 4503599627370496 := by omega
    unfold val mag ex
    rw [if_neg (by omega), if_neg (by omega), e1, e2]
    have e3 : 4503599627370496 + (z - 4503599627370496) = z := by omega
    rw [e3, Nat.add_sub_cancel, ← hz, Nat.mul_assoc, ← Nat.pow_add]
    rw [show d + q = t by omega]
end Fl
end Go.Proofs.YtfegnjpajflnkaaDoor
