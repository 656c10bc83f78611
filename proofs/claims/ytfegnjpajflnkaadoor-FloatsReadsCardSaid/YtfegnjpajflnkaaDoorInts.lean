/- Whole numbers and doubles: what ToInt answers; small whole numbers come back. -/
import Derived.Test.YtfegnjpajflnkaaDoorMeas
import Derived.Laws.FloatArith
namespace Go.Proofs.YtfegnjpajflnkaaDoor
open Go.RowKit Fl
set_option linter.unusedSimpArgs false
set_option linter.unusedVariables false

/-- One, in units of the least place. -/
def K : Nat := 2 ^ ((0 : Int) + 1074).toNat
theorem K_pos : 0 < K := Nat.two_pow_pos _
theorem K_eq (a b : Nat) (h : a + b = 1074) : K = 2 ^ a * 2 ^ b := by
  have e : ((0 : Int) + 1074).toNat = a + b := by omega
  unfold K
  rw [e, Nat.pow_add]

theorem cut_zero (neg : Bool) (n d : Nat) : Ieee.Toward.zero.cut neg n d = n / 2 ^ d := by
  unfold Ieee.Toward.cut
  simp only [Nat.shiftLeft_eq, Nat.one_mul, Bool.toNat_false, Nat.add_zero]
  by_cases h : d ≤ n.log2 + 2
  · rw [Nat.min_eq_left h]
  · rw [Nat.min_eq_right (by omega)]
    have h1 : n < 2 ^ (n.log2 + 2) := Nat.lt_of_lt_of_le Nat.lt_log2_self (Nat.pow_le_pow_right (by decide) (by omega))
    have h2 : n < 2 ^ d := Nat.lt_of_lt_of_le h1 (Nat.pow_le_pow_right (by decide) (by omega))
    rw [Nat.div_eq_of_lt h1, Nat.div_eq_of_lt h2]

/-- What stands ahead of the point. -/
def tr (r : Nat) : Nat := val r / K
theorem tr_cut (neg : Bool) (r : Nat) : Ieee.Toward.zero.cut neg (mag r <<< (-1074 + (ex r : Nat) : Int).toNat) (-(-1074 + (ex r : Nat) : Int)).toNat = tr r := by
  rw [cut_zero, Nat.shiftLeft_eq]
  unfold tr val
  by_cases c : 1074 ≤ ex r
  · have e1 : (-(-1074 + (ex r : Nat) : Int)).toNat = 0 := by omega
    rw [e1, Nat.pow_zero, Nat.div_one]
    have e4 : mag r * 2 ^ ex r = mag r * 2 ^ (-1074 + (ex r : Nat) : Int).toNat * K := by
      have e5 : (-1074 + (ex r : Nat) : Int).toNat + ((0 : Int) + 1074).toNat = ex r := by omega
      unfold K
      rw [Nat.mul_assoc, ← Nat.pow_add, e5]
    rw [e4, Nat.mul_div_cancel _ K_pos]
  · have e1 : (-1074 + (ex r : Nat) : Int).toNat = 0 := by omega
    have e3 := K_eq (-(-1074 + (ex r : Nat) : Int)).toNat (ex r) (by omega)
    rw [e1, Nat.pow_zero, Nat.mul_one, e3, Nat.mul_div_mul_right _ _ (Nat.two_pow_pos _)]

def okI (a : Int) : Bool := !nan a && decide (-4890909195324358656 ≤ srI a) && decide (srI a < 4890909195324358656)
def toI (a : Int) : Int := if okI a then (if 9223372036854775808 ≤ a then -((tr (a % 9223372036854775808).toNat : Nat) : Int) else ((tr (a % 9223372036854775808).toNat : Nat) : Int)) else 0
def toE (a : Int) : Int := if okI a then 0 else 82

theorem val_63 : val 4890909195324358656 = 9223372036854775808 * K := by decide +kernel
theorem tr_lt (r : Nat) (h : r < 4890909195324358656) : tr r < 9223372036854775808 := by
  have := val_lt h
  rw [val_63] at this
  unfold tr
  exact (Nat.div_lt_iff_lt_mul K_pos).2 this
theorem tr_63 : tr 4890909195324358656 = 9223372036854775808 := by
  unfold tr
  rw [val_63, Nat.mul_div_cancel _ K_pos]

theorem conv_ok (a : Int) (ha : U a) (h : okI a = true) : floatToIntVal .f64 a.toNat .i64 = some (toI a) := by
  have h' := h
  simp only [okI, Bool.and_eq_true, decide_eq_true_eq, Bool.not_eq_true'] at h'
  obtain ⟨⟨hn, h1⟩, h2⟩ := h'
  obtain ⟨g0, g1⟩ := ha
  have hn' := hn
  simp only [nan, decide_eq_false_iff_not] at hn'
  generalize hR : (a % 9223372036854775808).toNat = R
  have hR2 : a.toNat % 9223372036854775808 = R := by omega
  have hb : R ≤ 4890909195324358656 ∧ (a < 9223372036854775808 → R < 4890909195324358656) := by
    unfold srI at h1 h2
    split at h1 <;> split at h2 <;> omega
  have ht : tr R ≤ 9223372036854775808 ∧ (a < 9223372036854775808 → tr R < 9223372036854775808) := by
    by_cases c : R = 4890909195324358656
    · rw [c, tr_63]; omega
    · have := tr_lt R (by omega); omega
  have e : toI a = if 9223372036854775808 ≤ a then -((tr R : Nat) : Int) else ((tr R : Nat) : Int) := by
    unfold toI
    rw [if_pos h, hR]
  have er : (FloatKind.f64.decode a.toNat).toInt .zero = some (toI a) := by
    unfold FloatKind.decode
    change (Ieee.double.read a.toNat).toInt .zero = _
    rw [read_fin a.toNat (by omega), hR2]
    simp only [Ieee.Datum.toInt, Ieee.Datum.integral]
    rw [tr_cut, signed_eq, e]
    by_cases c : 9223372036854775808 ≤ a
    · have e2 : a.toNat / 9223372036854775808 % 2 = 1 := by omega
      rw [if_pos c, e2]
      simp
    · have e2 : a.toNat / 9223372036854775808 % 2 = 0 := by omega
      rw [if_neg c, e2]
      simp
  unfold floatToIntVal
  rw [er]
  simp only
  rw [if_pos]
  rw [e]
  have m1 : IntKind.min .i64 = -9223372036854775808 := by decide
  have m2 : IntKind.max .i64 = 9223372036854775807 := by decide
  rw [m1, m2]
  split <;> omega

theorem toInt_any (a : Int) (ha : U a) (w : World) :
    Calls Tryd.prog 11 #[.int .u64 a] w fun e w' => e = .returned (.tuple #[.int .i64 (toI a), .int .i64 (toE a)]) ∧ w = w' := by
  have hf := run_frombits
  have u1 : U 14114281232179134464 := ⟨by omega, by omega⟩
  have u2 : U 4890909195324358656 := ⟨by omega, by omega⟩
  have k1 : (FloatKind.f64.format.order a.toNat 14114281232179134464 == some .gt || FloatKind.f64.format.order a.toNat 14114281232179134464 == some .eq) = (lessS 14114281232179134464 a || eqS a 14114281232179134464) := by
    rw [← ord_gt a 14114281232179134464 ha u1, ← ord_eq a 14114281232179134464 ha u1]
    rfl
  have k2 : (FloatKind.f64.format.order a.toNat 4890909195324358656 == some .lt) = lessS a 4890909195324358656 := ord_lt a 4890909195324358656 ha u2
  have v1 : lessS 14114281232179134464 a = (!nan a && decide (-4890909195324358656 < srI a)) := by
    unfold lessS
    rw [show nan 14114281232179134464 = false by decide, show srI 14114281232179134464 = -4890909195324358656 by decide]
    simp
  have v2 : eqS a 14114281232179134464 = (!nan a && decide (srI a = -4890909195324358656)) := by
    unfold eqS
    rw [show nan 14114281232179134464 = false by decide, show srI 14114281232179134464 = -4890909195324358656 by decide]
    simp
  have v3 : lessS a 4890909195324358656 = (!nan a && decide (srI a < 4890909195324358656)) := by
    unfold lessS
    rw [show nan 4890909195324358656 = false by decide, show srI 4890909195324358656 = 4890909195324358656 by decide]
    simp
  rw [v1, v2] at k1
  rw [v3] at k2
  by_cases ok : okI a = true
  · have hcv := fun w => run_convert_float_int (P := Tryd.prog) w 42 2 .f64 .i64 a.toNat (toI a) (by rw [Tryd.underlying42]; rfl) Tryd.underlying2 (conv_ok a ha ok)
    have e : toE a = 0 := by simp [toE, ok]
    have ok' := ok
    simp only [okI, Bool.and_eq_true, decide_eq_true_eq, Bool.not_eq_true'] at ok'
    obtain ⟨⟨hn, h1⟩, h2⟩ := ok'
    have t1 : (!nan a && decide (-4890909195324358656 < srI a) || !nan a && decide (srI a = -4890909195324358656)) = true := by
      rw [hn]; simp; omega
    have t2 : (!nan a && decide (srI a < 4890909195324358656)) = true := by rw [hn]; simp [h2]
    rw [t1] at k1; rw [t2] at k2; rw [e]
    clear v1 v2 v3 t1 t2 h1 h2 hn ok e u1 u2 ha
    go_enter Tryd.func11, Tryd.ntmps11
    go_wp2
    go_ret2
    exact ⟨rfl, rfl⟩
  · have e : toE a = 82 := by simp [toE, ok]
    have e2 : toI a = 0 := by simp [toI, ok]
    rw [e, e2]
    by_cases c1 : (!nan a && decide (-4890909195324358656 < srI a) || !nan a && decide (srI a = -4890909195324358656)) = true
    · have t2 : (!nan a && decide (srI a < 4890909195324358656)) = false := by
        cases hn : nan a
        · simp [okI, hn] at ok c1 ⊢
          omega
        · simp [hn] at c1
      rw [c1] at k1; rw [t2] at k2
      clear v1 v2 v3 t2 c1 ok e e2 u1 u2 ha
      go_enter Tryd.func11, Tryd.ntmps11
      go_wp2
      go_ret2
      exact ⟨rfl, rfl⟩
    · have c2 : (!nan a && decide (-4890909195324358656 < srI a) || !nan a && decide (srI a = -4890909195324358656)) = false := by simpa using c1
      rw [c2] at k1
      clear v1 v2 v3 c1 c2 ok e e2 u1 u2 ha k2
      go_enter Tryd.func11, Tryd.ntmps11
      go_wp2
      go_ret2
      exact ⟨rfl, rfl⟩
end Go.Proofs.YtfegnjpajflnkaaDoor
