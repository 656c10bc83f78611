/- Floats: comparisons, the four operations, ToInt. -/
import Derived.Test.YtakkiipkmogagaaGreatFxA
namespace Go.Proofs.YtakkiipkmogagaaGreat.F
open Go.RowKit Fl
set_option linter.unusedSimpArgs false
set_option linter.unusedVariables false
set_option maxRecDepth 20000

/-- The bits of a result, one NaN for all. -/
def resS (r : Option Nat) : Int := match r with | some n => canonS n | none => 9221120237041090561
theorem canon_U (a : Int) (ha : U a) : U (canonS a) := by
  unfold canonS
  split
  · exact ⟨by omega, by omega⟩
  · exact ha
theorem res_U (op : BinOp) (x y : Nat) : U (resS (floatBits op .f64 x y)) := by
  cases h : floatBits op .f64 x y with
  | none => exact ⟨by simp [resS], by simp [resS]⟩
  | some r => exact canon_U _ (U_of_bits h)
theorem less_any (a b : Int) (ha : U a) (hb : U b) (w : World) :
    Calls Tryz.prog 208 #[.int .u64 a, .int .u64 b] w fun e w' => e = .returned (.bool (lessS a b)) ∧ w = w' := by
  have hf := run_frombits
  have k := ord_lt a b ha hb
  go_enter Tryz.func208, Tryz.ntmps208
  go_wp2
  go_ret
  exact ⟨rfl, rfl⟩
theorem equal_any (a b : Int) (ha : U a) (hb : U b) (w : World) :
    Calls Tryz.prog 207 #[.int .u64 a, .int .u64 b] w fun e w' => e = .returned (.bool (eqS a b)) ∧ w = w' := by
  have hf := run_frombits
  have k := ord_eq a b ha hb
  go_enter Tryz.func207, Tryz.ntmps207
  go_wp2
  go_ret
  exact ⟨rfl, rfl⟩
theorem lessEq_any (a b : Int) (ha : U a) (hb : U b) (w : World) :
    Calls Tryz.prog 209 #[.int .u64 a, .int .u64 b] w fun e w' => e = .returned (.bool (lessS a b || eqS a b)) ∧ w = w' := by
  have hf := run_frombits
  have k := ord_eq a b ha hb
  have k' := ord_lt a b ha hb
  go_enter Tryz.func209, Tryz.ntmps209
  go_wp2
  go_ret
  exact ⟨rfl, rfl⟩
theorem nan_draw (op : BinOp) (t : TypeId) (x y : Nat) (hop : op = .add ∨ op = .sub ∨ op = .mul ∨ op = .quo) (h : floatBits op .f64 x y = none) (w : World) :
    ∃ q : Int, U q ∧ nan q = true ∧ (binOp op t (.float .f64 x) (.float .f64 y)).run Tryz.prog w = .ok (.float .f64 q.toNat) w.drew := by
  have key : ∀ z : Nat, U (((Question.nanBits .f64 x y).cut z : Nat) : Int) ∧ nan (((Question.nanBits .f64 x y).cut z : Nat) : Int) = true := by
    intro z
    have h1 := Nat.mod_lt (z / 2) (show 0 < 4503599627370495 by decide)
    have h2 := Nat.mod_lt z (show 0 < 2 by decide)
    have e : (Question.nanBits .f64 x y).cut z = z % 2 * 9223372036854775808 + 9218868437227405312 + 1 + z / 2 % 4503599627370495 := rfl
    rw [e]
    generalize z / 2 % 4503599627370495 = u at h1 ⊢
    generalize z % 2 = v at h2 ⊢
    refine ⟨⟨by omega, by omega⟩, ?_⟩
    unfold nan
    exact decide_eq_true (by omega)
  refine ⟨((Question.nanBits .f64 x y).cut (w.tape w.drawn (Question.nanBits .f64 x y)) : Nat), (key _).1, (key _).2, ?_⟩
  rcases hop with rfl | rfl | rfl | rfl <;> simp only [floatBits] at h <;> simp [binOp, Op.floatArith, h, Question.forced]
theorem add_any (a b : Int) (w : World) :
    Calls Tryz.prog 196 #[.int .u64 a, .int .u64 b] w fun e w' => e = .returned (.int .u64 (resS (floatBits .add .f64 a.toNat b.toNat))) ∧ Grown w w' := by
  have hf := run_frombits
  cases hr : floatBits .add .f64 a.toNat b.toNat with
  | none =>
    obtain ⟨q, hq, hn, hrun⟩ := nan_draw .add 189 a.toNat b.toNat (by simp) hr w
    have hb := bitsOf_any q hq
    rw [show canonS q = 9221120237041090561 by simp [canonS, hn]] at hb
    simp only [resS]
    go_enter Tryz.func196, Tryz.ntmps196
    go_wp2_with (go_at_call 142; refine (hb _).mono ?_; rintro e w' ⟨rfl, rfl⟩)
    go_ret
    exact ⟨rfl, (Grown.refl _).drew⟩
  | some r =>
    have hrun := run_float_arith (P := Tryz.prog) w .add 189 .f64 a.toNat b.toNat r hr
    have hb := bitsOf_any r (U_of_bits hr)
    simp only [Int.toNat_natCast] at hb
    simp only [resS]
    go_enter Tryz.func196, Tryz.ntmps196
    go_wp2_with (go_at_call 142; refine (hb _).mono ?_; rintro e w' ⟨rfl, rfl⟩)
    go_ret
    exact ⟨rfl, Grown.refl _⟩
theorem sub_any (a b : Int) (w : World) :
    Calls Tryz.prog 197 #[.int .u64 a, .int .u64 b] w fun e w' => e = .returned (.int .u64 (resS (floatBits .sub .f64 a.toNat b.toNat))) ∧ Grown w w' := by
  have hf := run_frombits
  cases hr : floatBits .sub .f64 a.toNat b.toNat with
  | none =>
    obtain ⟨q, hq, hn, hrun⟩ := nan_draw .sub 189 a.toNat b.toNat (by simp) hr w
    have hb := bitsOf_any q hq
    rw [show canonS q = 9221120237041090561 by simp [canonS, hn]] at hb
    simp only [resS]
    go_enter Tryz.func197, Tryz.ntmps197
    go_wp2_with (go_at_call 142; refine (hb _).mono ?_; rintro e w' ⟨rfl, rfl⟩)
    go_ret
    exact ⟨rfl, (Grown.refl _).drew⟩
  | some r =>
    have hrun := run_float_arith (P := Tryz.prog) w .sub 189 .f64 a.toNat b.toNat r hr
    have hb := bitsOf_any r (U_of_bits hr)
    simp only [Int.toNat_natCast] at hb
    simp only [resS]
    go_enter Tryz.func197, Tryz.ntmps197
    go_wp2_with (go_at_call 142; refine (hb _).mono ?_; rintro e w' ⟨rfl, rfl⟩)
    go_ret
    exact ⟨rfl, Grown.refl _⟩
theorem mul_any (a b : Int) (w : World) :
    Calls Tryz.prog 198 #[.int .u64 a, .int .u64 b] w fun e w' => e = .returned (.int .u64 (resS (floatBits .mul .f64 a.toNat b.toNat))) ∧ Grown w w' := by
  have hf := run_frombits
  cases hr : floatBits .mul .f64 a.toNat b.toNat with
  | none =>
    obtain ⟨q, hq, hn, hrun⟩ := nan_draw .mul 189 a.toNat b.toNat (by simp) hr w
    have hb := bitsOf_any q hq
    rw [show canonS q = 9221120237041090561 by simp [canonS, hn]] at hb
    simp only [resS]
    go_enter Tryz.func198, Tryz.ntmps198
    go_wp2_with (go_at_call 142; refine (hb _).mono ?_; rintro e w' ⟨rfl, rfl⟩)
    go_ret
    exact ⟨rfl, (Grown.refl _).drew⟩
  | some r =>
    have hrun := run_float_arith (P := Tryz.prog) w .mul 189 .f64 a.toNat b.toNat r hr
    have hb := bitsOf_any r (U_of_bits hr)
    simp only [Int.toNat_natCast] at hb
    simp only [resS]
    go_enter Tryz.func198, Tryz.ntmps198
    go_wp2_with (go_at_call 142; refine (hb _).mono ?_; rintro e w' ⟨rfl, rfl⟩)
    go_ret
    exact ⟨rfl, Grown.refl _⟩
theorem div_any (a b : Int) (w : World) :
    Calls Tryz.prog 199 #[.int .u64 a, .int .u64 b] w fun e w' => e = .returned (.int .u64 (resS (floatBits .quo .f64 a.toNat b.toNat))) ∧ Grown w w' := by
  have hf := run_frombits
  cases hr : floatBits .quo .f64 a.toNat b.toNat with
  | none =>
    obtain ⟨q, hq, hn, hrun⟩ := nan_draw .quo 189 a.toNat b.toNat (by simp) hr w
    have hb := bitsOf_any q hq
    rw [show canonS q = 9221120237041090561 by simp [canonS, hn]] at hb
    simp only [resS]
    go_enter Tryz.func199, Tryz.ntmps199
    go_wp2_with (go_at_call 142; refine (hb _).mono ?_; rintro e w' ⟨rfl, rfl⟩)
    go_ret
    exact ⟨rfl, (Grown.refl _).drew⟩
  | some r =>
    have hrun := run_float_arith (P := Tryz.prog) w .quo 189 .f64 a.toNat b.toNat r hr
    have hb := bitsOf_any r (U_of_bits hr)
    simp only [Int.toNat_natCast] at hb
    simp only [resS]
    go_enter Tryz.func199, Tryz.ntmps199
    go_wp2_with (go_at_call 142; refine (hb _).mono ?_; rintro e w' ⟨rfl, rfl⟩)
    go_ret
    exact ⟨rfl, Grown.refl _⟩
theorem K_eq (a b : Nat) (h : a + b = 1074) : K = 2 ^ a * 2 ^ b := by
  have e : ((0 : Int) + 1074).toNat = a + b := by omega
  unfold K
  rw [e, Nat.pow_add]
theorem cut_zero (neg : Bool) (n d : Nat) : Ieee.Toward.zero.cut neg n d = n / 2 ^ d := by
  unfold Ieee.Toward.cut
  simp only [Nat.shiftLeft_eq, Nat.one_mul, Bool.toNat_false, Nat.add_zero]
  by_cases h : d ≤ n.log2 + 2
  · rw [Nat.min_eq_left h]
  · rw [Nat.min_eq_right (by omega)]
    have h1 : n < 2 ^ (n.log2 + 2) := Nat.lt_of_lt_of_le Nat.lt_log2_self (Nat.pow_le_pow_right (by decide) (by omega))
    have h2 : n < 2 ^ d := Nat.lt_of_lt_of_le h1 (Nat.pow_le_pow_right (by decide) (by omega))
    rw [Nat.div_eq_of_lt h1, Nat.div_eq_of_lt h2]
/-- What stands ahead of the point. -/
def tr (r : Nat) : Nat := val r / K
theorem tr_cut (neg : Bool) (r : Nat) : Ieee.Toward.zero.cut neg (mag r <<< (-1074 + (ex r : Nat) : Int).toNat) (-(-1074 + (ex r : Nat) : Int)).toNat = tr r := by
  rw [cut_zero, Nat.shiftLeft_eq]
  unfold tr val
  by_cases c : 1074 ≤ ex r
  · have e1 : (-(-1074 + (ex r : Nat) : Int)).toNat = 0 := by omega
    rw [e1, Nat.pow_zero, Nat.div_one]
    have e4 : mag r * 2 ^ ex r = mag r * 2 ^ (-1074 + (ex r : Nat) : Int).toNat * K := by
      have e5 : (-1074 + (ex r : Nat) : Int).toNat + ((0 : Int) + 1074).toNat = ex r := by omega
      unfold K
      rw [Nat.mul_assoc, ← Nat.pow_add, e5]
    rw [e4, Nat.mul_div_cancel _ K_pos]
  · have e1 : (-1074 + (ex r : Nat) : Int).toNat = 0 := by omega
    have e3 := K_eq (-(-1074 + (ex r : Nat) : Int)).toNat (ex r) (by omega)
    rw [e1, Nat.pow_zero, Nat.mul_one, e3, Nat.mul_div_mul_right _ _ (Nat.two_pow_pos _)]
def okI (a : Int) : Bool := !nan a && decide (-4890909195324358656 ≤ srI a) && decide (srI a < 4890909195324358656)
def toI (a : Int) : Int := if okI a then (if 9223372036854775808 ≤ a then -((tr (a % 9223372036854775808).toNat : Nat) : Int) else ((tr (a % 9223372036854775808).toNat : Nat) : Int)) else 0
def toE (a : Int) : Int := if okI a then 0 else 82
theorem val_63 : val 4890909195324358656 = 9223372036854775808 * K := by decide +kernel
theorem tr_lt (r : Nat) (h : r < 4890909195324358656) : tr r < 9223372036854775808 := by
  have := val_lt h
  rw [val_63] at this
  unfold tr
  exact (Nat.div_lt_iff_lt_mul K_pos).2 this
theorem tr_63 : tr 4890909195324358656 = 9223372036854775808 := by
  unfold tr
  rw [val_63, Nat.mul_div_cancel _ K_pos]
theorem conv_ok (a : Int) (ha : U a) (h : okI a = true) : floatToIntVal .f64 a.toNat .i64 = some (toI a) := by
  have h' := h
  simp only [okI, Bool.and_eq_true, decide_eq_true_eq, Bool.not_eq_true'] at h'
  obtain ⟨⟨hn, h1⟩, h2⟩ := h'
  obtain ⟨g0, g1⟩ := ha
  have hn' := hn
  simp only [nan, decide_eq_false_iff_not] at hn'
  generalize hR : (a % 9223372036854775808).toNat = R
  have hR2 : a.toNat % 9223372036854775808 = R := by omega
  have hb : R ≤ 4890909195324358656 ∧ (a < 9223372036854775808 → R < 4890909195324358656) := by
    unfold srI at h1 h2
    split at h1 <;> split at h2 <;> omega
  have ht : tr R ≤ 9223372036854775808 ∧ (a < 9223372036854775808 → tr R < 9223372036854775808) := by
    by_cases c : R = 4890909195324358656
    · rw [c, tr_63]; omega
    · have := tr_lt R (by omega); omega
  have e : toI a = if 9223372036854775808 ≤ a then -((tr R : Nat) : Int) else ((tr R : Nat) : Int) := by
    unfold toI
    rw [if_pos h, hR]
  have er : (FloatKind.f64.decode a.toNat).toInt .zero = some (toI a) := by
    unfold FloatKind.decode
    change (Ieee.double.read a.toNat).toInt .zero = _
    rw [read_fin a.toNat (by omega), hR2]
    simp only [Ieee.Datum.toInt, Ieee.Datum.integral]
    rw [tr_cut, signed_eq, e]
    by_cases c : 9223372036854775808 ≤ a
    · have e2 : a.toNat / 9223372036854775808 % 2 = 1 := by omega
      rw [if_pos c, e2]
      simp
    · have e2 : a.toNat / 9223372036854775808 % 2 = 0 := by omega
      rw [if_neg c, e2]
      simp
  unfold floatToIntVal
  rw [er]
  simp only
  rw [if_pos]
  rw [e]
  have m1 : IntKind.min .i64 = -9223372036854775808 := by decide
  have m2 : IntKind.max .i64 = 9223372036854775807 := by decide
  rw [m1, m2]
  split <;> omega
theorem toInt_any (a : Int) (ha : U a) (w : World) :
    Calls Tryz.prog 169 #[.int .u64 a] w fun e w' => e = .returned (.tuple #[.int .i64 (toI a), .int .i64 (toE a)]) ∧ w = w' := by
  have hf := run_frombits
  have u1 : U 14114281232179134464 := ⟨by omega, by omega⟩
  have u2 : U 4890909195324358656 := ⟨by omega, by omega⟩
  have k1 : (FloatKind.f64.format.order a.toNat 14114281232179134464 == some .gt || FloatKind.f64.format.order a.toNat 14114281232179134464 == some .eq) = (lessS 14114281232179134464 a || eqS a 14114281232179134464) := by
    rw [← ord_gt a 14114281232179134464 ha u1, ← ord_eq a 14114281232179134464 ha u1]
    rfl
  have k2 : (FloatKind.f64.format.order a.toNat 4890909195324358656 == some .lt) = lessS a 4890909195324358656 := ord_lt a 4890909195324358656 ha u2
  have v1 : lessS 14114281232179134464 a = (!nan a && decide (-4890909195324358656 < srI a)) := by
    unfold lessS
    rw [show nan 14114281232179134464 = false by decide, show srI 14114281232179134464 = -4890909195324358656 by decide]
    simp
  have v2 : eqS a 14114281232179134464 = (!nan a && decide (srI a = -4890909195324358656)) := by
    unfold eqS
    rw [show nan 14114281232179134464 = false by decide, show srI 14114281232179134464 = -4890909195324358656 by decide]
    simp
  have v3 : lessS a 4890909195324358656 = (!nan a && decide (srI a < 4890909195324358656)) := by
    unfold lessS
    rw [show nan 4890909195324358656 = false by decide, show srI 4890909195324358656 = 4890909195324358656 by decide]
    simp
  rw [v1, v2] at k1
  rw [v3] at k2
  by_cases ok : okI a = true
  · have hcv := fun w => run_convert_float_int (P := Tryz.prog) w 189 2 .f64 .i64 a.toNat (toI a) (by rw [Tryz.underlying189]; rfl) Tryz.underlying2 (conv_ok a ha ok)
    have e : toE a = 0 := by simp [toE, ok]
    have ok' := ok
    simp only [okI, Bool.and_eq_true, decide_eq_true_eq, Bool.not_eq_true'] at ok'
    obtain ⟨⟨hn, h1⟩, h2⟩ := ok'
    have t1 : (!nan a && decide (-4890909195324358656 < srI a) || !nan a && decide (srI a = -4890909195324358656)) = true := by
      rw [hn]; simp; omega
    have t2 : (!nan a && decide (srI a < 4890909195324358656)) = true := by rw [hn]; simp [h2]
    rw [t1] at k1; rw [t2] at k2; rw [e]
    clear v1 v2 v3 t1 t2 h1 h2 hn ok e u1 u2 ha
    go_enter Tryz.func169, Tryz.ntmps169
    go_wp2
    go_ret2
    exact ⟨rfl, rfl⟩
  · have e : toE a = 82 := by simp [toE, ok]
    have e2 : toI a = 0 := by simp [toI, ok]
    rw [e, e2]
    by_cases c1 : (!nan a && decide (-4890909195324358656 < srI a) || !nan a && decide (srI a = -4890909195324358656)) = true
    · have t2 : (!nan a && decide (srI a < 4890909195324358656)) = false := by
        cases hn : nan a
        · simp [okI, hn] at ok c1 ⊢
          omega
        · simp [hn] at c1
      rw [c1] at k1; rw [t2] at k2
      clear v1 v2 v3 t2 c1 ok e e2 u1 u2 ha
      go_enter Tryz.func169, Tryz.ntmps169
      go_wp2
      go_ret2
      exact ⟨rfl, rfl⟩
    · have c2 : (!nan a && decide (-4890909195324358656 < srI a) || !nan a && decide (srI a = -4890909195324358656)) = false := by simpa using c1
      rw [c2] at k1
      clear v1 v2 v3 c1 c2 ok e e2 u1 u2 ha k2
      go_enter Tryz.func169, Tryz.ntmps169
      go_wp2
      go_ret2
      exact ⟨rfl, rfl⟩
end Go.Proofs.YtakkiipkmogagaaGreat.F
