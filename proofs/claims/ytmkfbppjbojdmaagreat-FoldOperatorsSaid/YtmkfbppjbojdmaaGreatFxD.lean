/- The document's floats: comparisons, the four operations, Neg, FromInt, ToInt. -/
import Derived.Test.YtmkfbppjbojdmaaGreatFxC
namespace Go.Proofs.YtmkfbppjbojdmaaGreat.F
open Go.RowKit Fl
set_option linter.unusedSimpArgs false
set_option linter.unusedVariables false
set_option maxRecDepth 20000

theorem fin_of_class (a : Int) (ha : U a) (h : ¬ classS a < 3) : a.toNat % 9223372036854775808 < 9218868437227405312 ∧ nan a = false := by
  obtain ⟨_, _⟩ := ha
  unfold classS at h
  unfold nan
  simp only [decide_eq_false_iff_not]
  revert h
  repeat' split
  all_goals omega
theorem mag_lt (r : Nat) : mag r < 9007199254740992 := by unfold mag; split <;> omega
theorem fi_nan (n : Int) : nan (floatOfInt .f64 n : Nat) = false ∧ U (floatOfInt .f64 n : Nat) := by
  have := nan_word (decide (n < 0)) (rung n.natAbs 0) (rung_le _ _)
  rwa [← floatOfInt_eq] at this
theorem shl1 (a : Int) : IntKind.u64.wrap (a * 2) = a % 9223372036854775808 * 2 := by rw [IntKind.wrap_u64]; omega
theorem rcanon_any (a : Int) (ha : U a) (w : World) :
    Calls Tryz.prog 46 #[.int .u64 a] w fun e w' => e = .returned (.int .u64 (canonS a)) ∧ w = w' := by
  have k3 := and_exp (a / 4503599627370496) ⟨by obtain ⟨_, _⟩ := ha; omega, by obtain ⟨_, _⟩ := ha; omega⟩
  have k4 := shl12 a
  obtain ⟨h0, h1⟩ := ha
  go_enter Tryz.func46, Tryz.ntmps46
  go_wp2
  all_goals
    go_ret
    refine ⟨congrArg (fun z => Ending.returned (.int .u64 z)) ?_, rfl⟩
    try simp only [bne_iff_ne, beq_iff_eq, bne_eq_false_iff_eq, beq_eq_false_iff_ne, ne_eq] at *
    unfold canonS nan
    simp only [decide_eq_true_eq]
    split
    all_goals omega
theorem of_any (a : Int) (w : World) :
    Calls Tryz.prog 91 #[.int .u64 a] w fun e w' => e = .returned (.float .f64 a.toNat) ∧ w = w' := by
  have hf := run_frombits
  go_enter Tryz.func91, Tryz.ntmps91
  go_wp2
  go_ret
  exact ⟨rfl, rfl⟩
theorem rbits_any (b : Int) (hb : U b) (w : World) :
    Calls Tryz.prog 90 #[.float .f64 b.toNat] w fun e w' => e = .returned (.int .u64 (canonS b)) ∧ w = w' := by
  have hbits := run_bits b hb
  go_enter Tryz.func90, Tryz.ntmps90
  go_wp2_with (go_at_call 46; refine (rcanon_any b hb _).mono ?_; rintro e w' ⟨rfl, rfl⟩)
  go_ret
  exact ⟨rfl, rfl⟩
theorem rzero_any (a : Int) (ha : U a) (w : World) :
    Calls Tryz.prog 88 #[.int .u64 a] w fun e w' => e = .returned (.bool (decide (a % 9223372036854775808 = 0))) ∧ w = w' := by
  have k4 := shl1 a
  obtain ⟨h0, h1⟩ := ha
  go_enter Tryz.func88, Tryz.ntmps88
  go_wp2
  go_ret
  refine ⟨congrArg (fun z => Ending.returned (.bool z)) ?_, rfl⟩
  by_cases c : a % 9223372036854775808 = 0
  · rw [c]; decide
  · rw [decide_eq_false c, beq_eq_false_iff_ne]; omega
def rankS (a : Int) : Int := if 9223372036854775808 ≤ a then 9223372036854775807 - a else a
theorem rank_any (a : Int) (ha : U a) (w : World) :
    Calls Tryz.prog 89 #[.int .u64 a] w fun e w' => e = .returned (.int .i64 (rankS a)) ∧ w = w' := by
  have k4 := shl1 a
  have hu := ha
  obtain ⟨h0, h1⟩ := ha
  by_cases c : 9223372036854775808 ≤ a
  · have k5 : (a / 9223372036854775808 == 1) = true := by rw [beq_iff_eq]; omega
    have k6 : a % 9223372036854775808 * 2 / 2 = a - 9223372036854775808 := by omega
    go_enter Tryz.func89, Tryz.ntmps89
    go_wp2
    go_ret
    refine ⟨congrArg (fun z => Ending.returned (.int .i64 z)) ?_, rfl⟩
    unfold rankS
    rw [if_pos c]
    omega
  · have k5 : (a / 9223372036854775808 == 1) = false := by rw [beq_eq_false_iff_ne]; omega
    go_enter Tryz.func89, Tryz.ntmps89
    go_wp2
    go_ret
    refine ⟨congrArg (fun z => Ending.returned (.int .i64 z)) ?_, rfl⟩
    unfold rankS
    rw [if_neg (by omega)]
theorem rzero_is (a : Int) (v : Bool) (h : decide (a % 9223372036854775808 = 0) = v) (ha : U a) (w : World) :
    Calls Tryz.prog 88 #[.int .u64 a] w fun e w' => e = .returned (.bool v) ∧ w = w' := h ▸ rzero_any a ha w
theorem rank_is (a v : Int) (h : rankS a = v) (ha : U a) (w : World) :
    Calls Tryz.prog 89 #[.int .u64 a] w fun e w' => e = .returned (.int .i64 v) ∧ w = w' := h ▸ rank_any a ha w
theorem requal_any (a b : Int) (ha : U a) (hb : U b) (w : World) :
    Calls Tryz.prog 65 #[.int .u64 a, .int .u64 b] w fun e w' => e = .returned (.bool (eqS a b)) ∧ w = w' := by
  have n1 := class_nan a
  have n2 := class_nan b
  have hq : nan a = false → nan b = false → eqS a b = (a == b || (decide (a % 9223372036854775808 = 0) && decide (b % 9223372036854775808 = 0))) := by
    intro f1 f2
    obtain ⟨_, _⟩ := ha; obtain ⟨_, _⟩ := hb
    have e1 : eqS a b = decide (srI a = srI b) := by simp [eqS, f1, f2]
    have e2 : (srI a = srI b) ↔ (a = b ∨ (a % 9223372036854775808 = 0 ∧ b % 9223372036854775808 = 0)) := by
      unfold srI
      split <;> split <;> omega
    have e3 : decide (srI a = srI b) = decide (a = b ∨ (a % 9223372036854775808 = 0 ∧ b % 9223372036854775808 = 0)) := decide_eq_decide.2 e2
    rw [e1, e3, Bool.decide_or, Bool.decide_and]
    rfl
  have hq1 : nan a = true → eqS a b = false := by intro h; simp [eqS, h]
  have hq2 : nan b = true → eqS a b = false := by intro h; simp [eqS, h]
  rw [← n1] at hq1
  rw [← n2] at hq2
  have hq' : ¬ classS a = 1 → ¬ classS b = 1 → eqS a b = (a == b || (decide (a % 9223372036854775808 = 0) && decide (b % 9223372036854775808 = 0))) := by
    intro f1 f2
    exact hq (by cases e : nan a <;> simp_all) (by cases e : nan b <;> simp_all)
  clear hq n1 n2
  generalize hx : classS a = X at *
  generalize hy : classS b = Y at *
  generalize hza : decide (a % 9223372036854775808 = 0) = za at *
  generalize hzb : decide (b % 9223372036854775808 = 0) = zb at *
  generalize hE : eqS a b = E at *
  by_cases c1 : X = 1
  · subst c1
    rw [hq1 rfl]
    go_enter Tryz.func65, Tryz.ntmps65
    go_wp2_with (go_at_call 49; refine (rclass_is _ _ (by with_reducible assumption) (by with_reducible assumption) _).mono ?_; rintro e w' ⟨rfl, rfl⟩)
    go_ret
    exact ⟨rfl, rfl⟩
  have q1 : (X == 1) = false := by simpa using c1
  by_cases c2 : Y = 1
  · subst c2
    rw [hq2 rfl]
    go_enter Tryz.func65, Tryz.ntmps65
    go_wp2_with (go_at_call 49; refine (rclass_is _ _ (by with_reducible assumption) (by with_reducible assumption) _).mono ?_; rintro e w' ⟨rfl, rfl⟩)
    go_ret
    exact ⟨rfl, rfl⟩
  have q2 : (Y == 1) = false := by simpa using c2
  rw [hq' c1 c2]
  clear hq' hq1 hq2 hE c1 c2
  cases hab : (a == b)
  · cases za
    all_goals
      go_enter Tryz.func65, Tryz.ntmps65
      go_wp2_with (first
        | (go_at_call 49; refine (rclass_is _ _ (by with_reducible assumption) (by with_reducible assumption) _).mono ?_; rintro e w' ⟨rfl, rfl⟩)
        | (go_at_call 88; refine (rzero_is _ _ (by with_reducible assumption) (by with_reducible assumption) _).mono ?_; rintro e w' ⟨rfl, rfl⟩))
      go_ret
      exact ⟨rfl, rfl⟩
  · go_enter Tryz.func65, Tryz.ntmps65
    go_wp2_with (go_at_call 49; refine (rclass_is _ _ (by with_reducible assumption) (by with_reducible assumption) _).mono ?_; rintro e w' ⟨rfl, rfl⟩)
    go_ret
    exact ⟨rfl, rfl⟩
theorem rless_any (a b : Int) (ha : U a) (hb : U b) (w : World) :
    Calls Tryz.prog 66 #[.int .u64 a, .int .u64 b] w fun e w' => e = .returned (.bool (lessS a b)) ∧ w = w' := by
  have n1 := class_nan a
  have n2 := class_nan b
  have hq : nan a = false → nan b = false → lessS a b = ((!(decide (a % 9223372036854775808 = 0) && decide (b % 9223372036854775808 = 0))) && decide (rankS a < rankS b)) := by
    intro f1 f2
    obtain ⟨_, _⟩ := ha; obtain ⟨_, _⟩ := hb
    have e1 : lessS a b = decide (srI a < srI b) := by simp [lessS, f1, f2]
    have e2 : (srI a < srI b) ↔ (¬ (a % 9223372036854775808 = 0 ∧ b % 9223372036854775808 = 0) ∧ rankS a < rankS b) := by
      unfold srI rankS
      split <;> split <;> omega
    have e3 : decide (srI a < srI b) = decide (¬ (a % 9223372036854775808 = 0 ∧ b % 9223372036854775808 = 0) ∧ rankS a < rankS b) := decide_eq_decide.2 e2
    rw [e1, e3]
    simp
  have hq1 : nan a = true → lessS a b = false := by intro h; simp [lessS, h]
  have hq2 : nan b = true → lessS a b = false := by intro h; simp [lessS, h]
  rw [← n1] at hq1
  rw [← n2] at hq2
  have hq' : ¬ classS a = 1 → ¬ classS b = 1 → lessS a b = ((!(decide (a % 9223372036854775808 = 0) && decide (b % 9223372036854775808 = 0))) && decide (rankS a < rankS b)) := by
    intro f1 f2
    exact hq (by cases e : nan a <;> simp_all) (by cases e : nan b <;> simp_all)
  clear hq n1 n2
  generalize hx : classS a = X at *
  generalize hy : classS b = Y at *
  generalize hza : decide (a % 9223372036854775808 = 0) = za at *
  generalize hzb : decide (b % 9223372036854775808 = 0) = zb at *
  generalize hra : rankS a = ra at *
  generalize hrb : rankS b = rb at *
  generalize hE : lessS a b = E at *
  by_cases c1 : X = 1
  · subst c1
    rw [hq1 rfl]
    go_enter Tryz.func66, Tryz.ntmps66
    go_wp2_with (go_at_call 49; refine (rclass_is _ _ (by with_reducible assumption) (by with_reducible assumption) _).mono ?_; rintro e w' ⟨rfl, rfl⟩)
    go_ret
    exact ⟨rfl, rfl⟩
  have q1 : (X == 1) = false := by simpa using c1
  by_cases c2 : Y = 1
  · subst c2
    rw [hq2 rfl]
    go_enter Tryz.func66, Tryz.ntmps66
    go_wp2_with (go_at_call 49; refine (rclass_is _ _ (by with_reducible assumption) (by with_reducible assumption) _).mono ?_; rintro e w' ⟨rfl, rfl⟩)
    go_ret
    exact ⟨rfl, rfl⟩
  have q2 : (Y == 1) = false := by simpa using c2
  rw [hq' c1 c2]
  clear hq' hq1 hq2 hE c1 c2
  cases za <;> cases zb
  all_goals
    go_enter Tryz.func66, Tryz.ntmps66
    go_wp2_with (first
      | (go_at_call 49; refine (rclass_is _ _ (by with_reducible assumption) (by with_reducible assumption) _).mono ?_; rintro e w' ⟨rfl, rfl⟩)
      | (go_at_call 89; refine (rank_is _ _ (by with_reducible assumption) (by with_reducible assumption) _).mono ?_; rintro e w' ⟨rfl, rfl⟩)
      | (go_at_call 88; refine (rzero_is _ _ (by with_reducible assumption) (by with_reducible assumption) _).mono ?_; rintro e w' ⟨rfl, rfl⟩))
    go_ret
    exact ⟨rfl, rfl⟩
theorem radd_any (a b : Int) (w : World) :
    Calls Tryz.prog 67 #[.int .u64 a, .int .u64 b] w fun e w' => e = .returned (.int .u64 (resS (floatBits .add .f64 a.toNat b.toNat))) ∧ Grown w w' := by
  cases hr : floatBits .add .f64 a.toNat b.toNat with
  | none =>
    obtain ⟨q, hq, hn, hrun⟩ := nan_draw .add 65 a.toNat b.toNat (by simp) hr w
    have hb := rbits_any q hq
    rw [show canonS q = 9221120237041090561 by simp [canonS, hn]] at hb
    simp only [resS]
    go_enter Tryz.func67, Tryz.ntmps67
    go_wp2_with (first
      | (go_at_call 91; refine (of_any _ _).mono ?_; rintro e w' ⟨rfl, rfl⟩)
      | (go_at_call 90; refine (hb _).mono ?_; rintro e w' ⟨rfl, rfl⟩))
    go_ret
    exact ⟨rfl, (Grown.refl _).drew⟩
  | some r =>
    have hrun := run_float_arith (P := Tryz.prog) w .add 65 .f64 a.toNat b.toNat r hr
    have hb := rbits_any r (U_of_bits hr)
    simp only [Int.toNat_natCast] at hb
    simp only [resS]
    go_enter Tryz.func67, Tryz.ntmps67
    go_wp2_with (first
      | (go_at_call 91; refine (of_any _ _).mono ?_; rintro e w' ⟨rfl, rfl⟩)
      | (go_at_call 90; refine (hb _).mono ?_; rintro e w' ⟨rfl, rfl⟩))
    go_ret
    exact ⟨rfl, Grown.refl _⟩
theorem rsub_any (a b : Int) (w : World) :
    Calls Tryz.prog 68 #[.int .u64 a, .int .u64 b] w fun e w' => e = .returned (.int .u64 (resS (floatBits .sub .f64 a.toNat b.toNat))) ∧ Grown w w' := by
  cases hr : floatBits .sub .f64 a.toNat b.toNat with
  | none =>
    obtain ⟨q, hq, hn, hrun⟩ := nan_draw .sub 65 a.toNat b.toNat (by simp) hr w
    have hb := rbits_any q hq
    rw [show canonS q = 9221120237041090561 by simp [canonS, hn]] at hb
    simp only [resS]
    go_enter Tryz.func68, Tryz.ntmps68
    go_wp2_with (first
      | (go_at_call 91; refine (of_any _ _).mono ?_; rintro e w' ⟨rfl, rfl⟩)
      | (go_at_call 90; refine (hb _).mono ?_; rintro e w' ⟨rfl, rfl⟩))
    go_ret
    exact ⟨rfl, (Grown.refl _).drew⟩
  | some r =>
    have hrun := run_float_arith (P := Tryz.prog) w .sub 65 .f64 a.toNat b.toNat r hr
    have hb := rbits_any r (U_of_bits hr)
    simp only [Int.toNat_natCast] at hb
    simp only [resS]
    go_enter Tryz.func68, Tryz.ntmps68
    go_wp2_with (first
      | (go_at_call 91; refine (of_any _ _).mono ?_; rintro e w' ⟨rfl, rfl⟩)
      | (go_at_call 90; refine (hb _).mono ?_; rintro e w' ⟨rfl, rfl⟩))
    go_ret
    exact ⟨rfl, Grown.refl _⟩
theorem rmul_any (a b : Int) (w : World) :
    Calls Tryz.prog 69 #[.int .u64 a, .int .u64 b] w fun e w' => e = .returned (.int .u64 (resS (floatBits .mul .f64 a.toNat b.toNat))) ∧ Grown w w' := by
  cases hr : floatBits .mul .f64 a.toNat b.toNat with
  | none =>
    obtain ⟨q, hq, hn, hrun⟩ := nan_draw .mul 65 a.toNat b.toNat (by simp) hr w
    have hb := rbits_any q hq
    rw [show canonS q = 9221120237041090561 by simp [canonS, hn]] at hb
    simp only [resS]
    go_enter Tryz.func69, Tryz.ntmps69
    go_wp2_with (first
      | (go_at_call 91; refine (of_any _ _).mono ?_; rintro e w' ⟨rfl, rfl⟩)
      | (go_at_call 90; refine (hb _).mono ?_; rintro e w' ⟨rfl, rfl⟩))
    go_ret
    exact ⟨rfl, (Grown.refl _).drew⟩
  | some r =>
    have hrun := run_float_arith (P := Tryz.prog) w .mul 65 .f64 a.toNat b.toNat r hr
    have hb := rbits_any r (U_of_bits hr)
    simp only [Int.toNat_natCast] at hb
    simp only [resS]
    go_enter Tryz.func69, Tryz.ntmps69
    go_wp2_with (first
      | (go_at_call 91; refine (of_any _ _).mono ?_; rintro e w' ⟨rfl, rfl⟩)
      | (go_at_call 90; refine (hb _).mono ?_; rintro e w' ⟨rfl, rfl⟩))
    go_ret
    exact ⟨rfl, Grown.refl _⟩
theorem rdiv_any (a b : Int) (w : World) :
    Calls Tryz.prog 70 #[.int .u64 a, .int .u64 b] w fun e w' => e = .returned (.int .u64 (resS (floatBits .quo .f64 a.toNat b.toNat))) ∧ Grown w w' := by
  cases hr : floatBits .quo .f64 a.toNat b.toNat with
  | none =>
    obtain ⟨q, hq, hn, hrun⟩ := nan_draw .quo 65 a.toNat b.toNat (by simp) hr w
    have hb := rbits_any q hq
    rw [show canonS q = 9221120237041090561 by simp [canonS, hn]] at hb
    simp only [resS]
    go_enter Tryz.func70, Tryz.ntmps70
    go_wp2_with (first
      | (go_at_call 91; refine (of_any _ _).mono ?_; rintro e w' ⟨rfl, rfl⟩)
      | (go_at_call 90; refine (hb _).mono ?_; rintro e w' ⟨rfl, rfl⟩))
    go_ret
    exact ⟨rfl, (Grown.refl _).drew⟩
  | some r =>
    have hrun := run_float_arith (P := Tryz.prog) w .quo 65 .f64 a.toNat b.toNat r hr
    have hb := rbits_any r (U_of_bits hr)
    simp only [Int.toNat_natCast] at hb
    simp only [resS]
    go_enter Tryz.func70, Tryz.ntmps70
    go_wp2_with (first
      | (go_at_call 91; refine (of_any _ _).mono ?_; rintro e w' ⟨rfl, rfl⟩)
      | (go_at_call 90; refine (hb _).mono ?_; rintro e w' ⟨rfl, rfl⟩))
    go_ret
    exact ⟨rfl, Grown.refl _⟩
theorem rneg_any (a : Int) (ha : U a) (w : World) :
    Calls Tryz.prog 25 #[.int .u64 a] w fun e w' => e = .returned (.int .u64 (negS a)) ∧ w = w' := by
  rw [← negS_eq a ha]
  have hx := xor_sign a ha
  have hu := U_neg a ha
  generalize (if 9223372036854775808 ≤ a then a - 9223372036854775808 else a + 9223372036854775808) = b at *
  go_enter Tryz.func25, Tryz.ntmps25
  go_wp2_with (go_at_call 46; refine (rcanon_any b hu _).mono ?_; rintro e w' ⟨rfl, rfl⟩)
  go_ret
  exact ⟨rfl, rfl⟩
theorem rung_parts (a : Int) (ha : U a) (h : ¬ classS a < 3) : partM a = (mag (a % 9223372036854775808).toNat : Nat) ∧ partE a = (ex (a % 9223372036854775808).toNat : Nat) - 1074 ∧ (a % 9223372036854775808).toNat < 9218868437227405312 := by
  obtain ⟨f1, n1⟩ := fin_of_class a ha h
  obtain ⟨h0, h1⟩ := ha
  generalize hR : (a % 9223372036854775808).toNat = R
  have hR' : (R : Int) = a % 9223372036854775808 := by omega
  refine ⟨?_, ?_, by omega⟩
  · unfold partM mag
    rw [if_neg h]
    unfold classS at h ⊢
    by_cases c : R < 4503599627370496
    · rw [if_pos c, if_pos]
      · omega
      · repeat' split
        all_goals omega
    · rw [if_neg c, if_neg]
      · omega
      · repeat' split
        all_goals omega
  · unfold partE ex
    rw [if_neg h]
    unfold classS at h ⊢
    by_cases c : R < 4503599627370496
    · rw [if_pos c, if_pos]
      · omega
      · repeat' split
        all_goals omega
    · rw [if_neg c, if_neg]
      · omega
      · repeat' split
        all_goals omega
theorem tr_up (r : Nat) (h : 1074 ≤ ex r) : tr r = mag r * 2 ^ (ex r - 1074) := by
  unfold tr val
  have e5 : ex r = (ex r - 1074) + ((0 : Int) + 1074).toNat := by omega
  have e4 : mag r * 2 ^ ex r = mag r * 2 ^ (ex r - 1074) * K := by
    unfold K
    rw [Nat.mul_assoc, ← Nat.pow_add, ← e5]
  rw [e4, Nat.mul_div_cancel _ K_pos]
theorem tr_down (r : Nat) (h : ex r ≤ 1074) : tr r = mag r / 2 ^ (1074 - ex r) := by
  unfold tr val
  have e3 := K_eq (1074 - ex r) (ex r) (by omega)
  rw [e3, Nat.mul_div_mul_right _ _ (Nat.two_pow_pos _)]
theorem okI_parts (a : Int) (ha : U a) (h : ¬ classS a < 3) : okI a = decide (partE a ≤ 10 ∨ (9223372036854775808 ≤ a ∧ partE a = 11 ∧ partM a = 4503599627370496)) := by
  obtain ⟨f1, n1⟩ := fin_of_class a ha h
  obtain ⟨hm, he, hr⟩ := rung_parts a ha h
  obtain ⟨h0, h1⟩ := ha
  generalize hR : (a % 9223372036854775808).toNat = R at *
  have hR' : (R : Int) = a % 9223372036854775808 := by omega
  have hre := rung_eq R
  have hml := mag_lt R
  have hmg : ex R ≠ 0 → 4503599627370496 ≤ mag R := by unfold ex mag; split <;> omega
  have e : okI a = decide (-4890909195324358656 ≤ srI a ∧ srI a < 4890909195324358656) := by
    unfold okI
    rw [n1]
    simp
  rw [e, decide_eq_decide, hm, he]
  unfold srI
  by_cases c : 9223372036854775808 ≤ a
  · rw [if_pos c]
    constructor
    · intro ⟨g1, g2⟩
      omega
    · intro g
      omega
  · rw [if_neg c]
    constructor
    · intro ⟨g1, g2⟩
      omega
    · intro g
      omega
theorem toI_of (a : Int) (ok : okI a = true) : toI a = if 9223372036854775808 ≤ a then -((tr (a % 9223372036854775808).toNat : Nat) : Int) else ((tr (a % 9223372036854775808).toNat : Nat) : Int) := by
  unfold toI
  rw [if_pos ok]
theorem rtoInt_nan (a : Int) (ha : U a) (h : classS a < 3) (w : World) :
    Calls Tryz.prog 27 #[.int .u64 a] w fun e w' => e = .returned (.tuple #[.int .i64 (toI a), .int .i64 (toE a)]) ∧ w = w' := by
  have ok : okI a = false := by
    obtain ⟨h0, h1⟩ := ha
    unfold okI
    unfold classS at h
    cases hn : nan a
    · simp only [nan, decide_eq_false_iff_not] at hn
      have : a % 9223372036854775808 = 9218868437227405312 := by
        revert h
        repeat' split
        all_goals omega
      simp only [Bool.not_false, Bool.true_and, Bool.and_eq_false_iff, decide_eq_false_iff_not]
      unfold srI
      split <;> omega
    · rfl
  rw [show toI a = 0 by simp [toI, ok], show toE a = 82 by simp [toE, ok]]
  have k := rclass_any a ha
  generalize classS a = c at *
  go_enter Tryz.func27, Tryz.ntmps27
  go_wp2_with (go_at_call 49; refine (k _).mono ?_; rintro e w' ⟨rfl, rfl⟩)
  go_ret2
  exact ⟨rfl, rfl⟩
theorem rt_zero (a c m e T : Int) (sg : Bool) (ha : U a) (hc : classS a = c) (h : ¬ c < 3) (hn : partN a = sg) (hm : partM a = m) (he : partE a = e) (h1 : m = 0) (w : World) :
    Calls Tryz.prog 27 #[.int .u64 a] w fun r w' => r = .returned (.tuple #[.int .i64 0, .int .i64 0]) ∧ w = w' := by
  subst h1
  have k := rclass_is a c hc ha
  have kp := rparts_any a ha
  rw [hn, hm, he] at kp
  go_enter Tryz.func27, Tryz.ntmps27
  go_wp2_with (first
    | (go_at_call 49; refine (k _).mono ?_; rintro e w' ⟨rfl, rfl⟩)
    | (go_at_call 50; refine (kp _).mono ?_; rintro e w' ⟨rfl, rfl⟩))
  go_ret2
  exact ⟨rfl, rfl⟩
theorem rt_tiny (a c m e T : Int) (sg : Bool) (ha : U a) (hc : classS a = c) (h : ¬ c < 3) (hn : partN a = sg) (hm : partM a = m) (he : partE a = e) (h1 : (m == 0) = false) (h2 : e < -1000) (w : World) :
    Calls Tryz.prog 27 #[.int .u64 a] w fun r w' => r = .returned (.tuple #[.int .i64 0, .int .i64 0]) ∧ w = w' := by
  have k := rclass_is a c hc ha
  have kp := rparts_any a ha
  rw [hn, hm, he] at kp
  go_enter Tryz.func27, Tryz.ntmps27
  go_wp2_with (first
    | (go_at_call 49; refine (k _).mono ?_; rintro e w' ⟨rfl, rfl⟩)
    | (go_at_call 50; refine (kp _).mono ?_; rintro e w' ⟨rfl, rfl⟩))
  go_ret2
  exact ⟨rfl, rfl⟩
theorem rt_smallfalse (a c m e T : Int) (ha : U a) (hc : classS a = c) (h : ¬ c < 3) (hn : partN a = false) (hm : partM a = m) (he : partE a = e) (h1 : (m == 0) = false) (h2 : ¬ e < -1000) (h3 : e < -60) (w : World) :
    Calls Tryz.prog 27 #[.int .u64 a] w fun r w' => r = .returned (.tuple #[.int .i64 0, .int .i64 0]) ∧ w = w' := by
  have k := rclass_is a c hc ha
  have kp := rparts_any a ha
  rw [hn, hm, he] at kp
  go_enter Tryz.func27, Tryz.ntmps27
  go_wp2_with (first
    | (go_at_call 49; refine (k _).mono ?_; rintro e w' ⟨rfl, rfl⟩)
    | (go_at_call 50; refine (kp _).mono ?_; rintro e w' ⟨rfl, rfl⟩))
  go_ret2
  exact ⟨rfl, rfl⟩
theorem rt_smalltrue (a c m e T : Int) (ha : U a) (hc : classS a = c) (h : ¬ c < 3) (hn : partN a = true) (hm : partM a = m) (he : partE a = e) (h1 : (m == 0) = false) (h2 : ¬ e < -1000) (h3 : e < -60) (w : World) :
    Calls Tryz.prog 27 #[.int .u64 a] w fun r w' => r = .returned (.tuple #[.int .i64 0, .int .i64 0]) ∧ w = w' := by
  have k := rclass_is a c hc ha
  have kp := rparts_any a ha
  rw [hn, hm, he] at kp
  have h11 : (e == 11) = false := by simp; omega
  rcases Bool.eq_false_or_eq_true (m == 4503599627370496) with hq | hq
  all_goals
    go_enter Tryz.func27, Tryz.ntmps27
    go_wp2_with (first
      | (go_at_call 49; refine (k _).mono ?_; rintro e w' ⟨rfl, rfl⟩)
      | (go_at_call 50; refine (kp _).mono ?_; rintro e w' ⟨rfl, rfl⟩))
    go_ret2
    exact ⟨rfl, rfl⟩
theorem rt_downfalse (a c m e T : Int) (ha : U a) (hc : classS a = c) (h : ¬ c < 3) (hn : partN a = false) (hm : partM a = m) (he : partE a = e) (h1 : (m == 0) = false) (h2 : ¬ e < -60) (h3 : e < 0) (hT : m / 2 ^ (-e).toNat = T) (hT0 : 0 ≤ T) (hT1 : T < 9223372036854775808) (w : World) :
    Calls Tryz.prog 27 #[.int .u64 a] w fun r w' => r = .returned (.tuple #[.int .i64 T, .int .i64 0]) ∧ w = w' := by
  have k := rclass_is a c hc ha
  have kp := rparts_any a ha
  rw [hn, hm, he] at kp
  go_enter Tryz.func27, Tryz.ntmps27
  go_wp2_with (first
    | (go_at_call 49; refine (k _).mono ?_; rintro e w' ⟨rfl, rfl⟩)
    | (go_at_call 50; refine (kp _).mono ?_; rintro e w' ⟨rfl, rfl⟩))
  go_ret2
  exact ⟨rfl, rfl⟩
theorem rt_evenfalse (a c m e T : Int) (ha : U a) (hc : classS a = c) (h : ¬ c < 3) (hn : partN a = false) (hm : partM a = m) (he : partE a = e) (h1 : (m == 0) = false) (h2 : e = 0) (hT : m = T) (hT0 : 0 ≤ T) (hT1 : T < 9223372036854775808) (w : World) :
    Calls Tryz.prog 27 #[.int .u64 a] w fun r w' => r = .returned (.tuple #[.int .i64 T, .int .i64 0]) ∧ w = w' := by
  subst h2
  subst hT
  have k := rclass_is a c hc ha
  have kp := rparts_any a ha
  rw [hn, hm, he] at kp
  go_enter Tryz.func27, Tryz.ntmps27
  go_wp2_with (first
    | (go_at_call 49; refine (k _).mono ?_; rintro e w' ⟨rfl, rfl⟩)
    | (go_at_call 50; refine (kp _).mono ?_; rintro e w' ⟨rfl, rfl⟩))
  go_ret2
  exact ⟨rfl, rfl⟩
theorem rt_upfalse (a c m e T : Int) (ha : U a) (hc : classS a = c) (h : ¬ c < 3) (hn : partN a = false) (hm : partM a = m) (he : partE a = e) (h1 : (m == 0) = false) (h2 : 0 < e) (h3 : e ≤ 10) (hT : IntKind.u64.wrap (m * 2 ^ e.toNat) = T) (hT0 : 0 ≤ T) (hT1 : T < 9223372036854775808) (w : World) :
    Calls Tryz.prog 27 #[.int .u64 a] w fun r w' => r = .returned (.tuple #[.int .i64 T, .int .i64 0]) ∧ w = w' := by
  have k := rclass_is a c hc ha
  have kp := rparts_any a ha
  rw [hn, hm, he] at kp
  go_enter Tryz.func27, Tryz.ntmps27
  go_wp2_with (first
    | (go_at_call 49; refine (k _).mono ?_; rintro e w' ⟨rfl, rfl⟩)
    | (go_at_call 50; refine (kp _).mono ?_; rintro e w' ⟨rfl, rfl⟩))
  go_ret2
  exact ⟨rfl, rfl⟩
theorem rt_downtrue (a c m e T : Int) (ha : U a) (hc : classS a = c) (h : ¬ c < 3) (hn : partN a = true) (hm : partM a = m) (he : partE a = e) (h1 : (m == 0) = false) (h2 : ¬ e < -60) (h3 : e < 0) (hT : m / 2 ^ (-e).toNat = T) (hT0 : 0 ≤ T) (hT1 : T < 9223372036854775808) (w : World) :
    Calls Tryz.prog 27 #[.int .u64 a] w fun r w' => r = .returned (.tuple #[.int .i64 (-T), .int .i64 0]) ∧ w = w' := by
  have k := rclass_is a c hc ha
  have kp := rparts_any a ha
  rw [hn, hm, he] at kp
  have h11 : (e == 11) = false := by simp; omega
  rcases Bool.eq_false_or_eq_true (m == 4503599627370496) with hq | hq
  all_goals
    go_enter Tryz.func27, Tryz.ntmps27
    go_wp2_with (first
      | (go_at_call 49; refine (k _).mono ?_; rintro e w' ⟨rfl, rfl⟩)
      | (go_at_call 50; refine (kp _).mono ?_; rintro e w' ⟨rfl, rfl⟩))
    go_ret2
    exact ⟨rfl, rfl⟩
theorem rt_eventrue (a c m e T : Int) (ha : U a) (hc : classS a = c) (h : ¬ c < 3) (hn : partN a = true) (hm : partM a = m) (he : partE a = e) (h1 : (m == 0) = false) (h2 : e = 0) (hT : m = T) (hT0 : 0 ≤ T) (hT1 : T < 9223372036854775808) (w : World) :
    Calls Tryz.prog 27 #[.int .u64 a] w fun r w' => r = .returned (.tuple #[.int .i64 (-T), .int .i64 0]) ∧ w = w' := by
  subst h2
  subst hT
  have k := rclass_is a c hc ha
  have kp := rparts_any a ha
  rw [hn, hm, he] at kp
  rcases Bool.eq_false_or_eq_true (m == 4503599627370496) with hq | hq
  all_goals
    go_enter Tryz.func27, Tryz.ntmps27
    go_wp2_with (first
      | (go_at_call 49; refine (k _).mono ?_; rintro e w' ⟨rfl, rfl⟩)
      | (go_at_call 50; refine (kp _).mono ?_; rintro e w' ⟨rfl, rfl⟩))
    go_ret2
    exact ⟨rfl, rfl⟩
theorem rt_uptrue (a c m e T : Int) (ha : U a) (hc : classS a = c) (h : ¬ c < 3) (hn : partN a = true) (hm : partM a = m) (he : partE a = e) (h1 : (m == 0) = false) (h2 : 0 < e) (h3 : e ≤ 10) (hT : IntKind.u64.wrap (m * 2 ^ e.toNat) = T) (hT0 : 0 ≤ T) (hT1 : T < 9223372036854775808) (w : World) :
    Calls Tryz.prog 27 #[.int .u64 a] w fun r w' => r = .returned (.tuple #[.int .i64 (-T), .int .i64 0]) ∧ w = w' := by
  have k := rclass_is a c hc ha
  have kp := rparts_any a ha
  rw [hn, hm, he] at kp
  have h11 : (e == 11) = false := by simp; omega
  rcases Bool.eq_false_or_eq_true (m == 4503599627370496) with hq | hq
  all_goals
    go_enter Tryz.func27, Tryz.ntmps27
    go_wp2_with (first
      | (go_at_call 49; refine (k _).mono ?_; rintro e w' ⟨rfl, rfl⟩)
      | (go_at_call 50; refine (kp _).mono ?_; rintro e w' ⟨rfl, rfl⟩))
    go_ret2
    exact ⟨rfl, rfl⟩
theorem rt_least (a c m e T : Int) (ha : U a) (hc : classS a = c) (h : ¬ c < 3) (hn : partN a = true) (hm : partM a = m) (he : partE a = e) (h1 : (m == 0) = false) (h2 : e = 11) (h3 : m = 4503599627370496) (w : World) :
    Calls Tryz.prog 27 #[.int .u64 a] w fun r w' => r = .returned (.tuple #[.int .i64 (-9223372036854775808), .int .i64 0]) ∧ w = w' := by
  subst h2
  subst h3
  have k := rclass_is a c hc ha
  have kp := rparts_any a ha
  rw [hn, hm, he] at kp
  go_enter Tryz.func27, Tryz.ntmps27
  go_wp2_with (first
    | (go_at_call 49; refine (k _).mono ?_; rintro e w' ⟨rfl, rfl⟩)
    | (go_at_call 50; refine (kp _).mono ?_; rintro e w' ⟨rfl, rfl⟩))
  go_ret2
  exact ⟨rfl, rfl⟩
theorem rt_edgepos (a c m e T : Int) (ha : U a) (hc : classS a = c) (h : ¬ c < 3) (hn : partN a = false) (hm : partM a = m) (he : partE a = e) (h1 : (m == 0) = false) (h2 : e = 11) (w : World) :
    Calls Tryz.prog 27 #[.int .u64 a] w fun r w' => r = .returned (.tuple #[.int .i64 0, .int .i64 82]) ∧ w = w' := by
  subst h2
  have k := rclass_is a c hc ha
  have kp := rparts_any a ha
  rw [hn, hm, he] at kp
  go_enter Tryz.func27, Tryz.ntmps27
  go_wp2_with (first
    | (go_at_call 49; refine (k _).mono ?_; rintro e w' ⟨rfl, rfl⟩)
    | (go_at_call 50; refine (kp _).mono ?_; rintro e w' ⟨rfl, rfl⟩))
  go_ret2
  exact ⟨rfl, rfl⟩
theorem rt_edgeneg (a c m e T : Int) (ha : U a) (hc : classS a = c) (h : ¬ c < 3) (hn : partN a = true) (hm : partM a = m) (he : partE a = e) (h1 : (m == 0) = false) (h2 : e = 11) (h3 : (m == 4503599627370496) = false) (w : World) :
    Calls Tryz.prog 27 #[.int .u64 a] w fun r w' => r = .returned (.tuple #[.int .i64 0, .int .i64 82]) ∧ w = w' := by
  subst h2
  have k := rclass_is a c hc ha
  have kp := rparts_any a ha
  rw [hn, hm, he] at kp
  go_enter Tryz.func27, Tryz.ntmps27
  go_wp2_with (first
    | (go_at_call 49; refine (k _).mono ?_; rintro e w' ⟨rfl, rfl⟩)
    | (go_at_call 50; refine (kp _).mono ?_; rintro e w' ⟨rfl, rfl⟩))
  go_ret2
  exact ⟨rfl, rfl⟩
theorem rt_great (a c m e T : Int) (sg : Bool) (ha : U a) (hc : classS a = c) (h : ¬ c < 3) (hn : partN a = sg) (hm : partM a = m) (he : partE a = e) (h1 : (m == 0) = false) (h2 : 11 < e) (w : World) :
    Calls Tryz.prog 27 #[.int .u64 a] w fun r w' => r = .returned (.tuple #[.int .i64 0, .int .i64 82]) ∧ w = w' := by
  have k := rclass_is a c hc ha
  have kp := rparts_any a ha
  rw [hn, hm, he] at kp
  go_enter Tryz.func27, Tryz.ntmps27
  go_wp2_with (first
    | (go_at_call 49; refine (k _).mono ?_; rintro e w' ⟨rfl, rfl⟩)
    | (go_at_call 50; refine (kp _).mono ?_; rintro e w' ⟨rfl, rfl⟩))
  go_ret2
  exact ⟨rfl, rfl⟩
theorem rtoInt_any (a : Int) (ha : U a) (w : World) :
    Calls Tryz.prog 27 #[.int .u64 a] w fun r w' => r = .returned (.tuple #[.int .i64 (toI a), .int .i64 (toE a)]) ∧ w = w' := by
  by_cases h : classS a < 3
  · exact rtoInt_nan a ha h w
  obtain ⟨hm, he, hr⟩ := rung_parts a ha h
  have hok := okI_parts a ha h
  have hn : partN a = decide (9223372036854775808 ≤ a) := by
    unfold partN
    rw [if_neg (by omega)]
  have hml := mag_lt (a % 9223372036854775808).toNat
  have hi := toI_of a
  have htu := tr_up (a % 9223372036854775808).toNat
  have htd := tr_down (a % 9223372036854775808).toNat
  generalize (a % 9223372036854775808).toNat = R at *
  have hx : ex R ≤ 2045 := by unfold ex; split <;> omega
  by_cases c0 : partM a = 0
  · have hmz : mag R = 0 := by omega
    have hR0 : ex R = 0 := by
      unfold mag at hmz
      unfold ex
      split at hmz
      · rw [if_pos (by assumption)]
      · omega
    have ok : okI a = true := by rw [hok]; exact decide_eq_true (by omega)
    have t0 : tr R = 0 := by rw [htd (by omega), hmz, Nat.zero_div]
    rw [show toI a = 0 by rw [hi ok, t0]; simp, show toE a = 0 by simp [toE, ok]]
    exact rt_zero a _ _ _ 0 _ ha rfl h rfl rfl rfl c0 w
  have hz : (partM a == 0) = false := by simpa using c0
  by_cases c1 : partE a < -60
  · have ok : okI a = true := by rw [hok]; exact decide_eq_true (by omega)
    have t0 : tr R = 0 := by
      rw [htd (by omega)]
      apply Nat.div_eq_of_lt
      exact Nat.lt_of_lt_of_le hml (Nat.pow_le_pow_right (show 0 < 2 by decide) (show 53 ≤ 1074 - ex R by omega))
    rw [show toI a = 0 by rw [hi ok, t0]; simp, show toE a = 0 by simp [toE, ok]]
    by_cases c2 : partE a < -1000
    · exact rt_tiny a _ _ _ 0 _ ha rfl h rfl rfl rfl hz c2 w
    · by_cases s : 9223372036854775808 ≤ a
      · exact rt_smalltrue a _ _ _ 0 ha rfl h (by rw [hn]; exact decide_eq_true s) rfl rfl hz c2 c1 w
      · exact rt_smallfalse a _ _ _ 0 ha rfl h (by rw [hn]; exact decide_eq_false s) rfl rfl hz c2 c1 w
  by_cases c2 : partE a < 0
  · have ok : okI a = true := by rw [hok]; exact decide_eq_true (by omega)
    have ht := htd (by omega)
    have hT : partM a / 2 ^ (-partE a).toNat = (tr R : Int) := by
      rw [ht, hm, Int.natCast_ediv, Int.natCast_pow, show (-partE a).toNat = 1074 - ex R by omega]
      rfl
    have hTb : tr R ≤ mag R := by rw [ht]; exact Nat.div_le_self _ _
    rw [show toE a = 0 by simp [toE, ok], hi ok]
    by_cases s : 9223372036854775808 ≤ a
    · rw [if_pos s]
      exact rt_downtrue a _ _ _ _ ha rfl h (by rw [hn]; exact decide_eq_true s) rfl rfl hz c1 c2 hT (by omega) (by omega) w
    · rw [if_neg s]
      exact rt_downfalse a _ _ _ _ ha rfl h (by rw [hn]; exact decide_eq_false s) rfl rfl hz c1 c2 hT (by omega) (by omega) w
  by_cases c3 : partE a = 0
  · have ok : okI a = true := by rw [hok]; exact decide_eq_true (by omega)
    have ht := htd (by omega)
    rw [show 1074 - ex R = 0 by omega, Nat.pow_zero, Nat.div_one] at ht
    have hT : partM a = (tr R : Int) := by omega
    rw [show toE a = 0 by simp [toE, ok], hi ok]
    by_cases s : 9223372036854775808 ≤ a
    · rw [if_pos s]
      exact rt_eventrue a _ _ _ _ ha rfl h (by rw [hn]; exact decide_eq_true s) rfl rfl hz c3 hT (by omega) (by omega) w
    · rw [if_neg s]
      exact rt_evenfalse a _ _ _ _ ha rfl h (by rw [hn]; exact decide_eq_false s) rfl rfl hz c3 hT (by omega) (by omega) w
  by_cases c4 : partE a ≤ 10
  · have ok : okI a = true := by rw [hok]; exact decide_eq_true (by omega)
    have ht := htu (by omega)
    have hle : 2 ^ (ex R - 1074) ≤ 1024 := by
      have := Nat.pow_le_pow_right (show 0 < 2 by decide) (show ex R - 1074 ≤ 10 by omega)
      omega
    have hTb : tr R ≤ 9007199254740991 * 1024 := by rw [ht]; exact Nat.mul_le_mul (by omega) hle
    have hT : IntKind.u64.wrap (partM a * 2 ^ (partE a).toNat) = (tr R : Int) := by
      rw [hm, show (partE a).toNat = ex R - 1074 by omega]
      have e9 : ((mag R : Nat) : Int) * 2 ^ (ex R - 1074) = ((tr R : Nat) : Int) := by rw [ht, Int.natCast_mul, Int.natCast_pow]; rfl
      rw [e9, IntKind.wrap_u64]
      omega
    rw [show toE a = 0 by simp [toE, ok], hi ok]
    by_cases s : 9223372036854775808 ≤ a
    · rw [if_pos s]
      exact rt_uptrue a _ _ _ _ ha rfl h (by rw [hn]; exact decide_eq_true s) rfl rfl hz (by omega) c4 hT (by omega) (by omega) w
    · rw [if_neg s]
      exact rt_upfalse a _ _ _ _ ha rfl h (by rw [hn]; exact decide_eq_false s) rfl rfl hz (by omega) c4 hT (by omega) (by omega) w
  by_cases c5 : partE a = 11
  · by_cases s : 9223372036854775808 ≤ a
    · by_cases c6 : partM a = 4503599627370496
      · have ok : okI a = true := by rw [hok]; exact decide_eq_true (by omega)
        have ht := htu (by omega)
        rw [show ex R - 1074 = 11 by omega, show mag R = 4503599627370496 by omega] at ht
        rw [show toE a = 0 by simp [toE, ok], hi ok, if_pos s, ht]
        exact rt_least a _ _ _ 0 ha rfl h (by rw [hn]; exact decide_eq_true s) rfl rfl hz c5 c6 w
      · have ok : okI a = false := by rw [hok]; exact decide_eq_false (by omega)
        rw [show toI a = 0 by simp [toI, ok], show toE a = 82 by simp [toE, ok]]
        exact rt_edgeneg a _ _ _ 0 ha rfl h (by rw [hn]; exact decide_eq_true s) rfl rfl hz c5 (by simpa using c6) w
    · have ok : okI a = false := by rw [hok]; exact decide_eq_false (by omega)
      rw [show toI a = 0 by simp [toI, ok], show toE a = 82 by simp [toE, ok]]
      exact rt_edgepos a _ _ _ 0 ha rfl h (by rw [hn]; exact decide_eq_false s) rfl rfl hz c5 w
  · have ok : okI a = false := by rw [hok]; exact decide_eq_false (by omega)
    rw [show toI a = 0 by simp [toI, ok], show toE a = 82 by simp [toE, ok]]
    exact rt_great a _ _ _ 0 _ ha rfl h rfl rfl rfl hz (by omega) w
theorem rfromInt_any (n : Int) (w : World) :
    Calls Tryz.prog 28 #[.int .i64 n] w fun e w' => e = .returned (.int .u64 (floatOfInt .f64 n : Nat)) ∧ w = w' := by
  have hb := run_bits _ (fi_nan n).2
  simp only [Int.toNat_natCast] at hb
  go_enter Tryz.func28, Tryz.ntmps28
  go_wp2
  go_ret
  exact ⟨rfl, rfl⟩
end Go.Proofs.YtmkfbppjbojdmaaGreat.F
