/- What the document's answer of layer 1 answers, called with any bits: the same as package floats. -/
import Derived.Test.YtfegnjpajflnkaaDoorT2
namespace Go.Proofs.YtfegnjpajflnkaaDoor
open Go.RowKit Fl
set_option linter.unusedSimpArgs false
set_option linter.unusedVariables false

theorem shl12 (a : Int) : IntKind.u64.wrap (a * 4096) = a % 4503599627370496 * 4096 := by rw [IntKind.wrap_u64]; omega
theorem shl1 (a : Int) : IntKind.u64.wrap (a * 2) = a % 9223372036854775808 * 2 := by rw [IntKind.wrap_u64]; omega

theorem rcanon_any (a : Int) (ha : U a) (w : World) :
    Calls Tryd.prog 14 #[.int .u64 a] w fun e w' => e = .returned (.int .u64 (canonS a)) ∧ w = w' := by
  have k3 := and_exp (a / 4503599627370496) ⟨by obtain ⟨_, _⟩ := ha; omega, by obtain ⟨_, _⟩ := ha; omega⟩
  have k4 := shl12 a
  obtain ⟨h0, h1⟩ := ha
  go_enter Tryd.func14, Tryd.ntmps14
  go_wp2
  all_goals
    go_ret
    refine ⟨congrArg (fun z => Ending.returned (.int .u64 z)) ?_, rfl⟩
    try simp only [bne_iff_ne, beq_iff_eq, bne_eq_false_iff_eq, beq_eq_false_iff_ne, ne_eq] at *
    unfold canonS nan
    simp only [decide_eq_true_eq]
    split
    all_goals omega

theorem rclass_any (a : Int) (ha : U a) (w : World) :
    Calls Tryd.prog 16 #[.int .u64 a] w fun e w' => e = .returned (.int .i64 (classS a)) ∧ w = w' := by
  have k3 := and_exp (a / 4503599627370496) ⟨by obtain ⟨_, _⟩ := ha; omega, by obtain ⟨_, _⟩ := ha; omega⟩
  have k4 := shl12 a
  obtain ⟨h0, h1⟩ := ha
  go_enter Tryd.func16, Tryd.ntmps16
  go_wp2
  all_goals
    go_ret
    refine ⟨congrArg (fun z => Ending.returned (.int .i64 z)) ?_, rfl⟩
    try simp only [bne_iff_ne, beq_iff_eq, bne_eq_false_iff_eq, beq_eq_false_iff_ne, ne_eq] at *
    unfold classS
    repeat' split
    all_goals omega

theorem of_any (a : Int) (w : World) :
    Calls Tryd.prog 53 #[.int .u64 a] w fun e w' => e = .returned (.float .f64 a.toNat) ∧ w = w' := by
  have hf := run_frombits
  go_enter Tryd.func53, Tryd.ntmps53
  go_wp2
  go_ret
  exact ⟨rfl, rfl⟩
theorem rbits_any (b : Int) (hb : U b) (w : World) :
    Calls Tryd.prog 52 #[.float .f64 b.toNat] w fun e w' => e = .returned (.int .u64 (canonS b)) ∧ w = w' := by
  have hbits := run_bits b hb
  go_enter Tryd.func52, Tryd.ntmps52
  go_wp2_with (go_at_call 14; refine (rcanon_any b hb _).mono ?_; rintro e w' ⟨rfl, rfl⟩)
  go_ret
  exact ⟨rfl, rfl⟩

theorem rzero_any (a : Int) (ha : U a) (w : World) :
    Calls Tryd.prog 54 #[.int .u64 a] w fun e w' => e = .returned (.bool (decide (a % 9223372036854775808 = 0))) ∧ w = w' := by
  have k4 := shl1 a
  obtain ⟨h0, h1⟩ := ha
  go_enter Tryd.func54, Tryd.ntmps54
  go_wp2
  go_ret
  refine ⟨congrArg (fun z => Ending.returned (.bool z)) ?_, rfl⟩
  by_cases c : a % 9223372036854775808 = 0
  · rw [c]; decide
  · rw [decide_eq_false c, beq_eq_false_iff_ne]; omega

def rankS (a : Int) : Int := if 9223372036854775808 ≤ a then 9223372036854775807 - a else a
theorem rank_any (a : Int) (ha : U a) (w : World) :
    Calls Tryd.prog 55 #[.int .u64 a] w fun e w' => e = .returned (.int .i64 (rankS a)) ∧ w = w' := by
  have k4 := shl1 a
  have hu := ha
  obtain ⟨h0, h1⟩ := ha
  by_cases c : 9223372036854775808 ≤ a
  · have k5 : (a / 9223372036854775808 == 1) = true := by rw [beq_iff_eq]; omega
    have k6 : a % 9223372036854775808 * 2 / 2 = a - 9223372036854775808 := by omega
    go_enter Tryd.func55, Tryd.ntmps55
    go_wp2
    go_ret
    refine ⟨congrArg (fun z => Ending.returned (.int .i64 z)) ?_, rfl⟩
    unfold rankS
    rw [if_pos c]
    omega
  · have k5 : (a / 9223372036854775808 == 1) = false := by rw [beq_eq_false_iff_ne]; omega
    go_enter Tryd.func55, Tryd.ntmps55
    go_wp2
    go_ret
    refine ⟨congrArg (fun z => Ending.returned (.int .i64 z)) ?_, rfl⟩
    unfold rankS
    rw [if_neg (by omega)]

theorem rclass_is (a v : Int) (h : classS a = v) (ha : U a) (w : World) :
    Calls Tryd.prog 16 #[.int .u64 a] w fun e w' => e = .returned (.int .i64 v) ∧ w = w' := h ▸ rclass_any a ha w
theorem rzero_is (a : Int) (v : Bool) (h : decide (a % 9223372036854775808 = 0) = v) (ha : U a) (w : World) :
    Calls Tryd.prog 54 #[.int .u64 a] w fun e w' => e = .returned (.bool v) ∧ w = w' := h ▸ rzero_any a ha w
theorem rank_is (a v : Int) (h : rankS a = v) (ha : U a) (w : World) :
    Calls Tryd.prog 55 #[.int .u64 a] w fun e w' => e = .returned (.int .i64 v) ∧ w = w' := h ▸ rank_any a ha w

theorem requal_any (a b : Int) (ha : U a) (hb : U b) (w : World) :
    Calls Tryd.prog 33 #[.int .u64 a, .int .u64 b] w fun e w' => e = .returned (.bool (eqS a b)) ∧ w = w' := by
  have n1 := class_nan a
  have n2 := class_nan b
  have hq : nan a = false → nan b = false → eqS a b = (a == b || (decide (a % 9223372036854775808 = 0) && decide (b % 9223372036854775808 = 0))) := by
    intro f1 f2
    obtain ⟨_, _⟩ := ha; obtain ⟨_, _⟩ := hb
    have e1 : eqS a b = decide (srI a = srI b) := by simp [eqS, f1, f2]
    have e2 : (srI a = srI b) ↔ (a = b ∨ (a % 9223372036854775808 = 0 ∧ b % 9223372036854775808 = 0)) := by
      unfold srI
      split <;> split <;> omega
    have e3 : decide (srI a = srI b) = decide (a = b ∨ (a % 9223372036854775808 = 0 ∧ b % 9223372036854775808 = 0)) := decide_eq_decide.2 e2
    rw [e1, e3, Bool.decide_or, Bool.decide_and]
    rfl
  have hq1 : nan a = true → eqS a b = false := by intro h; simp [eqS, h]
  have hq2 : nan b = true → eqS a b = false := by intro h; simp [eqS, h]
  rw [← n1] at hq1
  rw [← n2] at hq2
  have hq' : ¬ classS a = 1 → ¬ classS b = 1 → eqS a b = (a == b || (decide (a % 9223372036854775808 = 0) && decide (b % 9223372036854775808 = 0))) := by
    intro f1 f2
    exact hq (by cases e : nan a <;> simp_all) (by cases e : nan b <;> simp_all)
  clear hq n1 n2
  generalize hx : classS a = X at *
  generalize hy : classS b = Y at *
  generalize hza : decide (a % 9223372036854775808 = 0) = za at *
  generalize hzb : decide (b % 9223372036854775808 = 0) = zb at *
  generalize hE : eqS a b = E at *
  by_cases c1 : X = 1
  · subst c1
    rw [hq1 rfl]
    go_enter Tryd.func33, Tryd.ntmps33
    go_wp2_with (go_at_call 16; refine (rclass_is _ _ (by with_reducible assumption) (by with_reducible assumption) _).mono ?_; rintro e w' ⟨rfl, rfl⟩)
    go_ret
    exact ⟨rfl, rfl⟩
  have q1 : (X == 1) = false := by simpa using c1
  by_cases c2 : Y = 1
  · subst c2
    rw [hq2 rfl]
    go_enter Tryd.func33, Tryd.ntmps33
    go_wp2_with (go_at_call 16; refine (rclass_is _ _ (by with_reducible assumption) (by with_reducible assumption) _).mono ?_; rintro e w' ⟨rfl, rfl⟩)
    go_ret
    exact ⟨rfl, rfl⟩
  have q2 : (Y == 1) = false := by simpa using c2
  rw [hq' c1 c2]
  clear hq' hq1 hq2 hE c1 c2
  cases hab : (a == b)
  · cases za
    all_goals
      go_enter Tryd.func33, Tryd.ntmps33
      go_wp2_with (first
        | (go_at_call 16; refine (rclass_is _ _ (by with_reducible assumption) (by with_reducible assumption) _).mono ?_; rintro e w' ⟨rfl, rfl⟩)
        | (go_at_call 54; refine (rzero_is _ _ (by with_reducible assumption) (by with_reducible assumption) _).mono ?_; rintro e w' ⟨rfl, rfl⟩))
      go_ret
      exact ⟨rfl, rfl⟩
  · go_enter Tryd.func33, Tryd.ntmps33
    go_wp2_with (go_at_call 16; refine (rclass_is _ _ (by with_reducible assumption) (by with_reducible assumption) _).mono ?_; rintro e w' ⟨rfl, rfl⟩)
    go_ret
    exact ⟨rfl, rfl⟩

theorem rless_any (a b : Int) (ha : U a) (hb : U b) (w : World) :
    Calls Tryd.prog 35 #[.int .u64 a, .int .u64 b] w fun e w' => e = .returned (.bool (lessS a b)) ∧ w = w' := by
  have n1 := class_nan a
  have n2 := class_nan b
  have hq : nan a = false → nan b = false → lessS a b = ((!(decide (a % 9223372036854775808 = 0) && decide (b % 9223372036854775808 = 0))) && decide (rankS a < rankS b)) := by
    intro f1 f2
    obtain ⟨_, _⟩ := ha; obtain ⟨_, _⟩ := hb
    have e1 : lessS a b = decide (srI a < srI b) := by simp [lessS, f1, f2]
    have e2 : (srI a < srI b) ↔ (¬ (a % 9223372036854775808 = 0 ∧ b % 9223372036854775808 = 0) ∧ rankS a < rankS b) := by
      unfold srI rankS
      split <;> split <;> omega
    have e3 : decide (srI a < srI b) = decide (¬ (a % 9223372036854775808 = 0 ∧ b % 9223372036854775808 = 0) ∧ rankS a < rankS b) := decide_eq_decide.2 e2
    rw [e1, e3]
    simp
  have hq1 : nan a = true → lessS a b = false := by intro h; simp [lessS, h]
  have hq2 : nan b = true → lessS a b = false := by intro h; simp [lessS, h]
  rw [← n1] at hq1
  rw [← n2] at hq2
  have hq' : ¬ classS a = 1 → ¬ classS b = 1 → lessS a b = ((!(decide (a % 9223372036854775808 = 0) && decide (b % 9223372036854775808 = 0))) && decide (rankS a < rankS b)) := by
    intro f1 f2
    exact hq (by cases e : nan a <;> simp_all) (by cases e : nan b <;> simp_all)
  clear hq n1 n2
  generalize hx : classS a = X at *
  generalize hy : classS b = Y at *
  generalize hza : decide (a % 9223372036854775808 = 0) = za at *
  generalize hzb : decide (b % 9223372036854775808 = 0) = zb at *
  generalize hra : rankS a = ra at *
  generalize hrb : rankS b = rb at *
  generalize hE : lessS a b = E at *
  by_cases c1 : X = 1
  · subst c1
    rw [hq1 rfl]
    go_enter Tryd.func35, Tryd.ntmps35
    go_wp2_with (go_at_call 16; refine (rclass_is _ _ (by with_reducible assumption) (by with_reducible assumption) _).mono ?_; rintro e w' ⟨rfl, rfl⟩)
    go_ret
    exact ⟨rfl, rfl⟩
  have q1 : (X == 1) = false := by simpa using c1
  by_cases c2 : Y = 1
  · subst c2
    rw [hq2 rfl]
    go_enter Tryd.func35, Tryd.ntmps35
    go_wp2_with (go_at_call 16; refine (rclass_is _ _ (by with_reducible assumption) (by with_reducible assumption) _).mono ?_; rintro e w' ⟨rfl, rfl⟩)
    go_ret
    exact ⟨rfl, rfl⟩
  have q2 : (Y == 1) = false := by simpa using c2
  rw [hq' c1 c2]
  clear hq' hq1 hq2 hE c1 c2
  cases za <;> cases zb
  all_goals
    go_enter Tryd.func35, Tryd.ntmps35
    go_wp2_with (first
      | (go_at_call 16; refine (rclass_is _ _ (by with_reducible assumption) (by with_reducible assumption) _).mono ?_; rintro e w' ⟨rfl, rfl⟩)
      | (go_at_call 55; refine (rank_is _ _ (by with_reducible assumption) (by with_reducible assumption) _).mono ?_; rintro e w' ⟨rfl, rfl⟩)
      | (go_at_call 54; refine (rzero_is _ _ (by with_reducible assumption) (by with_reducible assumption) _).mono ?_; rintro e w' ⟨rfl, rfl⟩))
    go_ret
    exact ⟨rfl, rfl⟩

theorem rlessEq_any (a b : Int) (ha : U a) (hb : U b) (w : World) :
    Calls Tryd.prog 37 #[.int .u64 a, .int .u64 b] w fun e w' => e = .returned (.bool (lessS a b || eqS a b)) ∧ w = w' := by
  have k1 := rless_any a b ha hb
  have k2 := requal_any a b ha hb
  generalize lessS a b = L at *
  generalize eqS a b = E at *
  cases L
  · go_enter Tryd.func37, Tryd.ntmps37
    go_wp2_with (first
      | (go_at_call 35; refine (k1 _).mono ?_; rintro e w' ⟨rfl, rfl⟩)
      | (go_at_call 33; refine (k2 _).mono ?_; rintro e w' ⟨rfl, rfl⟩))
    go_ret
    exact ⟨rfl, rfl⟩
  · go_enter Tryd.func37, Tryd.ntmps37
    go_wp2_with (go_at_call 35; refine (k1 _).mono ?_; rintro e w' ⟨rfl, rfl⟩)
    go_ret
    exact ⟨rfl, rfl⟩

theorem rcompare_any (a b : Int) (ha : U a) (hb : U b) (w : World) :
    Calls Tryd.prog 39 #[.int .u64 a, .int .u64 b] w fun e w' => e = .returned (.int .i64 (cmpS a b)) ∧ w = w' := by
  have n1 := class_nan a
  have n2 := class_nan b
  have hq : nan a = false → nan b = false → cmpS a b = (if rankS a < rankS b then -1 else if rankS b < rankS a then 1 else 0) := by
    intro f1 f2
    rw [cmp_rk a b ha hb]
    simp only [rk, f1, f2, Bool.false_eq_true, if_false]
    rfl
  generalize hra : rankS a = ra at *
  generalize hrb : rankS b = rb at *
  cases na : nan a <;> cases nb : nan b
  · have c1 : (classS a == 1) = false := by simp; intro h; simp_all
    have c2 : (classS b == 1) = false := by simp; intro h; simp_all
    rw [hq na nb]
    clear n1 n2 hq
    generalize hx : classS a = X at *
    generalize hy : classS b = Y at *
    by_cases h1 : ra < rb
    · rw [if_pos h1]
      go_enter Tryd.func39, Tryd.ntmps39
      go_wp2_with (first
        | (go_at_call 16; refine (rclass_is _ _ (by with_reducible assumption) (by with_reducible assumption) _).mono ?_; rintro e w' ⟨rfl, rfl⟩)
        | (go_at_call 55; refine (rank_is _ _ (by with_reducible assumption) (by with_reducible assumption) _).mono ?_; rintro e w' ⟨rfl, rfl⟩))
      go_ret
      exact ⟨rfl, rfl⟩
    · rw [if_neg h1]
      by_cases h2 : rb < ra
      · rw [if_pos h2]
        go_enter Tryd.func39, Tryd.ntmps39
        go_wp2_with (first
          | (go_at_call 16; refine (rclass_is _ _ (by with_reducible assumption) (by with_reducible assumption) _).mono ?_; rintro e w' ⟨rfl, rfl⟩)
          | (go_at_call 55; refine (rank_is _ _ (by with_reducible assumption) (by with_reducible assumption) _).mono ?_; rintro e w' ⟨rfl, rfl⟩))
        go_ret
        exact ⟨rfl, rfl⟩
      · rw [if_neg h2]
        go_enter Tryd.func39, Tryd.ntmps39
        go_wp2_with (first
          | (go_at_call 16; refine (rclass_is _ _ (by with_reducible assumption) (by with_reducible assumption) _).mono ?_; rintro e w' ⟨rfl, rfl⟩)
          | (go_at_call 55; refine (rank_is _ _ (by with_reducible assumption) (by with_reducible assumption) _).mono ?_; rintro e w' ⟨rfl, rfl⟩))
        go_ret
        exact ⟨rfl, rfl⟩
  · have c1 : (classS a == 1) = false := by simp; intro h; simp_all
    have c2 := n2.2 nb
    rw [show cmpS a b = -1 by simp [cmpS, na, nb]]
    clear n1 n2 hq
    generalize hx : classS a = X at *
    go_enter Tryd.func39, Tryd.ntmps39
    go_wp2_with (go_at_call 16; refine (rclass_is _ _ (by with_reducible assumption) (by with_reducible assumption) _).mono ?_; rintro e w' ⟨rfl, rfl⟩)
    go_ret
    exact ⟨rfl, rfl⟩
  · have c2 : (classS b == 1) = false := by simp; intro h; simp_all
    have c1 := n1.2 na
    rw [show cmpS a b = 1 by simp [cmpS, na, nb]]
    clear n1 n2 hq
    generalize hx : classS b = X at *
    go_enter Tryd.func39, Tryd.ntmps39
    go_wp2_with (go_at_call 16; refine (rclass_is _ _ (by with_reducible assumption) (by with_reducible assumption) _).mono ?_; rintro e w' ⟨rfl, rfl⟩)
    go_ret
    exact ⟨rfl, rfl⟩
  · have c1 := n1.2 na
    have c2 := n2.2 nb
    rw [show cmpS a b = 0 by simp [cmpS, na, nb]]
    clear n1 n2 hq
    go_enter Tryd.func39, Tryd.ntmps39
    go_wp2_with (go_at_call 16; refine (rclass_is _ _ (by with_reducible assumption) (by with_reducible assumption) _).mono ?_; rintro e w' ⟨rfl, rfl⟩)
    go_ret
    exact ⟨rfl, rfl⟩

theorem radd_any (a b : Int) (w : World) :
    Calls Tryd.prog 25 #[.int .u64 a, .int .u64 b] w fun e w' => e = .returned (.int .u64 (resS (floatBits .add .f64 a.toNat b.toNat))) ∧ Grown w w' := by
  cases hr : floatBits .add .f64 a.toNat b.toNat with
  | none =>
    obtain ⟨q, hq, hn, hrun⟩ := nan_draw .add 42 a.toNat b.toNat (by simp) hr w
    have hb := rbits_any q hq
    rw [show canonS q = 9221120237041090561 by simp [canonS, hn]] at hb
    simp only [resS]
    go_enter Tryd.func25, Tryd.ntmps25
    go_wp2_with (first
      | (go_at_call 53; refine (of_any _ _).mono ?_; rintro e w' ⟨rfl, rfl⟩)
      | (go_at_call 52; refine (hb _).mono ?_; rintro e w' ⟨rfl, rfl⟩))
    go_ret
    exact ⟨rfl, (Grown.refl _).drew⟩
  | some r =>
    have hrun := run_float_arith (P := Tryd.prog) w .add 42 .f64 a.toNat b.toNat r hr
    have hb := rbits_any r (U_of_bits hr)
    simp only [Int.toNat_natCast] at hb
    simp only [resS]
    go_enter Tryd.func25, Tryd.ntmps25
    go_wp2_with (first
      | (go_at_call 53; refine (of_any _ _).mono ?_; rintro e w' ⟨rfl, rfl⟩)
      | (go_at_call 52; refine (hb _).mono ?_; rintro e w' ⟨rfl, rfl⟩))
    go_ret
    exact ⟨rfl, Grown.refl _⟩

theorem rsub_any (a b : Int) (w : World) :
    Calls Tryd.prog 27 #[.int .u64 a, .int .u64 b] w fun e w' => e = .returned (.int .u64 (resS (floatBits .sub .f64 a.toNat b.toNat))) ∧ Grown w w' := by
  cases hr : floatBits .sub .f64 a.toNat b.toNat with
  | none =>
    obtain ⟨q, hq, hn, hrun⟩ := nan_draw .sub 42 a.toNat b.toNat (by simp) hr w
    have hb := rbits_any q hq
    rw [show canonS q = 9221120237041090561 by simp [canonS, hn]] at hb
    simp only [resS]
    go_enter Tryd.func27, Tryd.ntmps27
    go_wp2_with (first
      | (go_at_call 53; refine (of_any _ _).mono ?_; rintro e w' ⟨rfl, rfl⟩)
      | (go_at_call 52; refine (hb _).mono ?_; rintro e w' ⟨rfl, rfl⟩))
    go_ret
    exact ⟨rfl, (Grown.refl _).drew⟩
  | some r =>
    have hrun := run_float_arith (P := Tryd.prog) w .sub 42 .f64 a.toNat b.toNat r hr
    have hb := rbits_any r (U_of_bits hr)
    simp only [Int.toNat_natCast] at hb
    simp only [resS]
    go_enter Tryd.func27, Tryd.ntmps27
    go_wp2_with (first
      | (go_at_call 53; refine (of_any _ _).mono ?_; rintro e w' ⟨rfl, rfl⟩)
      | (go_at_call 52; refine (hb _).mono ?_; rintro e w' ⟨rfl, rfl⟩))
    go_ret
    exact ⟨rfl, Grown.refl _⟩

theorem rmul_any (a b : Int) (w : World) :
    Calls Tryd.prog 29 #[.int .u64 a, .int .u64 b] w fun e w' => e = .returned (.int .u64 (resS (floatBits .mul .f64 a.toNat b.toNat))) ∧ Grown w w' := by
  cases hr : floatBits .mul .f64 a.toNat b.toNat with
  | none =>
    obtain ⟨q, hq, hn, hrun⟩ := nan_draw .mul 42 a.toNat b.toNat (by simp) hr w
    have hb := rbits_any q hq
    rw [show canonS q = 9221120237041090561 by simp [canonS, hn]] at hb
    simp only [resS]
    go_enter Tryd.func29, Tryd.ntmps29
    go_wp2_with (first
      | (go_at_call 53; refine (of_any _ _).mono ?_; rintro e w' ⟨rfl, rfl⟩)
      | (go_at_call 52; refine (hb _).mono ?_; rintro e w' ⟨rfl, rfl⟩))
    go_ret
    exact ⟨rfl, (Grown.refl _).drew⟩
  | some r =>
    have hrun := run_float_arith (P := Tryd.prog) w .mul 42 .f64 a.toNat b.toNat r hr
    have hb := rbits_any r (U_of_bits hr)
    simp only [Int.toNat_natCast] at hb
    simp only [resS]
    go_enter Tryd.func29, Tryd.ntmps29
    go_wp2_with (first
      | (go_at_call 53; refine (of_any _ _).mono ?_; rintro e w' ⟨rfl, rfl⟩)
      | (go_at_call 52; refine (hb _).mono ?_; rintro e w' ⟨rfl, rfl⟩))
    go_ret
    exact ⟨rfl, Grown.refl _⟩

theorem rdiv_any (a b : Int) (w : World) :
    Calls Tryd.prog 31 #[.int .u64 a, .int .u64 b] w fun e w' => e = .returned (.int .u64 (resS (floatBits .quo .f64 a.toNat b.toNat))) ∧ Grown w w' := by
  cases hr : floatBits .quo .f64 a.toNat b.toNat with
  | none =>
    obtain ⟨q, hq, hn, hrun⟩ := nan_draw .quo 42 a.toNat b.toNat (by simp) hr w
    have hb := rbits_any q hq
    rw [show canonS q = 9221120237041090561 by simp [canonS, hn]] at hb
    simp only [resS]
    go_enter Tryd.func31, Tryd.ntmps31
    go_wp2_with (first
      | (go_at_call 53; refine (of_any _ _).mono ?_; rintro e w' ⟨rfl, rfl⟩)
      | (go_at_call 52; refine (hb _).mono ?_; rintro e w' ⟨rfl, rfl⟩))
    go_ret
    exact ⟨rfl, (Grown.refl _).drew⟩
  | some r =>
    have hrun := run_float_arith (P := Tryd.prog) w .quo 42 .f64 a.toNat b.toNat r hr
    have hb := rbits_any r (U_of_bits hr)
    simp only [Int.toNat_natCast] at hb
    simp only [resS]
    go_enter Tryd.func31, Tryd.ntmps31
    go_wp2_with (first
      | (go_at_call 53; refine (of_any _ _).mono ?_; rintro e w' ⟨rfl, rfl⟩)
      | (go_at_call 52; refine (hb _).mono ?_; rintro e w' ⟨rfl, rfl⟩))
    go_ret
    exact ⟨rfl, Grown.refl _⟩
end Go.Proofs.YtfegnjpajflnkaaDoor
