/- What the other functions of package floats without texts answer, called with any bits. -/
import Derived.Test.YtfegnjpajflnkaaDoorW1
namespace Go.Proofs.YtfegnjpajflnkaaDoor
open Go.RowKit Fl
set_option linter.unusedSimpArgs false
set_option linter.unusedVariables false

theorem less_any (a b : Int) (ha : U a) (hb : U b) (w : World) :
    Calls Tryd.prog 34 #[.int .u64 a, .int .u64 b] w fun e w' => e = .returned (.bool (lessS a b)) ∧ w = w' := by
  have hf := run_frombits
  have k := ord_lt a b ha hb
  go_enter Tryd.func34, Tryd.ntmps34
  go_wp2
  go_ret
  exact ⟨rfl, rfl⟩
theorem equal_any (a b : Int) (ha : U a) (hb : U b) (w : World) :
    Calls Tryd.prog 32 #[.int .u64 a, .int .u64 b] w fun e w' => e = .returned (.bool (eqS a b)) ∧ w = w' := by
  have hf := run_frombits
  have k := ord_eq a b ha hb
  go_enter Tryd.func32, Tryd.ntmps32
  go_wp2
  go_ret
  exact ⟨rfl, rfl⟩
theorem lessEq_any (a b : Int) (ha : U a) (hb : U b) (w : World) :
    Calls Tryd.prog 36 #[.int .u64 a, .int .u64 b] w fun e w' => e = .returned (.bool (lessS a b || eqS a b)) ∧ w = w' := by
  have hf := run_frombits
  have k := ord_eq a b ha hb
  have k' := ord_lt a b ha hb
  go_enter Tryd.func36, Tryd.ntmps36
  go_wp2
  go_ret
  exact ⟨rfl, rfl⟩

theorem U_neg (a : Int) (ha : U a) : U (if 9223372036854775808 ≤ a then a - 9223372036854775808 else a + 9223372036854775808) := by
  obtain ⟨_, _⟩ := ha
  split <;> exact ⟨by omega, by omega⟩
theorem xor_sign (a : Int) (ha : U a) : bits .xor .u64 a 9223372036854775808 = if 9223372036854775808 ≤ a then a - 9223372036854775808 else a + 9223372036854775808 := by
  obtain ⟨h0, h1⟩ := ha
  rw [u64_xor _ _ h0 h1 (by omega) (by omega)]
  have key : ∀ n : Nat, n < 18446744073709551616 → n ^^^ 9223372036854775808 = if 9223372036854775808 ≤ n then n - 9223372036854775808 else n + 9223372036854775808 := by
    intro n hn
    change n ^^^ 2 ^ 63 = _
    generalize hz : n ^^^ 2 ^ 63 = z
    have lo : z % 2 ^ 63 = n % 2 ^ 63 := by
      rw [← hz, Nat.xor_mod_two_pow]; simp
    have hi : z / 2 ^ 63 = (n / 2 ^ 63) ^^^ 1 := by
      rw [← hz, Nat.xor_div_two_pow]
    have d : n / 2 ^ 63 = 0 ∨ n / 2 ^ 63 = 1 := by omega
    split
    · have d1 : n / 2 ^ 63 = 1 := by omega
      rw [d1] at hi
      have : (1 ^^^ 1 : Nat) = 0 := by decide
      omega
    · have d1 : n / 2 ^ 63 = 0 := by omega
      rw [d1] at hi
      have : (0 ^^^ 1 : Nat) = 1 := by decide
      omega
  have e := key a.toNat (by omega)
  rw [show (9223372036854775808 : Int).toNat = 9223372036854775808 from rfl, e]
  split <;> split <;> omega

theorem negS_eq (a : Int) (ha : U a) : canonS (if 9223372036854775808 ≤ a then a - 9223372036854775808 else a + 9223372036854775808) = negS a := by
  obtain ⟨_, _⟩ := ha
  unfold canonS negS nan
  simp only [decide_eq_true_eq]
  repeat' split
  all_goals omega

theorem neg_any (a : Int) (ha : U a) (w : World) :
    Calls Tryd.prog 17 #[.int .u64 a] w fun e w' => e = .returned (.int .u64 (negS a)) ∧ w = w' := by
  rw [← negS_eq a ha]
  have hx := xor_sign a ha
  have hu := U_neg a ha
  generalize (if 9223372036854775808 ≤ a then a - 9223372036854775808 else a + 9223372036854775808) = b at *
  go_enter Tryd.func17, Tryd.ntmps17
  go_wp2_with (go_at_call 13; refine (canon_any b hu _).mono ?_; rintro e w' ⟨rfl, rfl⟩)
  go_ret
  exact ⟨rfl, rfl⟩

theorem and_sign (a : Int) (ha : U a) : bits .and .u64 a 9223372036854775808 = if 9223372036854775808 ≤ a then 9223372036854775808 else 0 := by
  obtain ⟨h0, h1⟩ := ha
  rw [u64_and _ _ h0 h1 (by omega) (by omega)]
  have e := nat_bit 63 a.toNat
  rw [show (9223372036854775808 : Int).toNat = 2 ^ 63 from rfl, e]
  split <;> omega

def cmpU (a b : Int) : Int := if a < b then -1 else if b < a then 1 else 0
theorem cmpu_any (a b : Int) (w : World) :
    Calls Tryd.prog 56 #[.int .u64 a, .int .u64 b] w fun e w' => e = .returned (.int .i64 (cmpU a b)) ∧ w = w' := by
  unfold cmpU
  by_cases h : a < b
  · rw [if_pos h]
    go_enter Tryd.func56, Tryd.ntmps56
    go_wp2
    go_ret
    exact ⟨rfl, rfl⟩
  · rw [if_neg h]
    by_cases h2 : b < a
    · rw [if_pos h2]
      go_enter Tryd.func56, Tryd.ntmps56
      go_wp2
      go_ret
      exact ⟨rfl, rfl⟩
    · rw [if_neg h2]
      go_enter Tryd.func56, Tryd.ntmps56
      go_wp2
      go_ret
      exact ⟨rfl, rfl⟩

theorem compare_any (a b : Int) (ha : U a) (hb : U b) (w : World) :
    Calls Tryd.prog 38 #[.int .u64 a, .int .u64 b] w fun e w' => e = .returned (.int .i64 (cmpS a b)) ∧ w = w' := by
  have hf := run_frombits
  have k1 := ord_ne a ha
  have k2 := ord_ne b hb
  have k3 := ord_lt a b ha hb
  have k4 := ord_lt b a hb ha
  have hx := and_sign a ha
  have hy := and_sign b hb
  cases na : nan a <;> cases nb : nan b <;> rw [na] at k1 <;> rw [nb] at k2
  case true.true =>
    have e : cmpS a b = 0 := by simp [cmpS, na, nb]
    rw [e]; clear k3 k4
    go_enter Tryd.func38, Tryd.ntmps38
    go_wp2
    go_ret
    exact ⟨rfl, rfl⟩
  case true.false =>
    have e : cmpS a b = 1 := by simp [cmpS, na, nb]
    rw [e]; clear k3 k4
    go_enter Tryd.func38, Tryd.ntmps38
    go_wp2
    go_ret
    exact ⟨rfl, rfl⟩
  case false.true =>
    have e : cmpS a b = -1 := by simp [cmpS, na, nb]
    rw [e]; clear k3 k4
    go_enter Tryd.func38, Tryd.ntmps38
    go_wp2
    go_ret
    exact ⟨rfl, rfl⟩
  case false.false =>
    by_cases h : srI a < srI b
    · have e : cmpS a b = -1 := by simp [cmpS, na, nb, h]
      have e3 : lessS a b = true := by simp [lessS, na, nb, h]
      rw [e3] at k3
      rw [e]; clear k4
      go_enter Tryd.func38, Tryd.ntmps38
      go_wp2
      go_ret
      exact ⟨rfl, rfl⟩
    · have e3 : lessS a b = false := by simp [lessS, na, nb]; omega
      rw [e3] at k3
      by_cases h2 : srI b < srI a
      · have e : cmpS a b = 1 := by simp [cmpS, na, nb, h, h2]
        have e4 : lessS b a = true := by simp [lessS, na, nb, h2]
        rw [e4] at k4
        rw [e]
        go_enter Tryd.func38, Tryd.ntmps38
        go_wp2
        go_ret
        exact ⟨rfl, rfl⟩
      · have e4 : lessS b a = false := by simp [lessS, na, nb]; omega
        rw [e4] at k4
        have e : cmpS a b = (if (if 9223372036854775808 ≤ b then (9223372036854775808 : Int) else 0) < (if 9223372036854775808 ≤ a then 9223372036854775808 else 0) then -1 else if (if 9223372036854775808 ≤ a then (9223372036854775808 : Int) else 0) < (if 9223372036854775808 ≤ b then 9223372036854775808 else 0) then 1 else 0) := by
          obtain ⟨_, _⟩ := ha; obtain ⟨_, _⟩ := hb
          simp only [cmpS, na, nb, h, h2, if_false, Bool.false_eq_true]
          unfold srI at h h2
          repeat' split
          all_goals omega
        rw [e]
        clear e
        generalize (if 9223372036854775808 ≤ b then (9223372036854775808 : Int) else 0) = y at *
        generalize (if 9223372036854775808 ≤ a then (9223372036854775808 : Int) else 0) = x at *
        change Calls _ _ _ _ fun e w' => e = .returned (.int .i64 (cmpU y x)) ∧ _
        go_enter Tryd.func38, Tryd.ntmps38
        go_wp2_with (go_at_call 56; refine (cmpu_any y x _).mono ?_; rintro e w' ⟨rfl, rfl⟩)
        go_ret
        exact ⟨rfl, rfl⟩

theorem next_any (a : Int) (ha : U a) (w : World) :
    Calls Tryd.prog 19 #[.int .u64 a] w fun e w' => e = .returned (.int .u64 (nextS a)) ∧ w = w' := by
  have hc := class_any a ha
  have hx := and_sign a ha
  have hu := ha
  obtain ⟨h0, h1⟩ := ha
  cases na : nan a with
  | true =>
    have e : nextS a = 9221120237041090561 := by simp [nextS, na]
    have e1 : classS a = 1 := by simp only [nan, decide_eq_true_eq] at na; simp [classS, na]
    rw [e1] at hc
    rw [e]
    go_enter Tryd.func19, Tryd.ntmps19
    go_wp2_with (go_at_call 15; refine (hc _).mono ?_; rintro e w' ⟨rfl, rfl⟩)
    go_ret
    exact ⟨rfl, rfl⟩
  | false =>
    have e1 : (classS a == 1) = false := by
      simp only [nan, decide_eq_false_iff_not] at na
      simp only [classS, na, if_false]
      repeat' split
      all_goals rfl
    by_cases c2 : a = 9223372036854775808
    · subst c2
      have e : nextS 9223372036854775808 = 0 := by decide
      rw [e]
      go_enter Tryd.func19, Tryd.ntmps19
      go_wp2_with (go_at_call 15; refine (hc _).mono ?_; rintro e w' ⟨rfl, rfl⟩)
      go_ret
      exact ⟨rfl, rfl⟩
    · by_cases c3 : 9223372036854775808 < a
      · have e : nextS a = a - 1 := by simp [nextS, na, c2, c3]
        rw [if_pos (by omega)] at hx
        rw [e]
        go_enter Tryd.func19, Tryd.ntmps19
        go_wp2_with (go_at_call 15; refine (hc _).mono ?_; rintro e w' ⟨rfl, rfl⟩)
        go_ret
        exact ⟨rfl, rfl⟩
      · have e : nextS a = canonS (a + 1) := by
          simp only [nan, decide_eq_false_iff_not] at na
          simp only [nextS, canonS, nan, decide_eq_true_eq]
          repeat' split
          all_goals omega
        rw [if_neg (by omega)] at hx
        rw [e]
        go_enter Tryd.func19, Tryd.ntmps19
        go_wp2_with (first | (go_at_call 15; refine (hc _).mono ?_; rintro e w' ⟨rfl, rfl⟩) | (go_at_call 13; refine (canon_any (a + 1) ⟨by omega, by omega⟩ _).mono ?_; rintro e w' ⟨rfl, rfl⟩))
        go_ret
        exact ⟨rfl, rfl⟩
end Go.Proofs.YtfegnjpajflnkaaDoor
