/- What the small functions of package floats answer, called with any bits. -/
import Derived.Test.YtfegnjpajflnkaaDoorRows
import Derived.Test.YtfegnjpajflnkaaDoorFl
import Derived.WalkKit
import Derived.WalkSpells
import Derived.WalkLawsBesides
import Derived.ProofKit
import Derived.RowKit3
import Derived.Laws.Externs
import Derived.Laws.BitsAllLaws
namespace Go.Proofs.YtfegnjpajflnkaaDoor
open Go.RowKit Fl
set_option linter.unusedSimpArgs false
set_option linter.unusedVariables false

theorem run_frombits (n : Int) (w : World) : (callFunc 46 #[.int .u64 n]).run Tryd.prog w = .ok (.value (.float .f64 n.toNat)) w := by
  rw [run_callFunc_extern (e := Extern.MathFloatBits.float64frombits) Tryd.func46 (by kernel_rfl) (by kernel_rfl) (by kernel_rfl) (by kernel_rfl)]
  rfl
theorem run_bits (b : Int) (hb : U b) (w : World) : (callFunc 63 #[.float .f64 b.toNat]).run Tryd.prog w = .ok (.value (.int .u64 b)) w := by
  rw [run_callFunc_extern (e := Extern.MathFloatBits.float64bits) Tryd.func63 (by kernel_rfl) (by kernel_rfl) (by kernel_rfl) (by kernel_rfl)]
  have e : b = (b.toNat : Int) := by obtain ⟨_, _⟩ := hb; omega
  rw [e]
  rfl

theorem bitsOf_any (b : Int) (hb : U b) (w : World) :
    Calls Tryd.prog 47 #[.float .f64 b.toNat] w fun e w' => e = .returned (.int .u64 (canonS b)) ∧ w = w' := by
  have h := ord_ne b hb
  have hbits := run_bits b hb
  cases hn : nan b with
  | true =>
    have e : canonS b = 9221120237041090561 := by simp [canonS, hn]
    rw [hn] at h
    rw [e]
    go_enter Tryd.func47, Tryd.ntmps47
    go_wp2
    go_ret
    exact ⟨rfl, rfl⟩
  | false =>
    have e : canonS b = b := by simp [canonS, hn]
    rw [hn] at h
    rw [e]
    go_enter Tryd.func47, Tryd.ntmps47
    go_wp2
    go_ret
    exact ⟨rfl, rfl⟩

theorem canon_any (a : Int) (ha : U a) (w : World) :
    Calls Tryd.prog 13 #[.int .u64 a] w fun e w' => e = .returned (.int .u64 (canonS a)) ∧ w = w' := by
  have hf := run_frombits
  go_enter Tryd.func13, Tryd.ntmps13
  go_wp2_with (go_at_call 47; refine (bitsOf_any a ha _).mono ?_; rintro e w' ⟨rfl, rfl⟩)
  go_ret
  exact ⟨rfl, rfl⟩

theorem U_rung (a : Int) : U (a % 9223372036854775808) := ⟨by omega, by omega⟩

theorem abs_any (a : Int) (ha : U a) (w : World) :
    Calls Tryd.prog 64 #[.float .f64 a.toNat] w fun e w' => e = .returned (.float .f64 (a % 9223372036854775808).toNat) ∧ w = w' := by
  have hf := run_frombits
  have hbits := run_bits a ha
  have hb : bits .andNot .u64 a 9223372036854775808 = a % 9223372036854775808 := by
    obtain ⟨h0, h1⟩ := ha
    rw [u64_andNot _ _ (by omega) (by omega) (by omega) (by omega)]
    have : a.toNat &&& (18446744073709551615 - (9223372036854775808 : Int).toNat) = a.toNat % 2 ^ 63 := by
      exact Nat.and_two_pow_sub_one_eq_mod _ 63
    rw [this]
    omega
  go_enter Tryd.func64, Tryd.ntmps64
  go_wp2
  go_ret
  exact ⟨rfl, rfl⟩

def infS (a : Int) : Bool := decide (a % 9223372036854775808 = 9218868437227405312)

theorem isInf_any (a : Int) (ha : U a) (w : World) :
    Calls Tryd.prog 48 #[.float .f64 a.toNat, .int .i64 0] w fun e w' => e = .returned (.bool (infS a)) ∧ w = w' := by
  have h := ord_gt (a % 9223372036854775808) 9218868437227405311 (U_rung a) ⟨by omega, by omega⟩
  have h' : (FloatKind.f64.format.order (a % 9223372036854775808).toNat 9218868437227405311 == some .gt) = infS a := by
    refine Eq.trans h ?_
    unfold lessS nan srI infS
    obtain ⟨_, _⟩ := ha
    by_cases e : a % 9223372036854775808 = 9218868437227405312
    · simp [e]
    · simp [e]; omega
  go_enter Tryd.func48, Tryd.ntmps48
  go_wp2_with (go_at_call 64; refine (abs_any a ha _).mono ?_; rintro e w' ⟨rfl, rfl⟩)
  go_ret
  exact ⟨by simp [h'], rfl⟩

theorem class_any (a : Int) (ha : U a) (w : World) :
    Calls Tryd.prog 15 #[.int .u64 a] w fun e w' => e = .returned (.int .i64 (classS a)) ∧ w = w' := by
  have hf := run_frombits
  have k1 := ord_ne a ha
  have k3 : (FloatKind.f64.format.order a.toNat 0 == some .eq) = eqS a 0 := ord_eq a 0 ha ⟨by omega, by omega⟩
  have k4 : (FloatKind.f64.format.order 9227875636482146304 a.toNat == some .lt) = lessS 9227875636482146304 a := ord_lt 9227875636482146304 a ⟨by omega, by omega⟩ ha
  have k5 : (FloatKind.f64.format.order a.toNat 4503599627370496 == some .lt) = lessS a 4503599627370496 := ord_lt a 4503599627370496 ha ⟨by omega, by omega⟩
  have hi := isInf_any a ha
  obtain ⟨h0, h1⟩ := ha
  by_cases c1 : 9218868437227405312 < a % 9223372036854775808
  · have e1 : nan a = true := by simp [nan, c1]
    have e : classS a = 1 := by simp [classS, c1]
    rw [e1] at k1
    rw [e]; clear k3 k4 k5 hi
    go_enter Tryd.func15, Tryd.ntmps15
    go_wp2
    go_ret
    exact ⟨rfl, rfl⟩
  have e1 : nan a = false := by simp [nan]; omega
  rw [e1] at k1
  by_cases c2 : a % 9223372036854775808 = 9218868437227405312
  · have e : classS a = 2 := by simp [classS, c2]
    have e2 : infS a = true := by simp [infS, c2]
    rw [e2] at hi
    rw [e]; clear k3 k4 k5
    go_enter Tryd.func15, Tryd.ntmps15
    go_wp2_with (go_at_call 48; refine (hi _).mono ?_; rintro e w' ⟨rfl, rfl⟩)
    go_ret
    exact ⟨rfl, rfl⟩
  have e2 : infS a = false := by simp [infS, c2]
  rw [e2] at hi
  by_cases c3 : a % 9223372036854775808 = 0
  · have e : classS a = 3 := by simp [classS, c3]
    have e3 : eqS a 0 = true := by simp [eqS, e1, srI, nan]; split <;> omega
    rw [e3] at k3
    rw [e]; clear k4 k5
    go_enter Tryd.func15, Tryd.ntmps15
    go_wp2_with (go_at_call 48; refine (hi _).mono ?_; rintro e w' ⟨rfl, rfl⟩)
    go_ret
    exact ⟨rfl, rfl⟩
  have e3 : eqS a 0 = false := by simp [eqS, e1, srI, nan]; split <;> omega
  rw [e3] at k3
  by_cases c4 : a % 9223372036854775808 < 4503599627370496
  · have e : classS a = 4 := by simp [classS, c1, c2, c3, c4]
    have e4 : lessS 9227875636482146304 a = true := by simp [lessS, e1, srI, nan]; split <;> omega
    have e5 : lessS a 4503599627370496 = true := by simp [lessS, e1, srI, nan]; split <;> omega
    rw [e4] at k4; rw [e5] at k5
    rw [e]
    go_enter Tryd.func15, Tryd.ntmps15
    go_wp2_with (go_at_call 48; refine (hi _).mono ?_; rintro e w' ⟨rfl, rfl⟩)
    go_ret
    exact ⟨rfl, rfl⟩
  have e : classS a = 5 := by simp [classS, c1, c2, c3, c4]
  rw [e]
  by_cases c5 : 9223372036854775808 ≤ a
  · have e4 : lessS 9227875636482146304 a = false := by simp [lessS, e1, srI, nan]; split <;> omega
    rw [e4] at k4; clear k5
    go_enter Tryd.func15, Tryd.ntmps15
    go_wp2_with (go_at_call 48; refine (hi _).mono ?_; rintro e w' ⟨rfl, rfl⟩)
    go_ret
    exact ⟨rfl, rfl⟩
  · have e4 : lessS 9227875636482146304 a = true := by simp [lessS, e1, srI, nan]; split <;> omega
    have e5 : lessS a 4503599627370496 = false := by simp [lessS, e1, srI, nan]; split <;> omega
    rw [e4] at k4; rw [e5] at k5
    go_enter Tryd.func15, Tryd.ntmps15
    go_wp2_with (go_at_call 48; refine (hi _).mono ?_; rintro e w' ⟨rfl, rfl⟩)
    go_ret
    exact ⟨rfl, rfl⟩
end Go.Proofs.YtfegnjpajflnkaaDoor
