/- FromInt, doubling and halving: what they answer, for numbers that a double holds. -/
import Derived.Test.YtfegnjpajflnkaaDoorT2
namespace Go.Proofs.YtfegnjpajflnkaaDoor
open Go.RowKit Fl
set_option linter.unusedSimpArgs false
set_option linter.unusedVariables false

theorem nan_word (s : Bool) (r : Nat) (h : r ≤ 9218868437227405312) : nan ((Ieee.double.word s r : Nat) : Int) = false ∧ U ((Ieee.double.word s r : Nat) : Int) := by
  rw [word_f]
  unfold nan
  simp only [decide_eq_false_iff_not]
  cases s <;> simp <;> exact ⟨by omega, ⟨by omega, by omega⟩⟩

theorem floatOfInt_eq (n : Int) : floatOfInt .f64 n = Ieee.double.word (decide (n < 0)) (rung n.natAbs 0) := by
  unfold floatOfInt FloatKind.nearest FloatKind.encode
  change Ieee.double.write _ = _
  simp only [Ieee.Format.write]
  rw [nearest_rung]

theorem fromInt_any (n : Int) (w : World) :
    Calls Tryd.prog 44 #[.int .i64 n] w fun e w' => e = .returned (.int .u64 (floatOfInt .f64 n : Nat)) ∧ w = w' := by
  have hu := nan_word (decide (n < 0)) (rung n.natAbs 0) (rung_le _ _)
  rw [← floatOfInt_eq] at hu
  have hb := bitsOf_any _ hu.2
  rw [canon_self _ hu.1] at hb
  simp only [Int.toNat_natCast] at hb
  go_enter Tryd.func44, Tryd.ntmps44
  go_wp2_with (go_at_call 47; refine (hb _).mono ?_; rintro e w' ⟨rfl, rfl⟩)
  go_ret
  exact ⟨rfl, rfl⟩

theorem mul_exact (a b : Int) (r : Nat) (h : floatBits .mul .f64 a.toNat b.toNat = some r) (hn : nan (r : Int) = false) (w : World) :
    Calls Tryd.prog 28 #[.int .u64 a, .int .u64 b] w fun e w' => e = .returned (.int .u64 (r : Nat)) ∧ w = w' := by
  have hf := run_frombits
  have hrun := run_float_arith (P := Tryd.prog) w .mul 42 .f64 a.toNat b.toNat r h
  have hb := bitsOf_any r (U_of_bits h)
  rw [canon_self _ hn] at hb
  simp only [Int.toNat_natCast] at hb
  go_enter Tryd.func28, Tryd.ntmps28
  go_wp2_with (go_at_call 47; refine (hb _).mono ?_; rintro e w' ⟨rfl, rfl⟩)
  go_ret
  exact ⟨rfl, rfl⟩
theorem div_exact (a b : Int) (r : Nat) (h : floatBits .quo .f64 a.toNat b.toNat = some r) (hn : nan (r : Int) = false) (w : World) :
    Calls Tryd.prog 30 #[.int .u64 a, .int .u64 b] w fun e w' => e = .returned (.int .u64 (r : Nat)) ∧ w = w' := by
  have hf := run_frombits
  have hrun := run_float_arith (P := Tryd.prog) w .quo 42 .f64 a.toNat b.toNat r h
  have hb := bitsOf_any r (U_of_bits h)
  rw [canon_self _ hn] at hb
  simp only [Int.toNat_natCast] at hb
  go_enter Tryd.func30, Tryd.ntmps30
  go_wp2_with (go_at_call 47; refine (hb _).mono ?_; rintro e w' ⟨rfl, rfl⟩)
  go_ret
  exact ⟨rfl, rfl⟩

theorem nan_rung (r : Nat) (h : r < 9218868437227405312) : nan (r : Int) = false := by
  unfold nan
  simp only [decide_eq_false_iff_not]
  omega
theorem read_two : Ieee.double.read 4611686018427387904 = .number false 4503599627370496 (-51) := by decide
theorem read_pos (r : Nat) (hr : r < 9218868437227405312) : Ieee.double.read r = .number false (mag r) (-1074 + (ex r : Nat)) := by
  have e1 : r % 9223372036854775808 = r := by omega
  have e2 : r / 9223372036854775808 % 2 = 0 := by omega
  rw [read_fin r (by omega), e1, e2]
  rfl
theorem dbl (r q : Nat) (hr : r < 9218868437227405312) (hq : q < 9218868437227405312) (h : val q = 2 * val r) : floatBits .mul .f64 r 4611686018427387904 = some q := by
  change Ieee.double.mul _ _ = _
  unfold Ieee.Format.mul
  rw [read_two, read_pos r hr]
  simp only [Ieee.Datum.product, Option.map_some, Ieee.Format.write, Bool.xor_false, Option.some.injEq]
  rw [nearest_rung, rung_exact _ _ q (ex r) 51 hq (by omega) _, word_f]
  · rfl
  · rw [h]
    unfold val
    rw [show (4503599627370496 : Nat) = 2 * 2 ^ 51 from rfl]
    ac_rfl
theorem half (r q : Nat) (hr : r < 9218868437227405312) (hq : q < 9218868437227405312) (h : val r = 2 * val q) : floatBits .quo .f64 r 4611686018427387904 = some q := by
  change Ieee.double.div _ _ = _
  unfold Ieee.Format.div
  rw [read_two, read_pos r hr]
  simp only [Ieee.Datum.quotient]
  rw [if_neg (by decide)]
  simp only [Option.map_some, Ieee.Format.write, Bool.xor_false, Option.some.injEq]
  have hl : (mag r).log2 ≤ 52 := by
    by_cases c : r < 4503599627370496
    · by_cases c0 : r = 0
      · subst c0; decide
      · have := mag_log2_small r c c0; omega
    · have := mag_log2 r (by omega); omega
  have hl2 : (4503599627370496 : Nat).log2 = 52 := by decide
  have hfb : Ieee.double.fractionBits = 52 := rfl
  rw [hfb, hl2]
  obtain ⟨k, hk⟩ : ∃ k, 52 + 2 + 52 - (mag r).log2 = 52 + k := ⟨52 + 2 + 52 - (mag r).log2 - 52, by omega⟩
  rw [hk, Nat.shiftLeft_eq, Nat.pow_add, show (2 : Nat) ^ 52 = 4503599627370496 from rfl, Nat.mul_comm 4503599627370496, ← Nat.mul_assoc, Nat.mul_div_cancel _ (by decide), Nat.mul_mod_left]
  rw [nearest_rung, rung_exact _ _ q (ex r) (k + 2) hq (by omega) _, word_f]
  · rfl
  · have e0 : (0 != 0 : Bool).toNat = 0 := rfl
    rw [e0, Nat.add_zero]
    have e1 : val q * 2 ^ (k + 2) = (2 * val q) * 2 ^ (k + 1) := by rw [Nat.pow_succ]; ac_rfl
    rw [e1, ← h]
    unfold val
    rw [Nat.pow_succ]
    ac_rfl
end Go.Proofs.YtfegnjpajflnkaaDoor
