/- Plain facts on sums, products, differences and quotients of doubles. -/
import Derived.Test.YtfegnjpajflnkaaDoorNear
import Derived.Laws.FloatArith
namespace Go.Proofs.YtfegnjpajflnkaaDoor
set_option linter.unusedSimpArgs false
set_option linter.unusedVariables false
open Fl

/-- The bits of a result, one NaN for all. -/
def resS (r : Option Nat) : Int := match r with | some n => canonS n | none => 9221120237041090561

theorem U_of_bits {op : BinOp} {x y r : Nat} (h : floatBits op .f64 x y = some r) : U (r : Int) := by
  have := floatBits_wf h
  simp only [Lit.wf, decide_eq_true_eq] at this
  exact ⟨by omega, by omega⟩

theorem canon_U (a : Int) (ha : U a) : U (canonS a) := by
  unfold canonS
  split
  · exact ⟨by omega, by omega⟩
  · exact ha
theorem res_U (op : BinOp) (x y : Nat) : U (resS (floatBits op .f64 x y)) := by
  cases h : floatBits op .f64 x y with
  | none => exact ⟨by simp [resS], by simp [resS]⟩
  | some r => exact canon_U _ (U_of_bits h)
theorem neg_U (a : Int) (ha : U a) : U (negS a) := by
  obtain ⟨_, _⟩ := ha
  unfold negS
  repeat' split
  all_goals exact ⟨by omega, by omega⟩

theorem sum_comm (x y : Ieee.Datum) : x.sum y = y.sum x := by
  cases x <;> cases y <;> simp only [Ieee.Datum.sum]
  case number.number s m i t n j =>
    rw [Int.min_comm i j, Int.add_comm, Bool.and_comm]
  case infinity.infinity s t =>
    by_cases h : s = t
    · subst h; rfl
    · rw [if_neg h, if_neg (fun e => h e.symm)]
theorem product_comm (x y : Ieee.Datum) : x.product y = y.product x := by
  cases x <;> cases y <;> simp only [Ieee.Datum.product]
  case number.number s m i t n j =>
    rw [Nat.mul_comm, Int.add_comm, Bool.xor_comm]
  case infinity.infinity s t => rw [Bool.xor_comm]

theorem laws_add (a b : Int) : resS (floatBits .add .f64 b.toNat a.toNat) = resS (floatBits .add .f64 a.toNat b.toNat) := by
  simp only [floatBits, Ieee.Format.add]
  rw [sum_comm]
theorem laws_mul (a b : Int) : resS (floatBits .mul .f64 b.toNat a.toNat) = resS (floatBits .mul .f64 a.toNat b.toNat) := by
  simp only [floatBits, Ieee.Format.mul]
  rw [product_comm]

theorem sum_nan_right (x : Ieee.Datum) (s : Bool) (f : Nat) : x.sum (.nan s f) = none := by
  cases x <;> rfl

theorem read_neg (b : Int) (hb : U b) (h : nan b = false) : Ieee.double.read (negS b).toNat = (Ieee.double.read b.toNat).opposite := by
  obtain ⟨h0, h1⟩ := hb
  have h' := h
  simp only [nan, decide_eq_false_iff_not] at h'
  have e : negS b = if 9223372036854775808 ≤ b then b - 9223372036854775808 else b + 9223372036854775808 := by simp [negS, h]
  have er : (negS b).toNat % 9223372036854775808 = b.toNat % 9223372036854775808 := by rw [e]; split <;> omega
  have es : ((negS b).toNat / 9223372036854775808 % 2 == 1) = !(b.toNat / 9223372036854775808 % 2 == 1) := by
    rw [e]
    split
    · have e1 : (b - 9223372036854775808).toNat / 9223372036854775808 % 2 = 0 := by omega
      have e2 : b.toNat / 9223372036854775808 % 2 = 1 := by omega
      rw [e1, e2]; rfl
    · have e1 : (b + 9223372036854775808).toNat / 9223372036854775808 % 2 = 1 := by omega
      have e2 : b.toNat / 9223372036854775808 % 2 = 0 := by omega
      rw [e1, e2]; rfl
  by_cases c : b.toNat % 9223372036854775808 < 9218868437227405312
  · rw [read_fin _ c, read_fin _ (by rw [er]; exact c), es, er]
    rfl
  · rw [read_inf _ (by omega), read_inf _ (by omega), es]
    rfl

theorem laws_sub (a b : Int) (hb : U b) : resS (floatBits .add .f64 a.toNat (negS b).toNat) = resS (floatBits .sub .f64 a.toNat b.toNat) := by
  simp only [floatBits]
  change resS (Ieee.double.add _ _) = resS (Ieee.double.sub _ _)
  unfold Ieee.Format.add Ieee.Format.sub
  cases h : nan b
  · rw [read_neg b hb h]
  · have e : negS b = 9221120237041090561 := by simp [negS, h]
    obtain ⟨h0, h1⟩ := hb
    simp only [nan, decide_eq_true_eq] at h
    have e1 : Ieee.double.read (9221120237041090561 : Int).toNat = .nan false 2251799813685249 := by decide
    rw [e, e1, read_nan b.toNat (by omega)]
    simp only [Ieee.Datum.opposite]
    rw [sum_nan_right, sum_nan_right]

theorem signed_not (t : Bool) (n u : Nat) : Ieee.signed (!t) n u = - Ieee.signed t n u := by
  unfold Ieee.signed
  cases t <;> simp

theorem compare_lt_iff (a b : Int) : compare a b = .lt ↔ a < b := by
  rw [compare_int]
  by_cases h : a < b
  · rw [if_pos h]; simp [h]
  · rw [if_neg h]
    by_cases h2 : a = b
    · rw [if_pos h2]; simp [h2]
    · rw [if_neg h2]; simp [h]
theorem compare_eq_iff (a b : Int) : compare a b = .eq ↔ a = b := by
  rw [compare_int]
  by_cases h : a < b
  · rw [if_pos h]; constructor
    · intro e; cases e
    · intro e; omega
  · rw [if_neg h]
    by_cases h2 : a = b
    · rw [if_pos h2]; simp [h2]
    · rw [if_neg h2]; simp [h2]

theorem sub_fin (x y : Nat) (hx : x % 9223372036854775808 < 9218868437227405312) (hy : y % 9223372036854775808 < 9218868437227405312) :
    ∃ (T base : Int) (z : Bool), -1074 ≤ base ∧ Ieee.double.sub x y = some (Ieee.double.word (if T = 0 then z else decide (T < 0)) (rung T.natAbs base)) ∧ (T < 0 ↔ sr x < sr y) ∧ (T = 0 ↔ sr x = sr y) := by
  have ho := order_fin x y hx hy
  unfold Ieee.Format.order at ho
  unfold Ieee.Format.sub
  rw [read_fin x hx, read_fin y hy] at *
  simp only [Ieee.Datum.order, Option.some.injEq] at ho
  simp only [Ieee.Datum.opposite, Ieee.Datum.sum, signed_not, Option.map_some, Ieee.Format.write, nearest_rung]
  generalize (x / 9223372036854775808 % 2 == 1) = s at *
  generalize (y / 9223372036854775808 % 2 == 1) = t at *
  generalize hA : Ieee.signed s _ _ = A at *
  generalize hB : Ieee.signed t _ _ = B at *
  refine ⟨A + -B, _, s && !t, ?_, rfl, ?_, ?_⟩
  · omega
  · have := compare_lt_iff A B
    rw [ho, compare_lt_iff] at this
    rw [this]
    omega
  · have := compare_eq_iff A B
    rw [ho, compare_eq_iff] at this
    rw [this]
    omega

theorem fin_of_class (a : Int) (ha : U a) (h : ¬ classS a < 3) : a.toNat % 9223372036854775808 < 9218868437227405312 ∧ nan a = false := by
  obtain ⟨_, _⟩ := ha
  unfold classS at h
  unfold nan
  simp only [decide_eq_false_iff_not]
  revert h
  repeat' split
  all_goals omega

theorem laws_diff (a b : Int) (ha : U a) (hb : U b) (h1 : ¬ classS a < 3) (h2 : ¬ classS b < 3) :
    (classS (resS (floatBits .sub .f64 a.toNat b.toNat)) == 3) = eqS a b ∧ lessS (resS (floatBits .sub .f64 a.toNat b.toNat)) 0 = lessS a b := by
  obtain ⟨f1, n1⟩ := fin_of_class a ha h1
  obtain ⟨f2, n2⟩ := fin_of_class b hb h2
  obtain ⟨T, base, z, hbase, hs, hlt, heq⟩ := sub_fin a.toNat b.toNat f1 f2
  rw [srI_eq a ha, srI_eq b hb] at hlt heq
  have e0 : floatBits .sub .f64 a.toNat b.toNat = some (Ieee.double.word (if T = 0 then z else decide (T < 0)) (rung T.natAbs base)) := hs
  rw [e0]
  have hr := rung_le T.natAbs base
  have hz := rung_zero T.natAbs base hbase
  have e1 : eqS a b = decide (T = 0) := by simp [eqS, n1, n2, decide_eq_decide.2 heq]
  have e2 : lessS a b = decide (T < 0) := by simp [lessS, n1, n2, decide_eq_decide.2 hlt]
  rw [e1, e2]
  simp only [resS, word_f]
  generalize rung T.natAbs base = r at *
  by_cases t0 : T = 0
  · have r0 : r = 0 := by rw [hz]; omega
    subst t0 r0
    cases z <;> decide
  · have r0 : r ≠ 0 := by rw [ne_eq, hz]; omega
    rw [if_neg t0]
    by_cases t1 : T < 0
    · simp only [t1, t0, decide_true, decide_false, if_true]
      have n3 : nan ((9223372036854775808 + r : Nat) : Int) = false := by unfold nan; simp only [decide_eq_false_iff_not]; omega
      have e3 : canonS ((9223372036854775808 + r : Nat) : Int) = ((9223372036854775808 + r : Nat) : Int) := by simp only [canonS, n3, Bool.false_eq_true, if_false]
      rw [e3]
      constructor
      · rw [beq_eq_false_iff_ne]
        unfold classS
        repeat' split
        all_goals omega
      · unfold lessS
        rw [n3]
        simp only [Bool.not_false, Bool.true_and, Bool.and_eq_true, decide_eq_true_eq]
        refine ⟨by decide, ?_⟩
        unfold srI
        rw [if_pos (by omega), if_neg (by omega)]
        omega
    · simp only [t1, t0, decide_false, Bool.false_eq_true, if_false]
      have n3 : nan ((r : Nat) : Int) = false := by unfold nan; simp only [decide_eq_false_iff_not]; omega
      have e3 : canonS ((r : Nat) : Int) = ((r : Nat) : Int) := by simp only [canonS, n3, Bool.false_eq_true, if_false]
      rw [e3]
      constructor
      · rw [beq_eq_false_iff_ne]
        unfold classS
        repeat' split
        all_goals omega
      · unfold lessS
        rw [n3]
        have : ¬ srI (r : Int) < srI 0 := by unfold srI; rw [if_neg (by omega), if_neg (by omega)]; omega
        simp [this]

/-- A finite double, as a number. -/
theorem word_self (a : Int) (ha : U a) : (Ieee.double.word (a.toNat / 9223372036854775808 % 2 == 1) (a.toNat % 9223372036854775808) : Nat) = a.toNat := by
  obtain ⟨_, _⟩ := ha
  rw [word_f]
  by_cases c : a.toNat / 9223372036854775808 % 2 = 1
  · simp [c]; omega
  · simp [c]; omega

theorem canon_self (a : Int) (h : nan a = false) : canonS a = a := by simp [canonS, h]

theorem laws_div (a : Int) (ha : U a) (h1 : ¬ classS a < 3) : resS (floatBits .quo .f64 a.toNat (4607182418800017408 : Int).toNat) = a := by
  obtain ⟨f1, n1⟩ := fin_of_class a ha h1
  have e1 : Ieee.double.read (4607182418800017408 : Int).toNat = .number false 4503599627370496 (-52) := by decide
  have e : floatBits .quo .f64 a.toNat (4607182418800017408 : Int).toNat = some a.toNat := by
    change Ieee.double.div _ _ = _
    unfold Ieee.Format.div
    rw [e1, read_fin a.toNat f1]
    simp only [Ieee.Datum.quotient]
    rw [if_neg (by decide)]
    have hw := word_self a ha
    generalize hr : a.toNat % 9223372036854775808 = r at *
    generalize (a.toNat / 9223372036854775808 % 2 == 1) = s at *
    simp only [Option.map_some, Ieee.Format.write, Bool.xor_false, Option.some.injEq]
    rw [nearest_rung]
    refine Eq.trans (congrArg _ ?_) hw
    have hl : (mag r).log2 ≤ 52 := by
      by_cases c : r < 4503599627370496
      · by_cases c0 : r = 0
        · subst c0; decide
        · have := mag_log2_small r c c0; omega
      · have := mag_log2 r (by omega); omega
    have hl2 : (4503599627370496 : Nat).log2 = 52 := by decide
    have hfb : Ieee.double.fractionBits = 52 := rfl
    rw [hfb, hl2]
    obtain ⟨k, hk⟩ : ∃ k, 52 + 2 + 52 - (mag r).log2 = 52 + k := ⟨52 + 2 + 52 - (mag r).log2 - 52, by omega⟩
    rw [hk, Nat.shiftLeft_eq, Nat.pow_add, show (2 : Nat) ^ 52 = 4503599627370496 from rfl, Nat.mul_comm 4503599627370496, ← Nat.mul_assoc, Nat.mul_div_cancel _ (by decide), Nat.mul_mod_left]
    refine rung_exact _ _ r (ex r) (k + 1) f1 ?_ ?_
    · omega
    · have e0 : (0 != 0 : Bool).toNat = 0 := rfl
      rw [e0, Nat.add_zero]
      unfold val
      rw [Nat.pow_succ]
      have g : ∀ A B C : Nat, 2 * (A * B) * C = A * C * (B * 2) := by intro A B C; ac_rfl
      exact g _ _ _
  rw [e]
  simp only [resS]
  have : ((a.toNat : Nat) : Int) = a := by obtain ⟨_, _⟩ := ha; omega
  rw [this, canon_self a n1]
end Go.Proofs.YtfegnjpajflnkaaDoor
