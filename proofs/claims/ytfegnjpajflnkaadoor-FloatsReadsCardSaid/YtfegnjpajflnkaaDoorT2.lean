/- Parts, Text at 1.5, the arithmetic and alive: what they answer. -/
import Derived.Test.YtfegnjpajflnkaaDoorT1
import Derived.Test.YtfegnjpajflnkaaDoorArith
namespace Go.Proofs.YtfegnjpajflnkaaDoor
open Go.RowKit Fl
set_option linter.unusedSimpArgs false
set_option linter.unusedVariables false

def partM (a : Int) : Int := if classS a < 3 then 0 else if classS a < 5 then a % 4503599627370496 else a % 4503599627370496 + 4503599627370496
def partE (a : Int) : Int := if classS a < 3 then 0 else if classS a < 5 then -1074 else a / 4503599627370496 % 2048 - 1075
def partN (a : Int) : Bool := if classS a = 1 then false else decide (9223372036854775808 ≤ a)

theorem and_frac (a : Int) (ha : U a) : bits .and .u64 a 4503599627370495 = a % 4503599627370496 := by
  obtain ⟨h0, h1⟩ := ha
  rw [u64_and _ _ h0 h1 (by omega) (by omega)]
  have := Nat.and_two_pow_sub_one_eq_mod a.toNat 52
  rw [show (4503599627370495 : Int).toNat = 2 ^ 52 - 1 from rfl, this]
  omega
theorem and_exp (a : Int) (ha : U a) : bits .and .u64 a 2047 = a % 2048 := by
  obtain ⟨h0, h1⟩ := ha
  rw [u64_and _ _ h0 h1 (by omega) (by omega)]
  have := Nat.and_two_pow_sub_one_eq_mod a.toNat 11
  rw [show (2047 : Int).toNat = 2 ^ 11 - 1 from rfl, this]
  omega
theorem or_hidden (a : Int) (ha : U a) : bits .or .u64 (a % 4503599627370496) 4503599627370496 = a % 4503599627370496 + 4503599627370496 := by
  obtain ⟨h0, h1⟩ := ha
  rw [u64_or _ _ (by omega) (by omega) (by omega) (by omega), Nat.or_comm]
  have := nat_join 52 4503599627370496 (a % 4503599627370496).toNat (by decide) (by omega)
  rw [show (4503599627370496 : Int).toNat = 4503599627370496 from rfl, this]
  omega
theorem class_cases (a : Int) : classS a = 1 ∨ classS a = 2 ∨ classS a = 3 ∨ classS a = 4 ∨ classS a = 5 := by
  unfold classS
  repeat' split
  all_goals simp
theorem parts_any (a : Int) (ha : U a) (w : World) :
    Calls Tryd.prog 9 #[.int .u64 a] w fun e w' => e = .returned (.tuple #[.bool (partN a), .int .u64 (partM a), .int .i64 (partE a)]) ∧ w = w' := by
  have hc := class_any a ha
  have hx : (bits .and .u64 a 9223372036854775808 != 0) = decide (9223372036854775808 ≤ a) := by
    rw [and_sign a ha]
    split <;> simp_all
  have k1 := and_frac a ha
  have k2 := or_hidden a ha
  have k3 := and_exp (a / 4503599627370496) ⟨by obtain ⟨_, _⟩ := ha; omega, by obtain ⟨_, _⟩ := ha; omega⟩
  obtain ⟨h0, h1⟩ := ha
  rcases class_cases a with e | e | e | e | e
  · have e1 : partN a = false := by simp [partN, e]
    have e2 : partM a = 0 := by simp [partM, e]
    have e3 : partE a = 0 := by simp [partE, e]
    rw [e1, e2, e3]; rw [e] at hc
    go_enter Tryd.func9, Tryd.ntmps9
    go_wp2_with (go_at_call 15; refine (hc _).mono ?_; rintro e w' ⟨rfl, rfl⟩)
    go_ret3
    exact ⟨rfl, rfl⟩
  · have e1 : partN a = decide (9223372036854775808 ≤ a) := by simp [partN, e]
    have e2 : partM a = 0 := by simp [partM, e]
    have e3 : partE a = 0 := by simp [partE, e]
    rw [e1, e2, e3]; rw [e] at hc
    go_enter Tryd.func9, Tryd.ntmps9
    go_wp2_with (go_at_call 15; refine (hc _).mono ?_; rintro e w' ⟨rfl, rfl⟩)
    go_ret3
    exact ⟨rfl, rfl⟩
  · have e1 : partN a = decide (9223372036854775808 ≤ a) := by simp [partN, e]
    have e2 : partM a = a % 4503599627370496 := by simp [partM, e]
    have e3 : partE a = -1074 := by simp [partE, e]
    rw [e1, e2, e3]; rw [e] at hc
    go_enter Tryd.func9, Tryd.ntmps9
    go_wp2_with (go_at_call 15; refine (hc _).mono ?_; rintro e w' ⟨rfl, rfl⟩)
    go_ret3
    exact ⟨rfl, rfl⟩
  · have e1 : partN a = decide (9223372036854775808 ≤ a) := by simp [partN, e]
    have e2 : partM a = a % 4503599627370496 := by simp [partM, e]
    have e3 : partE a = -1074 := by simp [partE, e]
    rw [e1, e2, e3]; rw [e] at hc
    go_enter Tryd.func9, Tryd.ntmps9
    go_wp2_with (go_at_call 15; refine (hc _).mono ?_; rintro e w' ⟨rfl, rfl⟩)
    go_ret3
    exact ⟨rfl, rfl⟩
  · have e1 : partN a = decide (9223372036854775808 ≤ a) := by simp [partN, e]
    have e2 : partM a = a % 4503599627370496 + 4503599627370496 := by simp [partM, e]
    have e3 : partE a = a / 4503599627370496 % 2048 - 1023 - 52 := by simp [partE, e]; omega
    rw [e1, e2, e3]; rw [e] at hc
    go_enter Tryd.func9, Tryd.ntmps9
    go_wp2_with (go_at_call 15; refine (hc _).mono ?_; rintro e w' ⟨rfl, rfl⟩)
    go_ret3
    exact ⟨rfl, rfl⟩
theorem signText_any (b : Bool) (w : World) :
    Calls Tryd.prog 49 #[.bool b] w fun e w' => e = .returned (.string (if b then ⟨#[45]⟩ else ⟨#[]⟩)) ∧ w = w' := by
  cases b
  · go_enter Tryd.func49, Tryd.ntmps49
    go_wp2
    go_ret
    exact ⟨rfl, rfl⟩
  · go_enter Tryd.func49, Tryd.ntmps49
    go_wp2
    go_ret
    exact ⟨rfl, rfl⟩
theorem text_15 (w : World) :
    Calls Tryd.prog 21 #[.int .u64 4609434218613702656] w fun e w' => e = .returned (.string ⟨#[48, 120, 49, 46, 56, 112, 43, 48]⟩) ∧ Grown w w' := by
  have h1 := parts_any 4609434218613702656 ⟨by omega, by omega⟩
  have h2 := class_any 4609434218613702656 ⟨by omega, by omega⟩
  rw [show partN 4609434218613702656 = false by decide, show partM 4609434218613702656 = 6755399441055744 by decide, show partE 4609434218613702656 = -52 by decide] at h1
  rw [show classS 4609434218613702656 = 5 by decide] at h2
  go_enter Tryd.func21, Tryd.ntmps21
  go_wp2_with (first
    | (go_at_call 9; refine (h1 _).mono ?_; rintro e w' ⟨rfl, rfl⟩)
    | (go_at_call 15; refine (h2 _).mono ?_; rintro e w' ⟨rfl, rfl⟩)
    | (go_at_call 49; refine (signText_any false _).mono ?_; rintro e w' ⟨rfl, rfl⟩)
    | (go_at_call 50; refine (size_15 _).mono ?_; rintro e w' ⟨rfl, hg⟩))
  go_ret
  exact ⟨rfl, hg⟩

theorem grown_trans {a b c : World} (h : Grown a b) (g : Grown b c) : Grown a c :=
  ⟨World.keptBut_trans h.1 g.1, fun x => (g.2.1 x).trans (h.2.1 x), Nat.le_trans h.2.2 g.2.2⟩

theorem nan_draw (op : BinOp) (t : TypeId) (x y : Nat) (hop : op = .add ∨ op = .sub ∨ op = .mul ∨ op = .quo) (h : floatBits op .f64 x y = none) (w : World) :
    ∃ q : Int, U q ∧ nan q = true ∧ (binOp op t (.float .f64 x) (.float .f64 y)).run Tryd.prog w = .ok (.float .f64 q.toNat) w.drew := by
  have key : ∀ z : Nat, U (((Question.nanBits .f64 x y).cut z : Nat) : Int) ∧ nan (((Question.nanBits .f64 x y).cut z : Nat) : Int) = true := by
    intro z
    have h1 := Nat.mod_lt (z / 2) (show 0 < 4503599627370495 by decide)
    have h2 := Nat.mod_lt z (show 0 < 2 by decide)
    have e : (Question.nanBits .f64 x y).cut z = z % 2 * 9223372036854775808 + 9218868437227405312 + 1 + z / 2 % 4503599627370495 := rfl
    rw [e]
    generalize z / 2 % 4503599627370495 = u at h1 ⊢
    generalize z % 2 = v at h2 ⊢
    refine ⟨⟨by omega, by omega⟩, ?_⟩
    unfold nan
    exact decide_eq_true (by omega)
  refine ⟨((Question.nanBits .f64 x y).cut (w.tape w.drawn (Question.nanBits .f64 x y)) : Nat), (key _).1, (key _).2, ?_⟩
  rcases hop with rfl | rfl | rfl | rfl <;> simp only [floatBits] at h <;> simp [binOp, Op.floatArith, h, Question.forced]

theorem add_any (a b : Int) (w : World) :
    Calls Tryd.prog 24 #[.int .u64 a, .int .u64 b] w fun e w' => e = .returned (.int .u64 (resS (floatBits .add .f64 a.toNat b.toNat))) ∧ Grown w w' := by
  have hf := run_frombits
  cases hr : floatBits .add .f64 a.toNat b.toNat with
  | none =>
    obtain ⟨q, hq, hn, hrun⟩ := nan_draw .add 42 a.toNat b.toNat (by simp) hr w
    have hb := bitsOf_any q hq
    rw [show canonS q = 9221120237041090561 by simp [canonS, hn]] at hb
    simp only [resS]
    go_enter Tryd.func24, Tryd.ntmps24
    go_wp2_with (go_at_call 47; refine (hb _).mono ?_; rintro e w' ⟨rfl, rfl⟩)
    go_ret
    exact ⟨rfl, (Grown.refl _).drew⟩
  | some r =>
    have hrun := run_float_arith (P := Tryd.prog) w .add 42 .f64 a.toNat b.toNat r hr
    have hb := bitsOf_any r (U_of_bits hr)
    simp only [Int.toNat_natCast] at hb
    simp only [resS]
    go_enter Tryd.func24, Tryd.ntmps24
    go_wp2_with (go_at_call 47; refine (hb _).mono ?_; rintro e w' ⟨rfl, rfl⟩)
    go_ret
    exact ⟨rfl, Grown.refl _⟩
theorem sub_any (a b : Int) (w : World) :
    Calls Tryd.prog 26 #[.int .u64 a, .int .u64 b] w fun e w' => e = .returned (.int .u64 (resS (floatBits .sub .f64 a.toNat b.toNat))) ∧ Grown w w' := by
  have hf := run_frombits
  cases hr : floatBits .sub .f64 a.toNat b.toNat with
  | none =>
    obtain ⟨q, hq, hn, hrun⟩ := nan_draw .sub 42 a.toNat b.toNat (by simp) hr w
    have hb := bitsOf_any q hq
    rw [show canonS q = 9221120237041090561 by simp [canonS, hn]] at hb
    simp only [resS]
    go_enter Tryd.func26, Tryd.ntmps26
    go_wp2_with (go_at_call 47; refine (hb _).mono ?_; rintro e w' ⟨rfl, rfl⟩)
    go_ret
    exact ⟨rfl, (Grown.refl _).drew⟩
  | some r =>
    have hrun := run_float_arith (P := Tryd.prog) w .sub 42 .f64 a.toNat b.toNat r hr
    have hb := bitsOf_any r (U_of_bits hr)
    simp only [Int.toNat_natCast] at hb
    simp only [resS]
    go_enter Tryd.func26, Tryd.ntmps26
    go_wp2_with (go_at_call 47; refine (hb _).mono ?_; rintro e w' ⟨rfl, rfl⟩)
    go_ret
    exact ⟨rfl, Grown.refl _⟩
theorem mul_any (a b : Int) (w : World) :
    Calls Tryd.prog 28 #[.int .u64 a, .int .u64 b] w fun e w' => e = .returned (.int .u64 (resS (floatBits .mul .f64 a.toNat b.toNat))) ∧ Grown w w' := by
  have hf := run_frombits
  cases hr : floatBits .mul .f64 a.toNat b.toNat with
  | none =>
    obtain ⟨q, hq, hn, hrun⟩ := nan_draw .mul 42 a.toNat b.toNat (by simp) hr w
    have hb := bitsOf_any q hq
    rw [show canonS q = 9221120237041090561 by simp [canonS, hn]] at hb
    simp only [resS]
    go_enter Tryd.func28, Tryd.ntmps28
    go_wp2_with (go_at_call 47; refine (hb _).mono ?_; rintro e w' ⟨rfl, rfl⟩)
    go_ret
    exact ⟨rfl, (Grown.refl _).drew⟩
  | some r =>
    have hrun := run_float_arith (P := Tryd.prog) w .mul 42 .f64 a.toNat b.toNat r hr
    have hb := bitsOf_any r (U_of_bits hr)
    simp only [Int.toNat_natCast] at hb
    simp only [resS]
    go_enter Tryd.func28, Tryd.ntmps28
    go_wp2_with (go_at_call 47; refine (hb _).mono ?_; rintro e w' ⟨rfl, rfl⟩)
    go_ret
    exact ⟨rfl, Grown.refl _⟩
theorem div_any (a b : Int) (w : World) :
    Calls Tryd.prog 30 #[.int .u64 a, .int .u64 b] w fun e w' => e = .returned (.int .u64 (resS (floatBits .quo .f64 a.toNat b.toNat))) ∧ Grown w w' := by
  have hf := run_frombits
  cases hr : floatBits .quo .f64 a.toNat b.toNat with
  | none =>
    obtain ⟨q, hq, hn, hrun⟩ := nan_draw .quo 42 a.toNat b.toNat (by simp) hr w
    have hb := bitsOf_any q hq
    rw [show canonS q = 9221120237041090561 by simp [canonS, hn]] at hb
    simp only [resS]
    go_enter Tryd.func30, Tryd.ntmps30
    go_wp2_with (go_at_call 47; refine (hb _).mono ?_; rintro e w' ⟨rfl, rfl⟩)
    go_ret
    exact ⟨rfl, (Grown.refl _).drew⟩
  | some r =>
    have hrun := run_float_arith (P := Tryd.prog) w .quo 42 .f64 a.toNat b.toNat r hr
    have hb := bitsOf_any r (U_of_bits hr)
    simp only [Int.toNat_natCast] at hb
    simp only [resS]
    go_enter Tryd.func30, Tryd.ntmps30
    go_wp2_with (go_at_call 47; refine (hb _).mono ?_; rintro e w' ⟨rfl, rfl⟩)
    go_ret
    exact ⟨rfl, Grown.refl _⟩

theorem alive_any (w : World) : Calls Tryd.prog 23 #[] w fun e w' => e = .returned (.bool true) ∧ Grown w w' := by
  have h1 := add_any 4607182418800017408 4611686018427387904
  have h2 := class_any 1 ⟨by omega, by omega⟩
  have h3 := less_any 0 1 ⟨by omega, by omega⟩ ⟨by omega, by omega⟩
  have h4 := compare_any 1 0 ⟨by omega, by omega⟩ ⟨by omega, by omega⟩
  have h5 := neg_any 0 ⟨by omega, by omega⟩
  rw [show resS (floatBits .add .f64 (4607182418800017408 : Int).toNat (4611686018427387904 : Int).toNat) = 4613937818241073152 by decide] at h1
  rw [show classS 1 = 4 by decide] at h2
  rw [show lessS 0 1 = true by decide] at h3
  rw [show cmpS 1 0 = 1 by decide] at h4
  rw [show negS 0 = 9223372036854775808 by decide] at h5
  go_enter Tryd.func23, Tryd.ntmps23
  go_wp2_with (first
    | (go_at_call 24; refine (h1 _).mono ?_; rintro e w' ⟨rfl, hg1⟩)
    | (go_at_call 21; refine (text_15 _).mono ?_; rintro e w' ⟨rfl, hg2⟩)
    | (go_at_call 15; refine (h2 _).mono ?_; rintro e w' ⟨rfl, rfl⟩)
    | (go_at_call 34; refine (h3 _).mono ?_; rintro e w' ⟨rfl, rfl⟩)
    | (go_at_call 38; refine (h4 _).mono ?_; rintro e w' ⟨rfl, rfl⟩)
    | (go_at_call 17; refine (h5 _).mono ?_; rintro e w' ⟨rfl, rfl⟩))
  go_ret
  exact ⟨rfl, grown_trans hg1 hg2⟩
theorem compare_is (a b v : Int) (h : cmpS a b = v) (ha : U a) (hb : U b) (w : World) :
    Calls Tryd.prog 38 #[.int .u64 a, .int .u64 b] w fun e w' => e = .returned (.int .i64 v) ∧ w = w' := h ▸ compare_any a b ha hb w
theorem canon_is (a v : Int) (h : canonS a = v) (ha : U a) (w : World) :
    Calls Tryd.prog 13 #[.int .u64 a] w fun e w' => e = .returned (.int .u64 v) ∧ w = w' := h ▸ canon_any a ha w
theorem class_is (a v : Int) (h : classS a = v) (ha : U a) (w : World) :
    Calls Tryd.prog 15 #[.int .u64 a] w fun e w' => e = .returned (.int .i64 v) ∧ w = w' := h ▸ class_any a ha w
theorem less_is (a b : Int) (v : Bool) (h : lessS a b = v) (ha : U a) (hb : U b) (w : World) :
    Calls Tryd.prog 34 #[.int .u64 a, .int .u64 b] w fun e w' => e = .returned (.bool v) ∧ w = w' := h ▸ less_any a b ha hb w
theorem equal_is (a b : Int) (v : Bool) (h : eqS a b = v) (ha : U a) (hb : U b) (w : World) :
    Calls Tryd.prog 32 #[.int .u64 a, .int .u64 b] w fun e w' => e = .returned (.bool v) ∧ w = w' := h ▸ equal_any a b ha hb w
theorem lessEq_is (a b : Int) (v : Bool) (h : (lessS a b || eqS a b) = v) (ha : U a) (hb : U b) (w : World) :
    Calls Tryd.prog 36 #[.int .u64 a, .int .u64 b] w fun e w' => e = .returned (.bool v) ∧ w = w' := h ▸ lessEq_any a b ha hb w
theorem next_is (a v : Int) (h : nextS a = v) (ha : U a) (w : World) :
    Calls Tryd.prog 19 #[.int .u64 a] w fun e w' => e = .returned (.int .u64 v) ∧ w = w' := h ▸ next_any a ha w

end Go.Proofs.YtfegnjpajflnkaaDoor
