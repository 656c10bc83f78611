/- What the reckoning functions of package ints answer, called with any numbers. -/
import Derived.Test.YtakkiipkmogagaaGreatRows
import Derived.Test.YtakkiipkmogagaaGreatShelf
import Derived.WalkKit
import Derived.WalkSpells
import Derived.WalkLawsBesides
import Derived.ProofKit
import Derived.RowKit3
import Derived.Laws.Externs
import Derived.Laws.BitsAllLaws
import Derived.Shelf.Spec.BitsCarry
namespace Go.Proofs.YtakkiipkmogagaaGreat.Z
open Go.RowKit
set_option linter.unusedSimpArgs false
set_option linter.unusedVariables false
set_option maxRecDepth 20000

/-- A whole number of 64 bits. -/
def I64 (a : Int) : Prop := -9223372036854775808 ≤ a ∧ a ≤ 9223372036854775807
def fit (z : Int) : Bool := decide (-9223372036854775808 ≤ z) && decide (z ≤ 9223372036854775807)
def fitV (z : Int) : Int := if fit z then z else 0
def fitE (z : Int) : Int := if fit z then 0 else 80
theorem fit_iff (z : Int) : fit z = true ↔ I64 z := by unfold fit I64; simp
theorem fitV_in {z : Int} (h : I64 z) : fitV z = z ∧ fitE z = 0 := by
  have := (fit_iff z).2 h
  simp [fitV, fitE, this]
theorem fitV_out {z : Int} (h : ¬ I64 z) : fitV z = 0 ∧ fitE z = 80 := by
  have : fit z = false := by cases h2 : fit z <;> simp_all [fit_iff]
  simp [fitV, fitE, this]
theorem fitV_I (z : Int) : I64 (fitV z) := by
  by_cases h : I64 z
  · rw [(fitV_in h).1]; exact h
  · rw [(fitV_out h).1]; exact ⟨by omega, by omega⟩
theorem fitE_zero (z : Int) : fitE z = 0 ↔ I64 z := by
  by_cases h : I64 z
  · simp [(fitV_in h).2, h]
  · simp [(fitV_out h).2, h]
/-- The word above a number's own. -/
def swS (a : Int) : Int := if a < 0 then 18446744073709551615 else 0
theorem narrow_math (z hi lo v : Int) (h1 : -85070591730234615865843651857942052864 ≤ z) (h2 : z ≤ 85070591730234615865843651857942052864) (hh : hi = z / 18446744073709551616 % 18446744073709551616) (hl : lo = z % 18446744073709551616)
    (hv : v = (if lo < 9223372036854775808 then lo else lo - 18446744073709551616)) : (hi = swS v ↔ I64 z) ∧ (I64 z → v = z) := by
  unfold swS I64
  subst hh hl
  split at hv <;> subst hv <;> split <;> constructor <;> omega
theorem add_math (a b : Int) (ha : I64 a) (hb : I64 b) :
    (swS a + swS b + (a % 18446744073709551616 + b % 18446744073709551616) / 18446744073709551616) % 18446744073709551616 = (a + b) / 18446744073709551616 % 18446744073709551616 ∧ (a % 18446744073709551616 + b % 18446744073709551616) % 18446744073709551616 = (a + b) % 18446744073709551616 := by
  obtain ⟨_, _⟩ := ha
  obtain ⟨_, _⟩ := hb
  unfold swS
  split <;> split <;> constructor <;> omega
theorem sub_math (a b : Int) (ha : I64 a) (hb : I64 b) :
    (swS a + 18446744073709551616 - swS b - (if a % 18446744073709551616 < b % 18446744073709551616 then 1 else 0)) % 18446744073709551616 = (a - b) / 18446744073709551616 % 18446744073709551616 ∧ (a % 18446744073709551616 + 18446744073709551616 - b % 18446744073709551616) % 18446744073709551616 = (a - b) % 18446744073709551616 := by
  obtain ⟨_, _⟩ := ha
  obtain ⟨_, _⟩ := hb
  unfold swS
  split <;> split <;> split <;> constructor <;> omega
theorem prod_bound (a b : Int) (ha : I64 a) (hb : I64 b) : -85070591730234615865843651857942052864 ≤ a * b ∧ a * b ≤ 85070591730234615865843651857942052864 := by
  obtain ⟨_, _⟩ := ha
  obtain ⟨_, _⟩ := hb
  have h : (a * b).natAbs ≤ 9223372036854775808 * 9223372036854775808 := by
    rw [Int.natAbs_mul]
    exact Nat.mul_le_mul (by omega) (by omega)
  omega
theorem mul_math (a b : Int) (ha : I64 a) (hb : I64 b) :
    ((a % 18446744073709551616) * (b % 18446744073709551616) / 18446744073709551616 - ((if a < 0 then b % 18446744073709551616 else 0) + (if b < 0 then a % 18446744073709551616 else 0))) % 18446744073709551616 = a * b / 18446744073709551616 % 18446744073709551616
    ∧ (a % 18446744073709551616) * (b % 18446744073709551616) % 18446744073709551616 = a * b % 18446744073709551616 := by
  obtain ⟨_, _⟩ := ha
  obtain ⟨_, _⟩ := hb
  by_cases c1 : a < 0 <;> by_cases c2 : b < 0
  · rw [if_pos c1, if_pos c2]
    have e1 : a % 18446744073709551616 = a + 18446744073709551616 := by omega
    have e2 : b % 18446744073709551616 = b + 18446744073709551616 := by omega
    rw [e1, e2, Int.add_mul, Int.mul_add, Int.mul_add]
    generalize a * b = p
    constructor <;> omega
  · rw [if_pos c1, if_neg c2]
    have e1 : a % 18446744073709551616 = a + 18446744073709551616 := by omega
    have e2 : b % 18446744073709551616 = b := by omega
    rw [e1, e2, Int.add_mul]
    generalize a * b = p
    constructor <;> omega
  · rw [if_neg c1, if_pos c2]
    have e1 : a % 18446744073709551616 = a := by omega
    have e2 : b % 18446744073709551616 = b + 18446744073709551616 := by omega
    rw [e1, e2, Int.mul_add]
    generalize a * b = p
    constructor <;> omega
  · rw [if_neg c1, if_neg c2]
    have e1 : a % 18446744073709551616 = a := by omega
    have e2 : b % 18446744073709551616 = b := by omega
    rw [e1, e2]
    generalize a * b = p
    constructor <;> omega
theorem wrap64_I {z : Int} (h : I64 z) : wrap64 z = z := by
  obtain ⟨_, _⟩ := h
  unfold wrap64
  omega
theorem wrap64_far (z : Int) : ∃ k : Int, wrap64 z = z + 18446744073709551616 * k ∧ I64 (wrap64 z) := by
  unfold wrap64 I64
  exact ⟨-((z + 9223372036854775808) / 18446744073709551616), by omega, by omega, by omega⟩
theorem tdiv_I (a b : Int) (ha : I64 a) (hb : b ≠ 0) (h : ¬ (a = -9223372036854775808 ∧ b = -1)) : I64 (a.tdiv b) := by
  obtain ⟨a0, a1⟩ := ha
  by_cases c1 : b = 1
  · subst c1; rw [Int.tdiv_one]; exact ⟨a0, a1⟩
  by_cases c2 : b = -1
  · subst c2
    rw [Int.tdiv_neg, Int.tdiv_one]
    exact ⟨by omega, by omega⟩
  have e : (a.tdiv b).natAbs = a.natAbs / b.natAbs := Int.natAbs_tdiv a b
  have : a.natAbs / b.natAbs ≤ a.natAbs / 2 := Nat.div_le_div_left (by omega) (by omega)
  unfold I64
  rw [← e] at this
  omega
theorem tmod_lt (a b : Int) (hb : b ≠ 0) : (a.tmod b).natAbs < b.natAbs := by
  rw [Int.natAbs_tmod]
  exact Nat.mod_lt _ (by omega)
theorem tmod_I (a b : Int) (ha : I64 a) (hb : I64 b) : I64 (a.tmod b) := by
  obtain ⟨a0, a1⟩ := ha
  obtain ⟨b0, b1⟩ := hb
  by_cases c : b = 0
  · subst c; rw [Int.tmod_zero]; exact ⟨a0, a1⟩
  have := tmod_lt a b c
  exact ⟨by omega, by omega⟩
theorem tmod_sign (a b : Int) : (0 ≤ a → 0 ≤ a.tmod b) ∧ (a ≤ 0 → a.tmod b ≤ 0) := by
  constructor
  · intro h; exact Int.tmod_nonneg b h
  · intro h
    have := Int.tmod_nonneg b (show 0 ≤ -a by omega)
    rw [Int.neg_tmod] at this
    omega
theorem tmod_m1 (a : Int) : a.tmod (-1) = 0 := by
  rw [Int.tmod_neg, Int.tmod_one]
/-- The product is one of 64 bits just where the wrapped one, divided, gives the factor back. -/
theorem mul_back (a b : Int) (ha : I64 a) (hb : I64 b) (hb0 : b ≠ 0) (h1 : ¬ (b = -1 ∧ a = -9223372036854775808)) : (wrap64 (a * b)).tdiv b = a ↔ I64 (a * b) := by
  constructor
  · intro h
    obtain ⟨k, hk, hI⟩ := wrap64_far (a * b)
    have hd := Int.mul_tdiv_add_tmod (wrap64 (a * b)) b
    rw [h] at hd
    have hlt := tmod_lt (wrap64 (a * b)) b hb0
    have hbb : b.natAbs ≤ 9223372036854775808 := by obtain ⟨_, _⟩ := hb; omega
    rw [Int.mul_comm b a] at hd
    have : k = 0 := by omega
    subst this
    rw [hk, Int.mul_zero, Int.add_zero] at hI
    exact hI
  · intro h
    rw [wrap64_I h]
    exact Int.mul_tdiv_cancel a hb0
theorem wrap_u (a : Int) : IntKind.u64.wrap a = a % 18446744073709551616 := by rw [IntKind.wrap_u64]
theorem sw_wrap (a : Int) (ha : I64 a) : IntKind.u64.wrap (a / 9223372036854775808) = swS a := by
  obtain ⟨h0, h1⟩ := ha
  rw [wrap_u]
  unfold swS
  split <;> omega
theorem sw_any (a : Int) (ha : I64 a) (w : World) :
    Calls Tryz.prog 202 #[.int .i64 a] w fun e w' => e = .returned (.int .u64 (swS a)) ∧ w = w' := by
  have hs := sw_wrap a ha
  obtain ⟨h0, h1⟩ := ha
  generalize swS a = s at *
  go_enter Tryz.func202, Tryz.ntmps202
  go_wp2
  go_ret
  exact ⟨rfl, rfl⟩
theorem wrap64_of (lo : Int) (h0 : 0 ≤ lo) (h1 : lo < 18446744073709551616) : wrap64 lo = (if lo < 9223372036854775808 then lo else lo - 18446744073709551616) := by
  unfold wrap64
  split <;> omega
theorem narrow_any (z hi lo : Int) (h1 : -85070591730234615865843651857942052864 ≤ z) (h2 : z ≤ 85070591730234615865843651857942052864) (hh : hi = z / 18446744073709551616 % 18446744073709551616) (hl : lo = z % 18446744073709551616) (w : World) :
    Calls Tryz.prog 203 #[.int .u64 hi, .int .u64 lo] w fun e w' => e = .returned (.tuple #[.int .i64 (fitV z), .int .i64 (fitE z)]) ∧ w = w' := by
  obtain ⟨v, hv⟩ : ∃ v, v = (if lo < 9223372036854775808 then lo else lo - 18446744073709551616) := ⟨_, rfl⟩
  have hm := narrow_math z hi lo v h1 h2 hh hl hv
  have hvI : I64 v := by unfold I64; split at hv <;> omega
  have hlo : 0 ≤ lo ∧ lo < 18446744073709551616 := by omega
  have ks := sw_any v hvI
  have hw := wrap64_of lo hlo.1 hlo.2
  rw [← hv] at hw
  clear hh hl hv hlo hvI h1 h2
  by_cases hf : I64 z
  · rw [(fitV_in hf).1, (fitV_in hf).2]
    obtain rfl : v = z := hm.2 hf
    have he := hm.1.2 hf
    clear hm
    rw [← he] at ks
    clear he
    go_enter Tryz.func203, Tryz.ntmps203
    go_wp2_with (go_at_call 202; refine (ks _).mono ?_; rintro e w' ⟨rfl, rfl⟩)
    go_ret2
    exact ⟨rfl, rfl⟩
  · rw [(fitV_out hf).1, (fitV_out hf).2]
    have hne : (hi != swS v) = true := by
      simp only [bne_iff_ne, ne_eq]
      exact fun h => hf (hm.1.1 h)
    clear hm
    generalize swS v = s at *
    go_enter Tryz.func203, Tryz.ntmps203
    go_wp2_with (go_at_call 202; refine (ks _).mono ?_; rintro e w' ⟨rfl, rfl⟩)
    go_ret2
    exact ⟨rfl, rfl⟩
theorem call_add64 (x y c s d : Int) (hx : 0 ≤ x) (hy : 0 ≤ y) (hc0 : 0 ≤ c) (hc : c ≤ 1) (hs : (x + y + c) % 18446744073709551616 = s) (hd : (x + y + c) / 18446744073709551616 = d) (w : World) :
    (callFunc 204 #[.int .u64 x, .int .u64 y, .int .u64 c]).run Tryz.prog w = .ok (.value (.tuple #[.int .u64 s, .int .u64 d])) w := by
  subst hs hd
  rw [run_callFunc_extern (e := add64Entry) Tryz.func204 (by kernel_rfl) (by kernel_rfl) (by kernel_rfl) (by kernel_rfl), run_add64 x y c hx hy hc0 hc]
  rfl
theorem call_sub64 (x y b s d : Int) (hx : 0 ≤ x) (hx1 : x < 18446744073709551616) (hy : 0 ≤ y) (hy1 : y < 18446744073709551616) (hb0 : 0 ≤ b) (hb : b ≤ 1) (hs : (x + 18446744073709551616 - y - b) % 18446744073709551616 = s) (hd : (if x < y + b then 1 else 0) = d) (w : World) :
    (callFunc 201 #[.int .u64 x, .int .u64 y, .int .u64 b]).run Tryz.prog w = .ok (.value (.tuple #[.int .u64 s, .int .u64 d])) w := by
  subst hs hd
  obtain ⟨X, rfl⟩ := Int.eq_ofNat_of_zero_le hx
  obtain ⟨Y, rfl⟩ := Int.eq_ofNat_of_zero_le hy
  obtain ⟨B, rfl⟩ := Int.eq_ofNat_of_zero_le hb0
  rw [run_callFunc_extern (e := sub64Entry) Tryz.func201 (by kernel_rfl) (by kernel_rfl) (by kernel_rfl) (by kernel_rfl), run_sub64 X Y B (by omega)]
  have e1 : (((X + 18446744073709551616 - Y - B) % 18446744073709551616 : Nat) : Int) = ((X : Int) + 18446744073709551616 - Y - B) % 18446744073709551616 := by omega
  have e2 : ((if X < Y + B then 1 else 0 : Nat) : Int) = (if (X : Int) < Y + B then 1 else 0) := by split <;> split <;> omega
  simp only [e1, e2, Result.andThen]
theorem sw_bounds (a : Int) : 0 ≤ swS a ∧ swS a < 18446744073709551616 := by unfold swS; split <;> omega
theorem add_any (a b : Int) (ha : I64 a) (hb : I64 b) (w : World) :
    Calls Tryz.prog 190 #[.int .i64 a, .int .i64 b] w fun e w' => e = .returned (.tuple #[.int .i64 (fitV (a + b)), .int .i64 (fitE (a + b))]) ∧ w = w' := by
  have hm := add_math a b ha hb
  have ka := sw_any a ha
  have kb := sw_any b hb
  have ba := sw_bounds a
  have bb := sw_bounds b
  have hz : -85070591730234615865843651857942052864 ≤ a + b ∧ a + b ≤ 85070591730234615865843651857942052864 := by obtain ⟨_, _⟩ := ha; obtain ⟨_, _⟩ := hb; omega
  have ea := wrap_u a
  have eb := wrap_u b
  have k1 := call_add64 (a % 18446744073709551616) (b % 18446744073709551616) 0 _ _ (by omega) (by omega) (by omega) (by omega) rfl rfl
  have k2 := call_add64 (swS a) (swS b) ((a % 18446744073709551616 + b % 18446744073709551616 + 0) / 18446744073709551616) _ _ (by omega) (by omega) (by omega) (by omega) rfl rfl
  rw [Int.add_zero] at k1 k2
  rw [hm.1] at k2
  rw [hm.2] at k1
  have kn := narrow_any (a + b) _ _ hz.1 hz.2 rfl rfl
  clear hm ba bb hz ha hb
  generalize (a + b) / 18446744073709551616 % 18446744073709551616 = H at *
  generalize (a + b) % 18446744073709551616 = L at *
  generalize (a % 18446744073709551616 + b % 18446744073709551616) / 18446744073709551616 = C at *
  generalize a % 18446744073709551616 = A at *
  generalize b % 18446744073709551616 = B at *
  generalize (swS a + swS b + C) / 18446744073709551616 = D at *
  generalize swS a = SA at *
  generalize swS b = SB at *
  generalize fitV (a + b) = V at *
  generalize fitE (a + b) = E at *
  go_enter Tryz.func190, Tryz.ntmps190
  go_wp2_with (first
    | (go_at_call 202; first | (refine (ka _).mono ?_; rintro e w' ⟨rfl, rfl⟩) | (refine (kb _).mono ?_; rintro e w' ⟨rfl, rfl⟩))
    | (go_at_call 203; refine (kn _).mono ?_; rintro e w' ⟨rfl, rfl⟩))
  go_ret2
  exact ⟨rfl, rfl⟩
theorem sub_any (a b : Int) (ha : I64 a) (hb : I64 b) (w : World) :
    Calls Tryz.prog 189 #[.int .i64 a, .int .i64 b] w fun e w' => e = .returned (.tuple #[.int .i64 (fitV (a - b)), .int .i64 (fitE (a - b))]) ∧ w = w' := by
  have hm := sub_math a b ha hb
  have ka := sw_any a ha
  have kb := sw_any b hb
  have ba := sw_bounds a
  have bb := sw_bounds b
  have hz : -85070591730234615865843651857942052864 ≤ a - b ∧ a - b ≤ 85070591730234615865843651857942052864 := by obtain ⟨_, _⟩ := ha; obtain ⟨_, _⟩ := hb; omega
  have ea := wrap_u a
  have eb := wrap_u b
  have k1 := call_sub64 (a % 18446744073709551616) (b % 18446744073709551616) 0 _ _ (by omega) (by omega) (by omega) (by omega) (by omega) (by omega) rfl rfl
  rw [Int.add_zero, Int.sub_zero, hm.2] at k1
  have hc : 0 ≤ (if a % 18446744073709551616 < b % 18446744073709551616 then (1 : Int) else 0) ∧ (if a % 18446744073709551616 < b % 18446744073709551616 then (1 : Int) else 0) ≤ 1 := by split <;> omega
  have k2 := call_sub64 (swS a) (swS b) (if a % 18446744073709551616 < b % 18446744073709551616 then 1 else 0) _ _ (by omega) (by omega) (by omega) (by omega) hc.1 hc.2 rfl rfl
  rw [hm.1] at k2
  have kn := narrow_any (a - b) _ _ hz.1 hz.2 rfl rfl
  clear hm ba bb hz ha hb hc
  generalize (a - b) / 18446744073709551616 % 18446744073709551616 = H at *
  generalize (a - b) % 18446744073709551616 = L at *
  generalize (if a % 18446744073709551616 < b % 18446744073709551616 then (1 : Int) else 0) = C at *
  generalize a % 18446744073709551616 = A at *
  generalize b % 18446744073709551616 = B at *
  generalize (if swS a < swS b + C then (1 : Int) else 0) = D at *
  generalize swS a = SA at *
  generalize swS b = SB at *
  generalize fitV (a - b) = V at *
  generalize fitE (a - b) = E at *
  go_enter Tryz.func189, Tryz.ntmps189
  go_wp2_with (first
    | (go_at_call 202; first | (refine (ka _).mono ?_; rintro e w' ⟨rfl, rfl⟩) | (refine (kb _).mono ?_; rintro e w' ⟨rfl, rfl⟩))
    | (go_at_call 203; refine (kn _).mono ?_; rintro e w' ⟨rfl, rfl⟩))
  go_ret2
  exact ⟨rfl, rfl⟩

theorem neg_any (a : Int) (ha : I64 a) (w : World) :
    Calls Tryz.prog 182 #[.int .i64 a] w fun e w' => e = .returned (.tuple #[.int .i64 (fitV (-a)), .int .i64 (fitE (-a))]) ∧ w = w' := by
  have k := sub_any 0 a ⟨by omega, by omega⟩ ha
  rw [Int.zero_sub] at k
  clear ha
  generalize fitV (-a) = V at *
  generalize fitE (-a) = E at *
  go_enter Tryz.func182, Tryz.ntmps182
  go_wp2_with (go_at_call 189; refine (k _).mono ?_; rintro e w' ⟨rfl, rfl⟩)
  go_ret2
  exact ⟨rfl, rfl⟩

theorem and_sw (a b : Int) (hb : 0 ≤ b) (hb1 : b < 18446744073709551616) : bits .and .u64 (swS a) b = if a < 0 then b else 0 := by
  have hs := sw_bounds a
  rw [u64_and _ _ (by omega) (by omega) (by omega) (by omega)]
  unfold swS
  split
  · rw [show (18446744073709551615 : Int).toNat = 2 ^ 64 - 1 from rfl, Nat.and_comm, Nat.and_two_pow_sub_one_eq_mod]
    omega
  · rw [show (0 : Int).toNat = 0 from rfl, Nat.zero_and]
    rfl
theorem mul64_is (x y h l : Int) (hx : 0 ≤ x) (hx1 : x < 18446744073709551616) (hy : 0 ≤ y) (hy1 : y < 18446744073709551616) (hh : x * y / 18446744073709551616 = h) (hl : x * y % 18446744073709551616 = l) (w : World) :
    Calls Tryz.prog 205 #[.int .u64 x, .int .u64 y] w fun e w' => e = .returned (.tuple #[.int .u64 h, .int .u64 l]) ∧ w = w' := by
  obtain ⟨X, rfl⟩ := Int.eq_ofNat_of_zero_le hx
  obtain ⟨Y, rfl⟩ := Int.eq_ofNat_of_zero_le hy
  subst hh hl
  refine (Tryz.bits_Mul64 X Y (by omega) (by omega) w).mono ?_
  rintro e w' ⟨rfl, rfl⟩
  refine ⟨?_, rfl⟩
  have e1 : ((X * Y / 18446744073709551616 : Nat) : Int) = (X : Int) * Y / 18446744073709551616 := by rw [Int.natCast_ediv, Int.natCast_mul]; rfl
  have e2 : ((X * Y % 18446744073709551616 : Nat) : Int) = (X : Int) * Y % 18446744073709551616 := by rw [Int.natCast_emod, Int.natCast_mul]; rfl
  rw [e1, e2]
theorem mul_any (a b : Int) (ha : I64 a) (hb : I64 b) (w : World) :
    Calls Tryz.prog 191 #[.int .i64 a, .int .i64 b] w fun e w' => e = .returned (.tuple #[.int .i64 (fitV (a * b)), .int .i64 (fitE (a * b))]) ∧ w = w' := by
  have hm := mul_math a b ha hb
  have ka := sw_any a ha
  have kb := sw_any b hb
  have hz := prod_bound a b ha hb
  have ea := wrap_u a
  have eb := wrap_u b
  have k1 := mul64_is (a % 18446744073709551616) (b % 18446744073709551616) _ _ (by omega) (by omega) (by omega) (by omega) rfl rfl
  have q1 := and_sw a (b % 18446744073709551616) (by omega) (by omega)
  have q2 := and_sw b (a % 18446744073709551616) (by omega) (by omega)
  rw [hm.2] at k1
  have hw : IntKind.u64.wrap (a % 18446744073709551616 * (b % 18446744073709551616) / 18446744073709551616 - IntKind.u64.wrap ((if a < 0 then b % 18446744073709551616 else 0) + (if b < 0 then a % 18446744073709551616 else 0))) = a * b / 18446744073709551616 % 18446744073709551616 := by
    rw [← hm.1, wrap_u, wrap_u]
    generalize (if a < 0 then b % 18446744073709551616 else 0) + (if b < 0 then a % 18446744073709551616 else 0) = t
    generalize a % 18446744073709551616 * (b % 18446744073709551616) / 18446744073709551616 = u
    omega
  have kn := narrow_any (a * b) _ _ hz.1 hz.2 rfl rfl
  clear hm hz ha hb
  generalize a * b / 18446744073709551616 % 18446744073709551616 = H at *
  generalize a * b % 18446744073709551616 = L at *
  generalize fitV (a * b) = V at *
  generalize fitE (a * b) = E at *
  generalize (if a < 0 then b % 18446744073709551616 else 0) = C at *
  generalize (if b < 0 then a % 18446744073709551616 else 0) = D at *
  generalize a % 18446744073709551616 * (b % 18446744073709551616) / 18446744073709551616 = G at *
  generalize a % 18446744073709551616 = A at *
  generalize b % 18446744073709551616 = B at *
  generalize swS a = SA at *
  generalize swS b = SB at *
  go_enter Tryz.func191, Tryz.ntmps191
  go_wp2_with (first
    | (go_at_call 202; first | (refine (ka _).mono ?_; rintro e w' ⟨rfl, rfl⟩) | (refine (kb _).mono ?_; rintro e w' ⟨rfl, rfl⟩))
    | (go_at_call 205; refine (k1 _).mono ?_; rintro e w' ⟨rfl, rfl⟩)
    | (go_at_call 203; refine (kn _).mono ?_; rintro e w' ⟨rfl, rfl⟩))
  go_ret2
  exact ⟨rfl, rfl⟩
def divV (a b : Int) : Int := if b = 0 then 0 else if a = -9223372036854775808 ∧ b = -1 then 0 else a.tdiv b
def divE (a b : Int) : Int := if b = 0 then 81 else if a = -9223372036854775808 ∧ b = -1 then 80 else 0
def remV (a b : Int) : Int := if b = 0 then 0 else a.tmod b
def remE (b : Int) : Int := if b = 0 then 81 else 0
def cmpS (a b : Int) : Int := if a < b then -1 else if b < a then 1 else 0
theorem ret2 {k l : IntKind} {a b c d : Int} (h : a = b) (g : c = d) : Ending.returned (.tuple #[.int k a, .int l c]) = .returned (.tuple #[.int k b, .int l d]) := by rw [h, g]
theorem div_any (a b : Int) (ha : I64 a) (hb : I64 b) (w : World) :
    Calls Tryz.prog 192 #[.int .i64 a, .int .i64 b] w fun e w' => e = .returned (.tuple #[.int .i64 (divV a b), .int .i64 (divE a b)]) ∧ w = w' := by
  have hI := tdiv_I a b ha
  obtain ⟨a0, a1⟩ := ha
  obtain ⟨b0, b1⟩ := hb
  unfold divV divE
  by_cases c1 : b = 0
  · subst c1
    simp only [if_true]
    clear hI
    go_enter Tryz.func192, Tryz.ntmps192
    go_wp2
    go_ret2
    exact ⟨rfl, rfl⟩
  rw [if_neg c1, if_neg c1]
  have c1' : (b == 0) = false := by simpa using c1
  by_cases c2 : a = -9223372036854775808
  · have c2' : (a == -9223372036854775808) = true := by simpa using c2
    by_cases c3 : b = -1
    · rw [if_pos ⟨c2, c3⟩, if_pos ⟨c2, c3⟩]
      have c3' : (b == -1) = true := by simpa using c3
      clear hI c2 c3
      go_enter Tryz.func192, Tryz.ntmps192
      go_wp2
      go_ret2
      exact ⟨rfl, rfl⟩
    · rw [if_neg (fun h => c3 h.2), if_neg (fun h => c3 h.2)]
      have c3' : (b == -1) = false := by simpa using c3
      have hw := wrap64_I (hI c1 (fun h => c3 h.2))
      clear hI c2 c3
      go_enter Tryz.func192, Tryz.ntmps192
      go_wp2
      go_ret2
      exact ⟨ret2 hw rfl, rfl⟩
  · rw [if_neg (fun h => c2 h.1), if_neg (fun h => c2 h.1)]
    have c2' : (a == -9223372036854775808) = false := by simpa using c2
    have hw := wrap64_I (hI c1 (fun h => c2 h.1))
    clear hI
    go_enter Tryz.func192, Tryz.ntmps192
    go_wp2
    go_ret2
    exact ⟨ret2 hw rfl, rfl⟩
theorem rem_any (a b : Int) (ha : I64 a) (hb : I64 b) (w : World) :
    Calls Tryz.prog 193 #[.int .i64 a, .int .i64 b] w fun e w' => e = .returned (.tuple #[.int .i64 (remV a b), .int .i64 (remE b)]) ∧ w = w' := by
  obtain ⟨a0, a1⟩ := ha
  obtain ⟨b0, b1⟩ := hb
  unfold remV remE
  by_cases c1 : b = 0
  · subst c1
    simp only [if_true]
    go_enter Tryz.func193, Tryz.ntmps193
    go_wp2
    go_ret2
    exact ⟨rfl, rfl⟩
  rw [if_neg c1, if_neg c1]
  have c1' : (b == 0) = false := by simpa using c1
  go_enter Tryz.func193, Tryz.ntmps193
  go_wp2
  go_ret2
  exact ⟨rfl, rfl⟩
theorem cmpc_any (a b : Int) (w : World) :
    Calls Tryz.prog 206 #[.int .i64 a, .int .i64 b] w fun e w' => e = .returned (.int .i64 (cmpS a b)) ∧ w = w' := by
  unfold cmpS
  by_cases h : a < b
  · rw [if_pos h]
    go_enter Tryz.func206, Tryz.ntmps206
    go_wp2
    go_ret
    exact ⟨rfl, rfl⟩
  · rw [if_neg h]
    by_cases h2 : b < a
    · rw [if_pos h2]
      go_enter Tryz.func206, Tryz.ntmps206
      go_wp2
      go_ret
      exact ⟨rfl, rfl⟩
    · rw [if_neg h2]
      go_enter Tryz.func206, Tryz.ntmps206
      go_wp2
      go_ret
      exact ⟨rfl, rfl⟩
theorem cmp_any (a b : Int) (w : World) :
    Calls Tryz.prog 195 #[.int .i64 a, .int .i64 b] w fun e w' => e = .returned (.int .i64 (cmpS a b)) ∧ w = w' := by
  have k := cmpc_any a b
  generalize cmpS a b = c at *
  go_enter Tryz.func195, Tryz.ntmps195
  go_wp2_with (go_at_call 206; refine (k _).mono ?_; rintro e w' ⟨rfl, rfl⟩)
  go_ret
  exact ⟨rfl, rfl⟩
end Go.Proofs.YtakkiipkmogagaaGreat.Z
