/- Texts FxFl, FxW1, FxW2, FxT1, FxOrd, FxNear, FxArith, FxT2, FxRef, FxMeas, FxInts, FxRefText, FxFrac, FxText, FxStrs, FxRText, FxRead, FxParse, FxParse2. -/
import Ieee.Arith
import GoSem.Core.Float
import Derived.KernelRfl
import Derived.Test.YtoiglopilpoafaaGreatDoorRows
import Derived.WalkKit
import Derived.WalkSpells
import Derived.WalkLawsBesides
import Derived.ProofKit
import Derived.RowKit3
import Derived.Laws.Externs
import Derived.Laws.BitsAllLaws
import Derived.Laws.IdiomStrings
import GoSem.ClaimData
import Derived.Laws.FloatArith
import Derived.Lib.ItoaNum
import Derived.Deep.RegionWith
import Derived.Deep.RegionHeld3
import Derived.OwnWalk
import Derived.Test.YtoiglopilpoafaaGreatDoorPk6
import Derived.Lib.SmallJoins
import Derived.Lib.IndexBytes
namespace Go.Proofs.YtoiglopilpoafaaGreatDoor.F
namespace Fl

/-- The magnitude of a rung below infinity, in units of the least place. -/
def mag (r : Nat) : Nat := if r < 4503599627370496 then r else 4503599627370496 + r % 4503599627370496
def ex (r : Nat) : Nat := if r < 4503599627370496 then 0 else r / 4503599627370496 - 1
def val (r : Nat) : Nat := mag r * 2 ^ ex r

theorem val_succ (r : Nat) : val r < val (r + 1) := by
  unfold val mag ex
  by_cases h : r + 1 < 4503599627370496
  · rw [if_pos h, if_pos h, if_pos (show r < 4503599627370496 by omega), if_pos (show r < 4503599627370496 by omega)]
    omega
  · by_cases h0 : r < 4503599627370496
    · obtain rfl : r = 4503599627370495 := by omega
      decide
    · rw [if_neg h, if_neg h, if_neg h0, if_neg h0]
      by_cases hc : r % 4503599627370496 + 1 < 4503599627370496
      · have e1 : (r + 1) / 4503599627370496 = r / 4503599627370496 := by omega
        have e2 : (r + 1) % 4503599627370496 = r % 4503599627370496 + 1 := by omega
        rw [e1, e2]
        exact Nat.mul_lt_mul_of_pos_right (by omega) (Nat.two_pow_pos _)
      · have e1 : (r + 1) / 4503599627370496 = r / 4503599627370496 + 1 := by omega
        have e2 : (r + 1) % 4503599627370496 = 0 := by omega
        have e3 : r % 4503599627370496 = 4503599627370495 := by omega
        have e4 : 1 ≤ r / 4503599627370496 := by omega
        obtain ⟨k, hk⟩ : ∃ k, r / 4503599627370496 = k + 1 := ⟨r / 4503599627370496 - 1, by omega⟩
        rw [e1, e2, e3, hk]
        simp only [Nat.add_sub_cancel, Nat.pow_succ]
        have := Nat.two_pow_pos k
        omega

theorem val_lt {r s : Nat} (h : r < s) : val r < val s := by
  induction s with
  | zero => omega
  | succ s ih =>
    rcases Nat.lt_succ_iff_lt_or_eq.1 h with h | h
    · exact Nat.lt_trans (ih h) (val_succ s)
    · subst h; exact val_succ r
theorem val_lt_iff {r s : Nat} : val r < val s ↔ r < s := by
  refine ⟨fun h => ?_, val_lt⟩
  rcases Nat.lt_trichotomy r s with h1 | h1 | h1
  · exact h1
  · subst h1; omega
  · have := val_lt h1; omega
theorem val_inj {r s : Nat} : val r = val s ↔ r = s := by
  refine ⟨fun h => ?_, fun h => by rw [h]⟩
  rcases Nat.lt_trichotomy r s with h1 | h1 | h1
  · have := val_lt h1; omega
  · exact h1
  · have := val_lt h1; omega
theorem val_zero : val 0 = 0 := by decide

theorem binade_eq : Ieee.double.binade = 4503599627370496 := by decide
theorem infRung_eq : Ieee.double.infRung = 9218868437227405312 := by decide
theorem signWeight_eq : Ieee.double.signWeight = 9223372036854775808 := by decide
theorem leastPlace_eq : Ieee.double.leastPlace = -1074 := by decide

theorem read_fin (x : Nat) (h : x % 9223372036854775808 < 9218868437227405312) :
    Ieee.double.read x = .number (x / 9223372036854775808 % 2 == 1) (mag (x % 9223372036854775808)) (-1074 + (ex (x % 9223372036854775808) : Nat)) := by
  unfold Ieee.Format.read
  simp only [binade_eq, infRung_eq, signWeight_eq, leastPlace_eq]
  by_cases h1 : x % 9223372036854775808 < 4503599627370496
  · rw [if_pos h1]; simp [mag, ex, h1]
  · rw [if_neg h1, if_pos h]; simp [mag, ex, h1]
theorem read_inf (x : Nat) (h : x % 9223372036854775808 = 9218868437227405312) :
    Ieee.double.read x = .infinity (x / 9223372036854775808 % 2 == 1) := by
  unfold Ieee.Format.read
  simp only [binade_eq, infRung_eq, signWeight_eq, leastPlace_eq]
  rw [if_neg (by omega), if_neg (by omega), if_pos h]
theorem read_nan (x : Nat) (h : 9218868437227405312 < x % 9223372036854775808) :
    Ieee.double.read x = .nan (x / 9223372036854775808 % 2 == 1) (x % 9223372036854775808 - 9218868437227405312) := by
  unfold Ieee.Format.read
  simp only [binade_eq, infRung_eq, signWeight_eq, leastPlace_eq]
  rw [if_neg (by omega), if_neg (by omega), if_neg (by omega)]

theorem order_nan_left (x y : Nat) (h : 9218868437227405312 < x % 9223372036854775808) : Ieee.double.order x y = none := by
  unfold Ieee.Format.order
  rw [read_nan x h]
  simp [Ieee.Datum.order]
theorem order_nan_right (x y : Nat) (h : 9218868437227405312 < y % 9223372036854775808) : Ieee.double.order x y = none := by
  unfold Ieee.Format.order
  rw [read_nan y h]
  cases Ieee.double.read x <;> simp [Ieee.Datum.order]

/-- The signed rung. -/
def sr (x : Nat) : Int := if x / 9223372036854775808 % 2 = 1 then -((x % 9223372036854775808 : Nat) : Int) else ((x % 9223372036854775808 : Nat) : Int)

theorem signed_eq (s : Bool) (m u : Nat) : Ieee.signed s m u = (if s then -1 else 1) * ((m * 2 ^ u : Nat) : Int) := by
  unfold Ieee.signed
  rw [Nat.shiftLeft_eq]
  cases s <;> simp

theorem compare_int (a b : Int) : compare a b = if a < b then .lt else if a = b then .eq else .gt := rfl

theorem compare_scale (a b : Int) (p : Nat) (hp : 0 < p) : compare (a * p) (b * p) = compare a b := by
  rw [compare_int, compare_int]
  have hp' : (0 : Int) < p := by omega
  by_cases h : a < b
  · rw [if_pos h, if_pos (Int.mul_lt_mul_of_pos_right h hp')]
  · have h' : ¬ a * p < b * p := fun hh => h (Int.lt_of_mul_lt_mul_right hh (Int.le_of_lt hp'))
    rw [if_neg h, if_neg h']
    by_cases he : a = b
    · subst he; simp
    · have he' : ¬ a * p = b * p := fun hh => he (Int.eq_of_mul_eq_mul_right (by omega) hh)
      rw [if_neg he, if_neg he']

theorem order_fin (x y : Nat) (hx : x % 9223372036854775808 < 9218868437227405312) (hy : y % 9223372036854775808 < 9218868437227405312) :
    Ieee.double.order x y = some (compare (sr x) (sr y)) := by
  unfold Ieee.Format.order
  rw [read_fin x hx, read_fin y hy]
  simp only [Ieee.Datum.order]
  congr 1
  unfold sr
  generalize x % 9223372036854775808 = r
  generalize y % 9223372036854775808 = q
  generalize hs : (x / 9223372036854775808 % 2 == 1) = s
  generalize ht : (y / 9223372036854775808 % 2 == 1) = t
  have hs' : (x / 9223372036854775808 % 2 = 1) ↔ s = true := by rw [← hs]; simp
  have ht' : (y / 9223372036854775808 % 2 = 1) ↔ t = true := by rw [← ht]; simp
  rw [← compare_scale _ _ (2 ^ min (ex r) (ex q)) (Nat.two_pow_pos _)]
  have e1 : (-1074 + (ex r : Int) - min (-1074 + (ex r : Int)) (-1074 + (ex q : Int))).toNat + min (ex r) (ex q) = ex r := by omega
  have e2 : (-1074 + (ex q : Int) - min (-1074 + (ex r : Int)) (-1074 + (ex q : Int))).toNat + min (ex r) (ex q) = ex q := by omega
  rw [signed_eq, signed_eq, Int.mul_assoc, Int.mul_assoc, ← Int.natCast_mul, ← Int.natCast_mul, Nat.mul_assoc, Nat.mul_assoc, ← Nat.pow_add, ← Nat.pow_add, e1, e2]
  change compare _ ((if t = true then (-1 : Int) else 1) * ((val q : Nat) : Int)) = _
  change compare ((if s = true then (-1 : Int) else 1) * ((val r : Nat) : Int)) _ = _
  simp only [hs', ht', compare_int]
  have a1 := @val_lt_iff r q
  have a2 := @val_lt_iff q r
  have a3 := @val_inj r q
  have a4 := @val_lt_iff 0 r
  have a5 := @val_lt_iff 0 q
  rw [val_zero] at a4 a5
  generalize val r = vr at *
  generalize val q = vq at *
  cases s <;> cases t <;> simp
  all_goals
    repeat' split
    all_goals first | rfl | omega

theorem order_eq (x y : Nat) (hx : x % 9223372036854775808 ≤ 9218868437227405312) (hy : y % 9223372036854775808 ≤ 9218868437227405312) :
    Ieee.double.order x y = some (compare (sr x) (sr y)) := by
  by_cases h1 : x % 9223372036854775808 < 9218868437227405312 <;> by_cases h2 : y % 9223372036854775808 < 9218868437227405312
  · exact order_fin x y h1 h2
  all_goals
    unfold Ieee.Format.order sr
    first
      | rw [read_fin x h1, read_inf y (by omega)]
      | rw [read_inf x (by omega), read_fin y h2]
      | rw [read_inf x (by omega), read_inf y (by omega)]
    simp only [Ieee.Datum.order, compare_int]
    rcases Nat.mod_two_eq_zero_or_one (x / 9223372036854775808) with e1 | e1 <;> rcases Nat.mod_two_eq_zero_or_one (y / 9223372036854775808) with e2 | e2 <;> simp [e1, e2, compare, compareOfLessAndEq]
    all_goals first | rfl | omega | skip
    all_goals
      repeat' split
      all_goals first | rfl | omega

/-! The same over whole numbers that fit 64 bits. -/
def U (a : Int) : Prop := 0 ≤ a ∧ a < 18446744073709551616
def nan (a : Int) : Bool := decide (9218868437227405312 < a % 9223372036854775808)
def srI (a : Int) : Int := if 9223372036854775808 ≤ a then 9223372036854775808 - a else a
def lessS (a b : Int) : Bool := !nan a && !nan b && decide (srI a < srI b)
def eqS (a b : Int) : Bool := !nan a && !nan b && decide (srI a = srI b)
def canonS (a : Int) : Int := if nan a then 9221120237041090561 else a
def classS (a : Int) : Int :=
  if 9218868437227405312 < a % 9223372036854775808 then 1 else if a % 9223372036854775808 = 9218868437227405312 then 2 else if a % 9223372036854775808 = 0 then 3
  else if a % 9223372036854775808 < 4503599627370496 then 4 else 5
def negS (a : Int) : Int := if nan a then 9221120237041090561 else if 9223372036854775808 ≤ a then a - 9223372036854775808 else a + 9223372036854775808

theorem srI_eq (a : Int) (h : U a) : sr a.toNat = srI a := by
  obtain ⟨h0, h1⟩ := h
  obtain ⟨n, rfl⟩ := Int.eq_ofNat_of_zero_le h0
  unfold sr srI
  simp only [Int.toNat_natCast]
  split <;> split <;> omega
theorem ord (a b : Int) (ha : U a) (hb : U b) : FloatKind.f64.format.order a.toNat b.toNat = if nan a || nan b then none else some (compare (srI a) (srI b)) := by
  change Ieee.double.order a.toNat b.toNat = _
  obtain ⟨h0, h1⟩ := ha
  obtain ⟨g0, g1⟩ := hb
  by_cases na : nan a = true
  · rw [if_pos (by simp [na])]
    exact order_nan_left _ _ (by simp only [nan, decide_eq_true_eq] at na; omega)
  · by_cases nb : nan b = true
    · rw [if_pos (by simp [nb])]
      exact order_nan_right _ _ (by simp only [nan, decide_eq_true_eq] at nb; omega)
    · rw [if_neg (by simp [na, nb]), ← srI_eq a ⟨h0, h1⟩, ← srI_eq b ⟨g0, g1⟩]
      simp only [nan, decide_eq_true_eq] at na nb
      exact order_eq _ _ (by omega) (by omega)
theorem ord_ne (a : Int) (ha : U a) : (FloatKind.f64.format.order a.toNat a.toNat != some .eq) = nan a := by
  rw [ord a a ha ha]
  cases nan a <;> simp <;> decide
theorem ord_lt (a b : Int) (ha : U a) (hb : U b) : (FloatKind.f64.format.order a.toNat b.toNat == some .lt) = lessS a b := by
  rw [ord a b ha hb]
  unfold lessS
  cases nan a <;> cases nan b <;> simp [compare_int]
  · by_cases h : srI a < srI b <;> simp [h]
    split <;> decide
theorem ord_eq (a b : Int) (ha : U a) (hb : U b) : (FloatKind.f64.format.order a.toNat b.toNat == some .eq) = eqS a b := by
  rw [ord a b ha hb]
  unfold eqS
  cases nan a <;> cases nan b <;> simp [compare_int]
  · by_cases h : srI a < srI b <;> simp [h]
    · have : srI a ≠ srI b := by omega
      simp [this]
    · by_cases h2 : srI a = srI b <;> simp [h2] <;> decide
theorem ord_gt (a b : Int) (ha : U a) (hb : U b) : (FloatKind.f64.format.order a.toNat b.toNat == some .gt) = lessS b a := by
  rw [ord a b ha hb]
  unfold lessS
  cases nan a <;> cases nan b <;> simp only [compare_int] <;> try rfl
  have h0 := Int.lt_trichotomy (srI a) (srI b)
  by_cases h : srI a < srI b
  · have e : ¬ srI b < srI a := by omega
    simp [h, e]
  · by_cases h2 : srI a = srI b
    · have e : ¬ srI b < srI a := by omega
      simp [h2]
    · have e : srI b < srI a := by omega
      simp [h, h2, e]
end Fl
end Go.Proofs.YtoiglopilpoafaaGreatDoor.F

namespace Go.Proofs.YtoiglopilpoafaaGreatDoor.F
open Go.RowKit Fl
set_option linter.unusedSimpArgs false
set_option linter.unusedVariables false

theorem run_frombits (n : Int) (w : World) : (callFunc 68 #[.int .u64 n]).run Tryz.prog w = .ok (.value (.float .f64 n.toNat)) w := by
  rw [run_callFunc_extern (e := Extern.MathFloatBits.float64frombits) Tryz.func68 (by kernel_rfl) (by kernel_rfl) (by kernel_rfl) (by kernel_rfl)]
  rfl
theorem run_bits (b : Int) (hb : U b) (w : World) : (callFunc 88 #[.float .f64 b.toNat]).run Tryz.prog w = .ok (.value (.int .u64 b)) w := by
  rw [run_callFunc_extern (e := Extern.MathFloatBits.float64bits) Tryz.func88 (by kernel_rfl) (by kernel_rfl) (by kernel_rfl) (by kernel_rfl)]
  have e : b = (b.toNat : Int) := by obtain ⟨_, _⟩ := hb; omega
  rw [e]
  rfl

theorem bitsOf_any (b : Int) (hb : U b) (w : World) :
    Calls Tryz.prog 67 #[.float .f64 b.toNat] w fun e w' => e = .returned (.int .u64 (canonS b)) ∧ w = w' := by
  have h := ord_ne b hb
  have hbits := run_bits b hb
  cases hn : nan b with
  | true =>
    have e : canonS b = 9221120237041090561 := by simp [canonS, hn]
    rw [hn] at h
    rw [e]
    go_enter Tryz.func67, Tryz.ntmps67
    go_wp2
    go_ret
    exact ⟨rfl, rfl⟩
  | false =>
    have e : canonS b = b := by simp [canonS, hn]
    rw [hn] at h
    rw [e]
    go_enter Tryz.func67, Tryz.ntmps67
    go_wp2
    go_ret
    exact ⟨rfl, rfl⟩

theorem canon_any (a : Int) (ha : U a) (w : World) :
    Calls Tryz.prog 50 #[.int .u64 a] w fun e w' => e = .returned (.int .u64 (canonS a)) ∧ w = w' := by
  have hf := run_frombits
  go_enter Tryz.func50, Tryz.ntmps50
  go_wp2_with (go_at_call 67; refine (bitsOf_any a ha _).mono ?_; rintro e w' ⟨rfl, rfl⟩)
  go_ret
  exact ⟨rfl, rfl⟩

theorem U_rung (a : Int) : U (a % 9223372036854775808) := ⟨by omega, by omega⟩

def infS (a : Int) : Bool := decide (a % 9223372036854775808 = 9218868437227405312)

end Go.Proofs.YtoiglopilpoafaaGreatDoor.F

namespace Go.Proofs.YtoiglopilpoafaaGreatDoor.F
open Go.RowKit Fl
set_option linter.unusedSimpArgs false
set_option linter.unusedVariables false

theorem U_neg (a : Int) (ha : U a) : U (if 9223372036854775808 ≤ a then a - 9223372036854775808 else a + 9223372036854775808) := by
  obtain ⟨_, _⟩ := ha
  split <;> exact ⟨by omega, by omega⟩
theorem xor_sign (a : Int) (ha : U a) : bits .xor .u64 a 9223372036854775808 = if 9223372036854775808 ≤ a then a - 9223372036854775808 else a + 9223372036854775808 := by
  obtain ⟨h0, h1⟩ := ha
  rw [u64_xor _ _ h0 h1 (by omega) (by omega)]
  have key : ∀ n : Nat, n < 18446744073709551616 → n ^^^ 9223372036854775808 = if 9223372036854775808 ≤ n then n - 9223372036854775808 else n + 9223372036854775808 := by
    intro n hn
    change n ^^^ 2 ^ 63 = _
    generalize hz : n ^^^ 2 ^ 63 = z
    have lo : z % 2 ^ 63 = n % 2 ^ 63 := by
      rw [← hz, Nat.xor_mod_two_pow]; simp
    have hi : z / 2 ^ 63 = (n / 2 ^ 63) ^^^ 1 := by
      rw [← hz, Nat.xor_div_two_pow]
    have d : n / 2 ^ 63 = 0 ∨ n / 2 ^ 63 = 1 := by omega
    split
    · have d1 : n / 2 ^ 63 = 1 := by omega
      rw [d1] at hi
      have : (1 ^^^ 1 : Nat) = 0 := by decide
      omega
    · have d1 : n / 2 ^ 63 = 0 := by omega
      rw [d1] at hi
      have : (0 ^^^ 1 : Nat) = 1 := by decide
      omega
  have e := key a.toNat (by omega)
  rw [show (9223372036854775808 : Int).toNat = 9223372036854775808 from rfl, e]
  split <;> split <;> omega

theorem negS_eq (a : Int) (ha : U a) : canonS (if 9223372036854775808 ≤ a then a - 9223372036854775808 else a + 9223372036854775808) = negS a := by
  obtain ⟨_, _⟩ := ha
  unfold canonS negS nan
  simp only [decide_eq_true_eq]
  repeat' split
  all_goals omega

theorem and_sign (a : Int) (ha : U a) : bits .and .u64 a 9223372036854775808 = if 9223372036854775808 ≤ a then 9223372036854775808 else 0 := by
  obtain ⟨h0, h1⟩ := ha
  rw [u64_and _ _ h0 h1 (by omega) (by omega)]
  have e := nat_bit 63 a.toNat
  rw [show (9223372036854775808 : Int).toNat = 2 ^ 63 from rfl, e]
  split <;> omega
end Go.Proofs.YtoiglopilpoafaaGreatDoor.F

namespace Go.Proofs.YtoiglopilpoafaaGreatDoor.F
open Go.RowKit Fl
set_option linter.unusedSimpArgs false
set_option linter.unusedVariables false

theorem conv_back (w : World) (a : Addr) (n cap : Nat) (l : List UInt8) (hn : l.length = n) (hc : ∀ j (hj : j < l.length), w.cell? (a.add j) = some (.int .u8 (l[j].toNat : Int))) :
    (convert 30 9 (.slice (some a) n cap)).run Tryz.prog w = .ok (.string ⟨l.toArray⟩) w := by
  subst hn
  exact run_convert_bytes_back w 30 9 5 a cap l Tryz.underlying30 Tryz.underlying5 Tryz.underlying9 hc
end Go.Proofs.YtoiglopilpoafaaGreatDoor.F

namespace Go.Proofs.YtoiglopilpoafaaGreatDoor.F
open Fl
set_option linter.unusedSimpArgs false
set_option linter.unusedVariables false

theorem class_nan (a : Int) : (classS a = 1) ↔ nan a = true := by
  unfold classS nan
  simp only [decide_eq_true_eq]
  repeat' split
  all_goals omega
/-- Where a float stands in the order of Compare. -/
def rk (a : Int) : Int := if nan a then 9223372036854775808 else if 9223372036854775808 ≤ a then 9223372036854775807 - a else a
end Go.Proofs.YtoiglopilpoafaaGreatDoor.F

namespace Go.Proofs.YtoiglopilpoafaaGreatDoor.F
namespace Fl
set_option linter.unusedSimpArgs false
set_option linter.unusedVariables false

theorem log2_mul_pow (m k : Nat) (h : m ≠ 0) : (m * 2 ^ k).log2 = m.log2 + k := by
  induction k with
  | zero => simp
  | succ k ih =>
    rw [Nat.pow_succ, ← Nat.mul_assoc, Nat.mul_comm _ 2, Nat.log2_two_mul, ih]
    · omega
    · have := Nat.two_pow_pos k
      exact Nat.mul_ne_zero h (by omega)

theorem cut_exact (neg : Bool) (k d : Nat) : Ieee.Toward.even.cut neg (k * 2 ^ d) d = k := by
  unfold Ieee.Toward.cut
  by_cases hk : k = 0
  · subst hk; simp
  · have hm : min d ((k * 2 ^ d).log2 + 2) = d := by
      rw [log2_mul_pow k d hk]; omega
    simp only [hm, Nat.shiftLeft_eq, Nat.one_mul]
    have hp := Nat.two_pow_pos d
    rw [Nat.mul_div_cancel _ hp, Nat.mul_mod_left]
    have : ¬ (2 ^ d < 2 * 0) := by omega
    have h2 : (2 ^ d == 2 * 0) = false := by simp
    simp [h2]

theorem word_f (neg : Bool) (r : Nat) : Ieee.double.word neg r = if neg then 9223372036854775808 + r else r := by
  unfold Ieee.Format.word
  rw [signWeight_eq]

theorem mag_pos (r : Nat) (h : r ≠ 0) : mag r ≠ 0 := by unfold mag; split <;> omega
theorem rung_eq (r : Nat) : ex r * 4503599627370496 + mag r = r := by unfold ex mag; split <;> omega
theorem mag_log2 (r : Nat) (h : 4503599627370496 ≤ r) : (mag r).log2 = 52 := by
  unfold mag
  rw [if_neg (by omega)]
  rw [Nat.log2_eq_iff (by omega)]
  omega
theorem mag_log2_small (r : Nat) (h : r < 4503599627370496) (h0 : r ≠ 0) : (mag r).log2 < 52 := by
  unfold mag
  rw [if_pos h, Nat.log2_lt h0]
  exact h

/-- The place of the last digit, for a number that is a double's. -/
theorem max_ex (r : Nat) (h : r ≠ 0) : max ((mag r).log2 + (ex r : Int) - 52) 0 = (ex r : Int) := by
  by_cases c : r < 4503599627370496
  · have := mag_log2_small r c h
    have e : ex r = 0 := by unfold ex; rw [if_pos c]
    omega
  · have := mag_log2 r (by omega)
    omega

/-- A number that is a double's is written as that double. -/
theorem nearest_exact (neg : Bool) (M : Nat) (P : Int) (r u v : Nat) (hr : r < 9218868437227405312) (hp : P + 1074 + v = u) (h : M * 2 ^ u = val r * 2 ^ v) :
    Ieee.double.nearest neg M P = Ieee.double.word neg r := by
  unfold Ieee.Format.nearest
  by_cases hM : M = 0
  · subst hM
    have : val r = 0 := by
      rw [Nat.zero_mul] at h
      rcases Nat.mul_eq_zero.1 h.symm with h | h
      · exact h
      · have := Nat.two_pow_pos v; omega
    have : r = 0 := by rw [← val_zero] at this; exact val_inj.1 this
    subst this
    simp
  · rw [if_neg hM]
    have hr0 : r ≠ 0 := by
      rintro rfl
      rw [val_zero, Nat.zero_mul] at h
      rcases Nat.mul_eq_zero.1 h with h | h
      · exact hM h
      · have := Nat.two_pow_pos u; omega
    have hm0 := mag_pos r hr0
    have hv : val r = mag r * 2 ^ ex r := rfl
    have hl : M.log2 + u = (mag r).log2 + ex r + v := by
      have e1 := log2_mul_pow M u hM
      rw [h, hv, Nat.mul_assoc, ← Nat.pow_add, log2_mul_pow _ _ hm0] at e1
      omega
    have hlast : max (P + M.log2 - Ieee.double.fractionBits) Ieee.double.leastPlace = (ex r : Int) - 1074 := by
      have := max_ex r hr0
      rw [leastPlace_eq, show ((Ieee.double.fractionBits : Nat) : Int) = 52 from rfl]
      omega
    simp only [hlast]
    have e3 : (((ex r : Int) - 1074 - Ieee.double.leastPlace).toNat) = ex r := by rw [leastPlace_eq]; omega
    rw [e3, binade_eq, infRung_eq]
    have key : Ieee.Toward.even.cut neg (M <<< (P - ((ex r : Int) - 1074)).toNat) ((ex r : Int) - 1074 - P).toNat = mag r := by
      rw [Nat.shiftLeft_eq]
      by_cases c : (ex r : Int) - 1074 ≤ P
      · have e : ((ex r : Int) - 1074 - P).toNat = 0 := by omega
        rw [e]
        have ek : M * 2 ^ (P - ((ex r : Int) - 1074)).toNat = mag r := by
          have hu : u = (P - ((ex r : Int) - 1074)).toNat + (ex r + v) := by omega
          have hp2 := Nat.two_pow_pos (ex r + v)
          rw [hu, Nat.pow_add, ← Nat.mul_assoc, hv, Nat.mul_assoc (mag r), ← Nat.pow_add] at h
          exact Nat.eq_of_mul_eq_mul_right hp2 h
        rw [ek]
        have := cut_exact neg (mag r) 0
        rwa [Nat.pow_zero, Nat.mul_one] at this
      · have e : (P - ((ex r : Int) - 1074)).toNat = 0 := by omega
        rw [e, Nat.pow_zero, Nat.mul_one]
        have ek : M = mag r * 2 ^ ((ex r : Int) - 1074 - P).toNat := by
          have hu : ex r + v = ((ex r : Int) - 1074 - P).toNat + u := by omega
          have hp2 := Nat.two_pow_pos u
          rw [hv, Nat.mul_assoc, ← Nat.pow_add, hu, Nat.pow_add, ← Nat.mul_assoc] at h
          exact Nat.eq_of_mul_eq_mul_right hp2 h
        rw [ek]
        exact cut_exact neg _ _
    rw [key]
    have := rung_eq r
    rw [this, Nat.min_eq_left (by omega)]

/-- The rung to which a number is rounded. -/
def rung (M : Nat) (P : Int) : Nat := if M = 0 then 0 else min ((max (P + M.log2 - 52) (-1074) + 1074).toNat * 4503599627370496 + Ieee.Toward.even.cut false (M <<< (P - max (P + M.log2 - 52) (-1074)).toNat) (max (P + M.log2 - 52) (-1074) - P).toNat) 9218868437227405312
theorem cut_sign (neg : Bool) (n d : Nat) : Ieee.Toward.even.cut neg n d = Ieee.Toward.even.cut false n d := rfl
theorem nearest_rung (neg : Bool) (M : Nat) (P : Int) : Ieee.double.nearest neg M P = Ieee.double.word neg (rung M P) := by
  unfold Ieee.Format.nearest rung
  by_cases hM : M = 0
  · rw [if_pos hM, if_pos hM]
  · rw [if_neg hM, if_neg hM]
    simp only [binade_eq, infRung_eq, leastPlace_eq, cut_sign neg, show ((Ieee.double.fractionBits : Nat) : Int) = 52 from rfl, Int.sub_neg]
theorem rung_le (M : Nat) (P : Int) : rung M P ≤ 9218868437227405312 := by
  unfold rung
  split
  · omega
  · exact Nat.min_le_right _ _
theorem rung_exact (M : Nat) (P : Int) (r u v : Nat) (hr : r < 9218868437227405312) (hp : P + 1074 + v = u) (h : M * 2 ^ u = val r * 2 ^ v) : rung M P = r := by
  have h1 := nearest_exact false M P r u v hr hp h
  rw [nearest_rung, word_f, word_f] at h1
  simpa using h1

/-- What is below 2^53, times a power of two that fits, is a double's. -/
theorem val_of (m t : Nat) (hm : m < 9007199254740992) (ht : t ≤ 2045) : ∃ r, r < 9218868437227405312 ∧ val r = m * 2 ^ t := by
  by_cases h0 : m = 0
  · subst h0; exact ⟨0, by omega, by rw [val_zero, Nat.zero_mul]⟩
  have hl : m.log2 ≤ 52 := by
    have := (Nat.log2_lt h0 (k := 53)).2 (by omega)
    omega
  by_cases c : t + m.log2 < 52
  · refine ⟨m * 2 ^ t, ?_, ?_⟩
    · have : m * 2 ^ t < 2 ^ 52 := by
        rw [← Nat.log2_lt (Nat.mul_ne_zero h0 (by have := Nat.two_pow_pos t; omega)), log2_mul_pow m t h0]
        omega
      omega
    · have : m * 2 ^ t < 4503599627370496 := by
        have : m * 2 ^ t < 2 ^ 52 := by
          rw [← Nat.log2_lt (Nat.mul_ne_zero h0 (by have := Nat.two_pow_pos t; omega)), log2_mul_pow m t h0]
          omega
        omega
      unfold val mag ex
      rw [if_pos this, if_pos this]
      omega
  · obtain ⟨q, hq⟩ : ∃ q, q + 52 = t + m.log2 := ⟨t + m.log2 - 52, by omega⟩
    obtain ⟨d, hd⟩ : ∃ d, d + m.log2 = 52 := ⟨52 - m.log2, by omega⟩
    have b1 : 2 ^ 52 ≤ m * 2 ^ d := by
      have := (Nat.le_log2 (n := m * 2 ^ d) (k := 52) (Nat.mul_ne_zero h0 (by have := Nat.two_pow_pos d; omega))).1 (by rw [log2_mul_pow m d h0]; omega)
      exact this
    have b2 : m * 2 ^ d < 2 ^ 53 := by
      rw [← Nat.log2_lt (Nat.mul_ne_zero h0 (by have := Nat.two_pow_pos d; omega)), log2_mul_pow m d h0]
      omega
    generalize hz : m * 2 ^ d = z at *
    have b3 : 4503599627370496 ≤ z := b1
    have b4 : z < 9007199254740992 := b2
    refine ⟨q * 4503599627370496 + z, by omega, ?_⟩
    have e1 : (q * 4503599627370496 + z) / 4503599627370496 = q + 1 := by omega
    have e2 : (q * 4503599627370496 + z) % 4503599627370496 = z - 4503599627370496 := by omega
    unfold val mag ex
    rw [if_neg (by omega), if_neg (by omega), e1, e2]
    have e3 : 4503599627370496 + (z - 4503599627370496) = z := by omega
    rw [e3, Nat.add_sub_cancel, ← hz, Nat.mul_assoc, ← Nat.pow_add]
    rw [show d + q = t by omega]
end Fl
end Go.Proofs.YtoiglopilpoafaaGreatDoor.F

namespace Go.Proofs.YtoiglopilpoafaaGreatDoor.F
set_option linter.unusedSimpArgs false
set_option linter.unusedVariables false
open Fl

theorem U_of_bits {op : BinOp} {x y r : Nat} (h : floatBits op .f64 x y = some r) : U (r : Int) := by
  have := floatBits_wf h
  simp only [Lit.wf, decide_eq_true_eq] at this
  exact ⟨by omega, by omega⟩

theorem neg_U (a : Int) (ha : U a) : U (negS a) := by
  obtain ⟨_, _⟩ := ha
  unfold negS
  repeat' split
  all_goals exact ⟨by omega, by omega⟩

theorem canon_self (a : Int) (h : nan a = false) : canonS a = a := by simp [canonS, h]
end Go.Proofs.YtoiglopilpoafaaGreatDoor.F

namespace Go.Proofs.YtoiglopilpoafaaGreatDoor.F
open Go.RowKit Fl
set_option linter.unusedSimpArgs false
set_option linter.unusedVariables false

def partM (a : Int) : Int := if classS a < 3 then 0 else if classS a < 5 then a % 4503599627370496 else a % 4503599627370496 + 4503599627370496
def partE (a : Int) : Int := if classS a < 3 then 0 else if classS a < 5 then -1074 else a / 4503599627370496 % 2048 - 1075
def partN (a : Int) : Bool := if classS a = 1 then false else decide (9223372036854775808 ≤ a)

theorem and_frac (a : Int) (ha : U a) : bits .and .u64 a 4503599627370495 = a % 4503599627370496 := by
  obtain ⟨h0, h1⟩ := ha
  rw [u64_and _ _ h0 h1 (by omega) (by omega)]
  have := Nat.and_two_pow_sub_one_eq_mod a.toNat 52
  rw [show (4503599627370495 : Int).toNat = 2 ^ 52 - 1 from rfl, this]
  omega
theorem and_exp (a : Int) (ha : U a) : bits .and .u64 a 2047 = a % 2048 := by
  obtain ⟨h0, h1⟩ := ha
  rw [u64_and _ _ h0 h1 (by omega) (by omega)]
  have := Nat.and_two_pow_sub_one_eq_mod a.toNat 11
  rw [show (2047 : Int).toNat = 2 ^ 11 - 1 from rfl, this]
  omega
theorem or_hidden (a : Int) (ha : U a) : bits .or .u64 (a % 4503599627370496) 4503599627370496 = a % 4503599627370496 + 4503599627370496 := by
  obtain ⟨h0, h1⟩ := ha
  rw [u64_or _ _ (by omega) (by omega) (by omega) (by omega), Nat.or_comm]
  have := nat_join 52 4503599627370496 (a % 4503599627370496).toNat (by decide) (by omega)
  rw [show (4503599627370496 : Int).toNat = 4503599627370496 from rfl, this]
  omega
theorem class_cases (a : Int) : classS a = 1 ∨ classS a = 2 ∨ classS a = 3 ∨ classS a = 4 ∨ classS a = 5 := by
  unfold classS
  repeat' split
  all_goals simp
theorem grown_trans {a b c : World} (h : Grown a b) (g : Grown b c) : Grown a c :=
  ⟨World.keptBut_trans h.1 g.1, fun x => (g.2.1 x).trans (h.2.1 x), Nat.le_trans h.2.2 g.2.2⟩
end Go.Proofs.YtoiglopilpoafaaGreatDoor.F

namespace Go.Proofs.YtoiglopilpoafaaGreatDoor.F
open Go.RowKit Fl
set_option linter.unusedSimpArgs false
set_option linter.unusedVariables false

theorem shl12 (a : Int) : IntKind.u64.wrap (a * 4096) = a % 4503599627370496 * 4096 := by rw [IntKind.wrap_u64]; omega
end Go.Proofs.YtoiglopilpoafaaGreatDoor.F

namespace Go.Proofs.YtoiglopilpoafaaGreatDoor.F
open Go.RowKit Fl
set_option linter.unusedSimpArgs false
set_option linter.unusedVariables false

theorem nan_word (s : Bool) (r : Nat) (h : r ≤ 9218868437227405312) : nan ((Ieee.double.word s r : Nat) : Int) = false ∧ U ((Ieee.double.word s r : Nat) : Int) := by
  rw [word_f]
  unfold nan
  simp only [decide_eq_false_iff_not]
  cases s <;> simp <;> exact ⟨by omega, ⟨by omega, by omega⟩⟩

theorem floatOfInt_eq (n : Int) : floatOfInt .f64 n = Ieee.double.word (decide (n < 0)) (rung n.natAbs 0) := by
  unfold floatOfInt FloatKind.nearest FloatKind.encode
  change Ieee.double.write _ = _
  simp only [Ieee.Format.write]
  rw [nearest_rung]

theorem read_pos (r : Nat) (hr : r < 9218868437227405312) : Ieee.double.read r = .number false (mag r) (-1074 + (ex r : Nat)) := by
  have e1 : r % 9223372036854775808 = r := by omega
  have e2 : r / 9223372036854775808 % 2 = 0 := by omega
  rw [read_fin r (by omega), e1, e2]
  rfl
end Go.Proofs.YtoiglopilpoafaaGreatDoor.F

namespace Go.Proofs.YtoiglopilpoafaaGreatDoor.F
open Go.RowKit Fl
set_option linter.unusedSimpArgs false
set_option linter.unusedVariables false

/-- One, in units of the least place. -/
def K : Nat := 2 ^ ((0 : Int) + 1074).toNat
theorem K_pos : 0 < K := Nat.two_pow_pos _
end Go.Proofs.YtoiglopilpoafaaGreatDoor.F

namespace Go.Proofs.YtoiglopilpoafaaGreatDoor.F
open Go.RowKit Fl
set_option linter.unusedSimpArgs false
set_option linter.unusedVariables false

theorem sign_bit (a : Int) (ha : U a) : (a / 9223372036854775808 == 1) = decide (9223372036854775808 ≤ a) := by
  obtain ⟨_, _⟩ := ha
  by_cases c : 9223372036854775808 ≤ a
  · rw [decide_eq_true c, beq_iff_eq]; omega
  · rw [decide_eq_false c, beq_eq_false_iff_ne]; omega

theorem conv_one (W : World) (a : Addr) (c : Int) (h0 : 0 ≤ c) (h1 : c < 256) (hc : W.cell? a = some (.int .u8 c)) :
    (convert 30 9 (.slice (some a) 1 1)).run Tryz.prog W = .ok (.string ⟨#[UInt8.ofNat c.toNat]⟩) W := by
  refine conv_back W a 1 1 [UInt8.ofNat c.toNat] rfl ?_
  intro j hj
  obtain rfl : j = 0 := by simp at hj; omega
  have e : ((UInt8.ofNat c.toNat).toNat : Int) = c := by
    rw [UInt8.toNat_ofNat']
    omega
  simp only [List.getElem_cons_zero, e]
  simpa [Addr.add] using hc

theorem grown_cell {w w' : World} (h : Grown w w') {a : Addr} (ha : a.block < w.heap.size) {v : Value} (hc : w.cell? a = some v) : w'.cell? a = some v := by
  obtain ⟨⟨_, _, hk⟩, _, _⟩ := h
  have := hk a.block ha
  unfold World.cell? at hc ⊢
  cases e1 : w.heap[a.block]? with
  | none => rw [e1] at hc; simp at hc
  | some o =>
    rw [e1] at this hc
    cases e2 : w'.heap[a.block]? with
    | none =>
      rw [e2] at this
      cases o <;> simp at this
    | some o' =>
      rw [e2] at this
      cases o with
      | cells c t fr =>
        cases o' with
        | cells c' t' fr' =>
          simp only at this hc ⊢
          rw [this.2.2.2 a.off (fun h => h)]
          exact hc
        | _ => simp at this
      | map es clock => simp at hc
      | _ =>
        simp only at this
        rw [this]
        exact hc

theorem conv_kept {W w' : World} (hg : Grown W w') (b : Nat) (c : Int) (h0 : 0 ≤ c) (h1 : c < 256) (hb : b < W.heap.size) (hc : W.cell? ⟨b, 0, none⟩ = some (.int .u8 c)) :
    (convert 30 9 (.slice (some ⟨b, 0, none⟩) 1 1)).run Tryz.prog w' = .ok (.string ⟨#[UInt8.ofNat c.toNat]⟩) w' :=
  conv_one w' ⟨b, 0, none⟩ c h0 h1 (grown_cell hg hb hc)

theorem grown_undrew {w w' : World} (h : Grown w.drew w') : Grown w w' := h

theorem decDigits_len (n : Nat) : (Lib.decDigits n).length ≤ n + 1 := by
  induction n using Nat.strongRecOn with
  | _ n ih =>
    rw [Lib.decDigits]
    by_cases c : n < 10
    · rw [dif_pos c]; simp
    · rw [dif_neg c]
      have := ih (n / 10) (by omega)
      simp
      omega

end Go.Proofs.YtoiglopilpoafaaGreatDoor.F

namespace Go.Proofs.YtoiglopilpoafaaGreatDoor.F
open Go.RowKit Fl
set_option linter.unusedSimpArgs false
set_option linter.unusedVariables false

/-- What was there is as it was. -/
def Kb (w w' : World) : Prop := w.keptBut w' (fun _ => False) ∧ w.heap.size ≤ w'.heap.size
theorem Kb.refl (w : World) : Kb w w := ⟨World.keptBut_refl _ _, Nat.le_refl _⟩
theorem Kb.trans {a b c : World} (h : Kb a b) (g : Kb b c) : Kb a c := ⟨World.keptBut_trans h.1 g.1, Nat.le_trans h.2 g.2⟩
theorem Kb.of_grown {a b : World} (h : Grown a b) : Kb a b := ⟨h.1, h.2.2⟩
theorem Kb.of_below {a b : World} (h : Below a.heap.size a b) : Kb a b := ⟨h.frame _, h.size⟩

def hexdig (d : Nat) : UInt8 := if d < 10 then UInt8.ofNat (48 + d) else UInt8.ofNat (87 + d)
def hexF : Nat → Nat → List UInt8
  | 0, _ => []
  | k + 1, f => if f = 0 then [] else hexdig (f / 281474976710656) :: hexF k (f % 281474976710656 * 16)
def fracL (f : Nat) : List UInt8 := if f = 0 then [] else 46 :: hexF 13 f
def lenOf : Value → Nat
  | .slice _ n _ => n
  | _ => 0

theorem hexF_zero (k : Nat) : hexF k 0 = [] := by cases k <;> simp [hexF]

theorem hex_index (d : Nat) (h : d < 16) (w : World) : (Instr.index 9 (.string ⟨#[48, 49, 50, 51, 52, 53, 54, 55, 56, 57, 97, 98, 99, 100, 101, 102]⟩) (.int .u64 (d : Int))).run Tryz.prog w = .ok (.int .u8 ((hexdig d).toNat : Int)) w := by
  have : d = 0 ∨ d = 1 ∨ d = 2 ∨ d = 3 ∨ d = 4 ∨ d = 5 ∨ d = 6 ∨ d = 7 ∨ d = 8 ∨ d = 9 ∨ d = 10 ∨ d = 11 ∨ d = 12 ∨ d = 13 ∨ d = 14 ∨ d = 15 := by omega
  rcases this with rfl | rfl | rfl | rfl | rfl | rfl | rfl | rfl | rfl | rfl | rfl | rfl | rfl | rfl | rfl | rfl <;> (show _ = _) <;> kernel_rfl

def byteVals (l : List UInt8) : List Value := l.map fun b => .int .u8 (b.toNat : Int)

theorem Tryz.info_u8 : (Tryz.prog.info? 5).map (fun i => (i.zero, i.size, i.bytes)) = some (some (.int .u8 0), 1, 1) := by kernel_rfl

theorem conv_owned (w : World) (B g n cap : Nat) (l : List UInt8) (hown : w.ownsRow B 5 1 (.slice (some ⟨g, 0, none⟩) n cap) n (byteVals l)) :
    (convert 30 9 (.slice (some ⟨g, 0, none⟩) n cap)).run Tryz.prog w = .ok (.string ⟨l.toArray⟩) w := by
  have hl : l.length = n := by
    have := hown.1
    simpa [byteVals] using this
  refine conv_back w ⟨g, 0, none⟩ n cap l hl ?_
  intro j hj
  have e : (⟨g, 0, none⟩ : Addr).add j = ⟨g, j, none⟩ := by simp [Addr.add]; intro h; exact h.symm
  rw [e, hown.cellAt j (by omega)]
  simp [byteVals, List.getElem?_eq_getElem hj]

/-- A block of its own, and one more behind it. -/
theorem own_start (w : World) (C : Array Value) (e : TypeId) (o : Obj) (cap n : Nat) (xs : List Value) (hC : C.size = cap) (hn : n ≤ cap) (hm : cap ≤ maxLen) (hx : C.toList.take n = xs) :
    ((w.alloc (.cells C e)).alloc o).ownsRow w.heap.size e 1 (.slice (some ⟨w.heap.size, 0, none⟩) n cap) n xs := by
  refine ⟨?_, Or.inr ⟨w.heap.size, cap, C, rfl, Nat.le_refl _, ?_, hn, hm, by omega, by rw [Nat.mul_one]; exact hx⟩⟩
  · rw [← hx, List.length_take, Array.length_toList]
    omega
  · have h1 : (w.alloc (.cells C e)).heap[w.heap.size]? = some (.cells C e) := by
      show (w.heap.push _)[w.heap.size]? = _
      simp
    rw [Below.heap_alloc _ _ _ (by simp)]
    exact h1

theorem shl4_and (f : Nat) (h : f < 4503599627370496) : bits .and .u64 (IntKind.u64.wrap ((f : Int) * 16)) 4503599627370495 = ((f % 281474976710656 * 16 : Nat) : Int) := by
  rw [IntKind.wrap_u64, and_frac _ ⟨by omega, by omega⟩]
  omega

theorem pow16 (k : Nat) (hk : k < 13) (f : Nat) (hf : f < 4503599627370496) (h : f % 16 ^ k = 0) : (f % 281474976710656 * 16) % 16 ^ (k + 1) = 0 := by
  have : k = 0 ∨ k = 1 ∨ k = 2 ∨ k = 3 ∨ k = 4 ∨ k = 5 ∨ k = 6 ∨ k = 7 ∨ k = 8 ∨ k = 9 ∨ k = 10 ∨ k = 11 ∨ k = 12 := by omega
  rcases this with rfl | rfl | rfl | rfl | rfl | rfl | rfl | rfl | rfl | rfl | rfl | rfl | rfl <;> omega
theorem pow16_13 (k : Nat) (hk : k ≤ 13) (f : Nat) (hf : f < 4503599627370496) (h : f % 16 ^ k = 0) (h0 : f ≠ 0) : k < 13 := by
  rcases Nat.lt_or_eq_of_le hk with h1 | h1
  · exact h1
  · subst h1; omega

end Go.Proofs.YtoiglopilpoafaaGreatDoor.F

namespace Go.Proofs.YtoiglopilpoafaaGreatDoor.F
open Go.RowKit Fl
set_option linter.unusedSimpArgs false
set_option linter.unusedVariables false

def Tab (w : World) : Prop := Lib.TabIs Tryz.prog w "internal/strconv.uint64pow10" .u64 Lib.pow10Tab

theorem kb_heap {w w' : World} (h : Kb w w') {g : Nat} {cs : Array Value} {t : TypeId} {fr : Nat × Nat} (hg : g < w.heap.size) (hc : w.heap[g]? = some (.cells cs t fr)) : ∃ t' fr', w'.heap[g]? = some (.cells cs t' fr') := by
  obtain ⟨⟨_, _, hk⟩, _⟩ := h
  have := hk g hg
  rw [hc] at this
  cases e2 : w'.heap[g]? with
  | none => rw [e2] at this; simp at this
  | some o' =>
    rw [e2] at this
    cases o' with
    | cells c' t' fr' =>
      simp only at this
      have e : c' = cs := by
        apply Array.ext_getElem?
        intro j
        exact this.2.2.2 j (fun h => h)
      exact ⟨t', fr', by rw [e]⟩
    | _ => simp at this

theorem tab_kb {w w' : World} (h : Tab w) (hk : Kb w w') : Tab w' := by
  unfold Tab Lib.TabIs World.var? at h ⊢
  cases hg : Tryz.prog.globalNamed "internal/strconv.uint64pow10" with
  | none => rw [hg] at h; cases h
  | some g =>
    rw [hg] at h
    simp only [Option.bind_some] at h ⊢
    have hlt : g < w.heap.size := by
      rcases Nat.lt_or_ge g w.heap.size with h' | h'
      · exact h'
      · rw [Array.getElem?_eq_none h'] at h; cases h
    cases e1 : w.heap[g]? with
    | none => rw [e1] at h; cases h
    | some o =>
      rw [e1] at h
      cases o with
      | cells cs t fr =>
        obtain ⟨t', fr', e2⟩ := kb_heap hk hlt e1
        rw [e2]
        exact h
      | _ => cases h

def expL (e : Int) : List UInt8 := if e < 0 then 45 :: Lib.decDigits e.natAbs else 43 :: Lib.decDigits e.toNat

theorem kb_grow (w : World) (k : Nat) (os : Array Obj) : Kb w (Sort.grow (w.drewN k) os) := by
  refine ⟨⟨rfl, rfl, fun i hi => ?_⟩, by simp [Sort.grow, World.drewN]⟩
  have e : (Sort.grow (w.drewN k) os).heap[i]? = w.heap[i]? := by
    show (w.heap ++ os)[i]? = _
    rw [Array.getElem?_append_left hi]
  rw [e]
  cases w.heap[i]? with
  | none => rfl
  | some o => cases o <;> simp

/-- How far a magnitude is moved so that its first digit stands at the 53rd place. -/
def shf (m : Nat) : Nat := 53 - Lib.bitLen m
def nrm (m : Nat) : Nat := m * 2 ^ shf m
theorem bitLenAux_spec (f : Nat) : ∀ x : Nat, x < 2 ^ f → x < 2 ^ Lib.bitLenAux f x ∧ (x ≠ 0 → 1 ≤ Lib.bitLenAux f x ∧ 2 ^ (Lib.bitLenAux f x - 1) ≤ x) := by
  induction f with
  | zero =>
    intro x hx
    have : x = 0 := by simpa using hx
    subst this
    simp [Lib.bitLenAux]
  | succ f ih =>
    intro x hx
    unfold Lib.bitLenAux
    by_cases c : x = 0
    · subst c; simp
    · rw [if_neg c]
      rw [Nat.pow_succ] at hx
      obtain ⟨h1, h2⟩ := ih (x / 2) (by omega)
      rw [Nat.add_comm 1, Nat.pow_succ]
      refine ⟨by omega, fun _ => ⟨by omega, ?_⟩⟩
      rw [Nat.add_sub_cancel]
      by_cases c2 : x / 2 = 0
      · have : Lib.bitLenAux f (x / 2) = 0 := by
          rw [c2]
          cases f <;> simp [Lib.bitLenAux]
        rw [this]
        simp
        omega
      · obtain ⟨h3, h4⟩ := h2 c2
        obtain ⟨k, hk⟩ : ∃ k, Lib.bitLenAux f (x / 2) = k + 1 := ⟨Lib.bitLenAux f (x / 2) - 1, by omega⟩
        rw [hk] at h4 ⊢
        rw [Nat.add_sub_cancel] at h4
        rw [Nat.pow_succ]
        omega
theorem nrm_bounds (m : Nat) (h0 : m ≠ 0) (h : m < 9007199254740992) : Lib.bitLen m ≤ 53 ∧ 1 ≤ Lib.bitLen m ∧ 4503599627370496 ≤ nrm m ∧ nrm m < 9007199254740992 := by
  obtain ⟨h1, h2⟩ := bitLenAux_spec 64 m (by omega)
  obtain ⟨h3, h4⟩ := h2 h0
  change m < 2 ^ Lib.bitLen m at h1
  change 1 ≤ Lib.bitLen m at h3
  change 2 ^ (Lib.bitLen m - 1) ≤ m at h4
  have h5 : Lib.bitLen m ≤ 53 := by
    apply Classical.byContradiction
    intro hc
    have : 2 ^ 53 ≤ 2 ^ (Lib.bitLen m - 1) := Nat.pow_le_pow_right (by decide) (by omega)
    omega
  refine ⟨h5, h3, ?_, ?_⟩
  · unfold nrm shf
    have e : (4503599627370496 : Nat) = 2 ^ (Lib.bitLen m - 1) * 2 ^ (53 - Lib.bitLen m) := by
      rw [← Nat.pow_add, show Lib.bitLen m - 1 + (53 - Lib.bitLen m) = 52 by omega]
    rw [e]
    exact Nat.mul_le_mul_right _ h4
  · unfold nrm shf
    have e : (9007199254740992 : Nat) = 2 ^ Lib.bitLen m * 2 ^ (53 - Lib.bitLen m) := by
      rw [← Nat.pow_add, show Lib.bitLen m + (53 - Lib.bitLen m) = 53 by omega]
    rw [e]
    exact Nat.mul_lt_mul_of_pos_right h1 (Nat.two_pow_pos _)
def sizeL (c : Int) (m : Nat) (e : Int) : List UInt8 :=
  if c = 1 then [110, 97, 110] else if c = 2 then [105, 110, 102] else if c = 3 then [48, 120, 48, 112, 43, 48]
  else [48, 120, 49] ++ fracL (nrm m % 4503599627370496) ++ [112] ++ expL (e - shf m + 52)

theorem hexF_len (k f : Nat) : (hexF k f).length ≤ k := by
  induction k generalizing f with
  | zero => simp [hexF]
  | succ k ih =>
    rw [hexF]
    split
    · simp
    · have := ih (f % 281474976710656 * 16)
      simp
      omega
theorem fracL_len (f : Nat) : (fracL f).length ≤ 14 := by
  unfold fracL
  have := hexF_len 13 f
  split <;> simp
  omega
theorem expL_len (e : Int) (h0 : -1200 ≤ e) (h1 : e ≤ 1200) : (expL e).length ≤ 2000 := by
  unfold expL
  have h2 := decDigits_len e.natAbs
  have h3 := decDigits_len e.toNat
  split <;> simp <;> omega

theorem class_parts (a : Int) (ha : U a) : classS a = 1 ∨ classS a = 2 ∨ classS a = 3 ∨ ((classS a = 4 ∨ classS a = 5) ∧ 0 < partM a ∧ partM a < 9007199254740992 ∧ -1074 ≤ partE a ∧ partE a ≤ 971) := by
  obtain ⟨h0, h1⟩ := ha
  rcases class_cases a with e | e | e | e | e
  · omega
  · omega
  · omega
  · have e2 : partM a = a % 4503599627370496 := by simp [partM, e]
    have e3 : partE a = -1074 := by simp [partE, e]
    have : a % 9223372036854775808 < 4503599627370496 ∧ a % 9223372036854775808 ≠ 0 := by
      unfold classS at e
      revert e
      repeat' split
      all_goals omega
    omega
  · have e2 : partM a = a % 4503599627370496 + 4503599627370496 := by simp [partM, e]
    have e3 : partE a = a / 4503599627370496 % 2048 - 1075 := by simp [partE, e]
    have : a % 9223372036854775808 < 9218868437227405312 ∧ 4503599627370496 ≤ a % 9223372036854775808 := by
      unfold classS at e
      revert e
      repeat' split
      all_goals omega
    omega

/-- The one text of a float. -/
def textS (a : Int) : List UInt8 := (if partN a then [45] else []) ++ sizeL (classS a) (partM a).toNat (partE a)

theorem sizeL_len (c : Int) (m : Nat) (e : Int) (hm : m < 9007199254740992) (h0 : -1074 ≤ e) (h1 : e ≤ 971) : (sizeL c m e).length ≤ 3000 := by
  unfold sizeL
  have h2 := fracL_len (nrm m % 4503599627370496)
  have h4 : shf m ≤ 53 := by unfold shf; omega
  have h3 := expL_len (e - shf m + 52) (by omega) (by omega)
  repeat' split
  all_goals simp
  omega

theorem parts_bounds (a : Int) (ha : U a) : (partM a).toNat < 9007199254740992 ∧ -1074 ≤ partE a ∧ partE a ≤ 971 := by
  rcases class_parts a ha with e | e | e | ⟨_, h⟩
  · simp [partM, partE, e]
  · simp [partM, partE, e]
  · have e2 : partM a = a % 4503599627370496 := by simp [partM, e]
    have e3 : partE a = -1074 := by simp [partE, e]
    omega
  · omega

end Go.Proofs.YtoiglopilpoafaaGreatDoor.F

namespace Go.Proofs.YtoiglopilpoafaaGreatDoor.F
open Go.RowKit Fl
set_option linter.unusedSimpArgs false
set_option linter.unusedVariables false

theorem Kb.drew (w : World) : Kb w w.drew := Kb.of_grown (Grown.refl w).drew

def cut1 (l : List UInt8) (c : UInt8) : List UInt8 × List UInt8 × Bool :=
  if 0 ≤ Lib.indexByte l c then (l.take (Lib.indexByte l c).toNat, l.drop ((Lib.indexByte l c).toNat + 1), true) else (l, [], false)

theorem indexByte_lt (l : List UInt8) (c : UInt8) : Lib.indexByte l c < l.length := by
  induction l with
  | nil => simp [Lib.indexByte]
  | cons b l ih =>
    unfold Lib.indexByte
    repeat' split
    all_goals simp
    all_goals omega

theorem slice_to (l : List UInt8) (i : Nat) (h : i ≤ l.length) (hl : l.length ≤ 9223372036854775807) (w : World) :
    (Instr.slice 9 (.string ⟨l.toArray⟩) none (some (.int .i64 (i : Int))) none).run Tryz.prog w = .ok (.string ⟨(l.take i).toArray⟩) w := by
  have hs : (⟨l.toArray⟩ : ByteArray).size = l.length := by simp [ByteArray.size]
  rw [run_slice_string_to_if _ _ _ _ _ Tryz.underlying9]
  have e : (⟨l.toArray⟩ : ByteArray).extract 0 i = ⟨(l.take i).toArray⟩ := by
    apply ByteArray.ext
    apply Array.ext'
    rw [Lib.extract_data]
    simp
  rw [if_pos (by rw [hs]; omega), Int.toNat_natCast, e]
theorem slice_from (l : List UInt8) (i : Nat) (h : i ≤ l.length) (hl : l.length ≤ 9223372036854775807) (w : World) :
    (Instr.slice 9 (.string ⟨l.toArray⟩) (some (.int .i64 (i : Int))) none none).run Tryz.prog w = .ok (.string ⟨(l.drop i).toArray⟩) w := by
  have hs : (⟨l.toArray⟩ : ByteArray).size = l.length := by simp [ByteArray.size]
  rw [run_slice_string_from_if _ _ _ _ _ Tryz.underlying9]
  have e : (⟨l.toArray⟩ : ByteArray).extract i (⟨l.toArray⟩ : ByteArray).size = ⟨(l.drop i).toArray⟩ := by
    apply ByteArray.ext
    apply Array.ext'
    rw [Lib.extract_to_end]
  rw [if_pos (by rw [hs]; omega), Int.toNat_natCast, e]

end Go.Proofs.YtoiglopilpoafaaGreatDoor.F

namespace Go.Proofs.YtoiglopilpoafaaGreatDoor.F
open Go.RowKit Fl
set_option linter.unusedSimpArgs false
set_option linter.unusedVariables false

/-- On the way to the normal form: j places done of S. -/
def Nm (NR S j m : Nat) : Prop := j ≤ S ∧ m * 2 ^ (S - j) = NR
theorem Nm.last {NR S m : Nat} (h : Nm NR S S m) : m = NR := by
  have := h.2
  rwa [Nat.sub_self, Nat.pow_zero, Nat.mul_one] at this
theorem Nm.step {NR S j m : Nat} (h : Nm NR S j m) (hj : j < S) : m * 2 ≤ NR ∧ Nm NR S (j + 1) (m * 2) := by
  have h2 := h.2
  rw [show S - j = (S - (j + 1)) + 1 by omega, Nat.pow_succ, Nat.mul_comm (2 ^ _), ← Nat.mul_assoc] at h2
  refine ⟨?_, by omega, h2⟩
  rw [← h2]
  exact Nat.le_mul_of_pos_right _ (Nat.two_pow_pos _)

def slen : Value → Nat
  | .string s => s.size
  | _ => 0

theorem hex_slice (d : Nat) (h : d < 16) (w : World) : (Instr.slice 9 (.string ⟨#[48, 49, 50, 51, 52, 53, 54, 55, 56, 57, 97, 98, 99, 100, 101, 102]⟩) (some (.int .u64 (d : Int))) (some (.int .u64 ((d : Int) + 1))) none).run Tryz.prog w = .ok (.string ⟨#[hexdig d]⟩) w := by
  have : d = 0 ∨ d = 1 ∨ d = 2 ∨ d = 3 ∨ d = 4 ∨ d = 5 ∨ d = 6 ∨ d = 7 ∨ d = 8 ∨ d = 9 ∨ d = 10 ∨ d = 11 ∨ d = 12 ∨ d = 13 ∨ d = 14 ∨ d = 15 := by omega
  rcases this with rfl | rfl | rfl | rfl | rfl | rfl | rfl | rfl | rfl | rfl | rfl | rfl | rfl | rfl | rfl | rfl <;> (show _ = _) <;> kernel_rfl

/-- An equation that the walk shall not take for a rule. -/
def Hidden (p : Prop) : Prop := p

theorem ends_eq {a F : Nat} {sl p q l : List UInt8} (hF : Hidden (a = F)) (h : Hidden (sl ++ (p ++ fracL F ++ [112] ++ q) = l)) : l = sl ++ (p ++ fracL a ++ [112] ++ q) := by
  have h1 : a = F := hF
  rw [h1]
  exact h.symm

theorem fin_neg (sl P1 l fr ds : List UInt8) (h : P1 = sl ++ [48, 120, 49]) (hl : l = P1 ++ fr) : sl ++ ([48, 120, 49] ++ fr ++ [112] ++ (45 :: ds)) = (l ++ [112, 45]) ++ ds := by subst hl; subst h; simp
theorem fin_pos (sl P1 l fr ds : List UInt8) (h : P1 = sl ++ [48, 120, 49]) (hl : l = P1 ++ fr) : sl ++ ([48, 120, 49] ++ fr ++ [112] ++ (43 :: ds)) = (l ++ [112, 43]) ++ ds := by subst hl; subst h; simp

theorem shl12n (NR : Nat) : IntKind.u64.wrap ((NR : Int) * 4096) = ((NR % 4503599627370496 : Nat) : Int) * 4096 := by rw [IntKind.wrap_u64]; omega

end Go.Proofs.YtoiglopilpoafaaGreatDoor.F

namespace Go.Proofs.YtoiglopilpoafaaGreatDoor.F
open Go.RowKit Fl
set_option linter.unusedSimpArgs false
set_option linter.unusedVariables false

def hexL : List UInt8 := [48, 49, 50, 51, 52, 53, 54, 55, 56, 57, 97, 98, 99, 100, 101, 102]
def hix (c : UInt8) : Int := Lib.indexByte hexL c
theorem hix_bounds (c : UInt8) : -1 ≤ hix c ∧ hix c < 16 := ⟨Lib.indexByte_ge _ _, indexByte_lt hexL c⟩
theorem hix_dig (d : Nat) (h : d < 16) : hix (hexdig d) = d := by
  have : d = 0 ∨ d = 1 ∨ d = 2 ∨ d = 3 ∨ d = 4 ∨ d = 5 ∨ d = 6 ∨ d = 7 ∨ d = 8 ∨ d = 9 ∨ d = 10 ∨ d = 11 ∨ d = 12 ∨ d = 13 ∨ d = 14 ∨ d = 15 := by omega
  rcases this with rfl | rfl | rfl | rfl | rfl | rfl | rfl | rfl | rfl | rfl | rfl | rfl | rfl | rfl | rfl | rfl <;> decide

def foldHex : List UInt8 → Nat → Option Nat
  | [], acc => some acc
  | c :: r, acc => if hix c < 0 then none else foldHex r (acc * 16 + (hix c).toNat)

theorem str_index (l : List UInt8) (k : Nat) (c : UInt8) (h : l[k]? = some c) (w : World) :
    (Instr.index 9 (.string ⟨l.toArray⟩) (.int .i64 (k : Int))).run Tryz.prog w = .ok (.int .u8 (c.toNat : Int)) w := by
  obtain ⟨hk, hc⟩ := List.getElem?_eq_some_iff.1 h
  have hs : k < (⟨l.toArray⟩ : ByteArray).size := by simpa [ByteArray.size] using hk
  rw [run_index_string _ _ _ _ _ Tryz.underlying9, dif_pos ⟨by omega, by omega⟩]
  have e : (⟨l.toArray⟩ : ByteArray)[k]'hs = c := by
    show l.toArray[k] = c
    simpa using hc
  simp only [Int.toNat_natCast]
  rw [e]

theorem or_digit (acc : Nat) (d : Nat) (ha : acc < 281474976710656) (hd : d < 16) : bits .or .u64 ((acc : Int) * 16) (d : Int) = ((acc * 16 + d : Nat) : Int) := by
  rw [u64_or _ _ (by omega) (by omega) (by omega) (by omega)]
  have e1 : ((acc : Int) * 16).toNat = acc * 16 := by omega
  have e2 : ((d : Int)).toNat = d := by omega
  rw [e1, e2, nat_join 4 (acc * 16) d (by omega) (by omega)]

def outF (r : Option Nat) (n : Nat) : Nat := match r with | some a => a * 16 ^ (13 - n) | none => 0

def isd (c : UInt8) : Bool := decide (48 ≤ c.toNat) && decide (c.toNat ≤ 57)
def foldDec : List UInt8 → Nat → Option Nat
  | [], acc => some acc
  | c :: r, acc => if isd c then foldDec r (acc * 10 + (c.toNat - 48)) else none

def expOf (x : UInt8) (r : Option Nat) : Int := match r with | none => 0 | some a => if x.toNat = 43 then (a : Int) else if x.toNat = 45 then -(a : Int) else 0
def expOk (x : UInt8) (r : Option Nat) : Bool := match r with | none => false | some a => if x.toNat = 43 then decide (-1074 ≤ (a : Int)) && decide ((a : Int) ≤ 1023) else if x.toNat = 45 then decide (-1074 ≤ -(a : Int)) && decide (-(a : Int) ≤ 1023) else false

theorem expOf_pos (x : UInt8) (a : Nat) (h : (x.toNat : Int) = 43) : expOf x (some a) = a ∧ expOk x (some a) = decide ((a : Int) ≤ 1023) := by
  have h' : x.toNat = 43 := by omega
  have h2 : decide (-1074 ≤ (a : Int)) = true := decide_eq_true (by omega)
  simp only [expOf, expOk, h', if_true, h2, Bool.true_and, and_self]
theorem expOf_neg (x : UInt8) (a : Nat) (h : (x.toNat : Int) = 45) : expOf x (some a) = -(a : Int) ∧ expOk x (some a) = decide (a ≤ 1074) := by
  have h' : x.toNat = 45 := by omega
  have h0 : ¬ x.toNat = 43 := by omega
  have h2 : decide (-(a : Int) ≤ 1023) = true := decide_eq_true (by omega)
  have h3 : decide (-1074 ≤ -(a : Int)) = decide (a ≤ 1074) := decide_eq_decide.2 (by omega)
  simp only [expOf, expOk]
  rw [if_neg h0, if_pos h', if_neg h0, if_pos h', h2, h3, Bool.and_true]
  exact ⟨rfl, rfl⟩
theorem expOf_other (x : UInt8) (a : Nat) (h : ¬ (x.toNat : Int) = 43) (h2 : ¬ (x.toNat : Int) = 45) : expOf x (some a) = 0 ∧ expOk x (some a) = false := by
  have h0 : ¬ x.toNat = 43 := by omega
  have h' : ¬ x.toNat = 45 := by omega
  simp only [expOf, expOk]
  rw [if_neg h0, if_neg h', if_neg h0, if_neg h']
  exact ⟨rfl, rfl⟩

end Go.Proofs.YtoiglopilpoafaaGreatDoor.F

namespace Go.Proofs.YtoiglopilpoafaaGreatDoor.F
open Go.RowKit Fl
set_option linter.unusedSimpArgs false
set_option linter.unusedVariables false

def rfS (l : List UInt8) : Nat × Bool :=
  if l.isEmpty then (0, true) else if Lib.hasPrefix l [46] = false ∨ 13 < (Lib.trimPrefix l [46]).length then (0, false)
  else (outF (foldHex (Lib.trimPrefix l [46]) 0) (Lib.trimPrefix l [46]).length, (foldHex (Lib.trimPrefix l [46]) 0).isSome)
def reS (l : List UInt8) : Int × Bool := match l with
  | [] => (0, false)
  | x :: ds => if 4 < ds.length then (0, false) else (expOf x (foldDec ds 0), expOk x (foldDec ds 0))
theorem foldHex_lt (ds : List UInt8) : ∀ (acc n : Nat), acc < 16 ^ n → ∀ r, foldHex ds acc = some r → r < 16 ^ (n + ds.length) := by
  induction ds with
  | nil => intro acc n h r hr; cases hr; simpa using h
  | cons c ds ih =>
    intro acc n h r hr
    have hb := hix_bounds c
    rw [foldHex] at hr
    by_cases hc : hix c < 0
    · rw [if_pos hc] at hr; cases hr
    · rw [if_neg hc] at hr
      have := ih (acc * 16 + (hix c).toNat) (n + 1) (by rw [Nat.pow_succ]; omega) r hr
      rw [List.length_cons, show n + (ds.length + 1) = n + 1 + ds.length by omega]
      exact this
theorem rfS_lt (l : List UInt8) : (rfS l).1 < 4503599627370496 := by
  unfold rfS
  repeat' split
  · simp
  · simp
  · rename_i h
    generalize Lib.trimPrefix l [46] = ds at *
    have hd : ds.length ≤ 13 := by
      apply Classical.byContradiction
      intro hc
      exact h (Or.inr (by omega))
    simp only [outF]
    cases hf : foldHex ds 0 with
    | none => simp
    | some r =>
      simp only
      have := foldHex_lt ds 0 0 (by simp) r hf
      rw [Nat.zero_add] at this
      have e : 16 ^ ds.length * 16 ^ (13 - ds.length) = 16 ^ 13 := by rw [← Nat.pow_add]; congr 1; omega
      have h2 : r * 16 ^ (13 - ds.length) < 16 ^ ds.length * 16 ^ (13 - ds.length) := Nat.mul_lt_mul_of_pos_right this (Nat.pow_pos (by decide))
      rw [e] at h2
      omega
theorem reS_ok (l : List UInt8) (h : (reS l).2 = true) : -1074 ≤ (reS l).1 ∧ (reS l).1 ≤ 1023 := by
  cases l with
  | nil => cases h
  | cons x ds =>
    simp only [reS] at h ⊢
    split at h
    · cases h
    · rename_i hd
      rw [if_neg hd]
      cases hf : foldDec ds 0 with
      | none => rw [hf] at h; cases h
      | some a =>
        rw [hf] at h
        by_cases c1 : (x.toNat : Int) = 43
        · have e := expOf_pos x a c1
          rw [e.2] at h
          simp only [e.1]
          have := of_decide_eq_true h
          omega
        · by_cases c2 : (x.toNat : Int) = 45
          · have e := expOf_neg x a c2
            rw [e.2] at h
            simp only [e.1]
            have := of_decide_eq_true h
            omega
          · have e := expOf_other x a c1 c2
            rw [e.2] at h
            cases h

def joinS (f : Nat) (e : Int) : Nat := if e < -1022 then (4503599627370496 + f) / 2 ^ (-1022 - e).toNat else (e + 1023).toNat * 4503599627370496 + f
theorem join_U (f : Nat) (e : Int) (hf : f < 4503599627370496) (h0 : -1074 ≤ e) (h1 : e ≤ 1023) : joinS f e < 9218868437227405312 := by
  unfold joinS
  split
  · have := Nat.div_le_self (4503599627370496 + f) (2 ^ (-1022 - e).toNat)
    omega
  · omega
end Go.Proofs.YtoiglopilpoafaaGreatDoor.F

namespace Go.Proofs.YtoiglopilpoafaaGreatDoor.F
open Go.RowKit Fl
set_option linter.unusedSimpArgs false
set_option linter.unusedVariables false

def rsS (l : List UInt8) : Int × Bool :=
  if l == [110, 97, 110] then (9221120237041090561, true) else if l == [105, 110, 102] then (9218868437227405312, true) else if l == [48, 120, 48, 112, 43, 48] then (0, true)
  else if Lib.hasPrefix l [48, 120, 49] = false ∨ (cut1 (Lib.trimPrefix l [48, 120, 49]) 112).2.2 = false then (0, false)
  else if (rfS (cut1 (Lib.trimPrefix l [48, 120, 49]) 112).1).2 = false ∨ (reS (cut1 (Lib.trimPrefix l [48, 120, 49]) 112).2.1).2 = false then (0, false)
  else ((joinS (rfS (cut1 (Lib.trimPrefix l [48, 120, 49]) 112).1).1 (reS (cut1 (Lib.trimPrefix l [48, 120, 49]) 112).2.1).1 : Nat), true)

theorem rs_U (l : List UInt8) : U (rsS l).1 := by
  unfold rsS
  repeat' split
  · exact ⟨by simp, by simp⟩
  · exact ⟨by simp, by simp⟩
  · exact ⟨by simp, by simp⟩
  · exact ⟨by simp, by simp⟩
  · exact ⟨by simp, by simp⟩
  · rename_i h
    generalize cut1 (Lib.trimPrefix l [48, 120, 49]) 112 = q at *
    have h1 := rfS_lt q.1
    have h2 := reS_ok q.2.1 (by
      cases e : (reS q.2.1).2
      · exact absurd (Or.inr e) h
      · rfl)
    have := join_U _ _ h1 h2.1 h2.2
    exact ⟨by simp, by simp only; omega⟩

theorem trim_len (l p : List UInt8) : (Lib.trimPrefix l p).length ≤ l.length := by
  unfold Lib.trimPrefix
  split <;> simp

def signed_ (n : Bool) (a : Int) : Int := if n then negS a else a
def parseS (s : List UInt8) : Int × Int :=
  if (rsS (Lib.trimPrefix s [45])).2 && (textS (signed_ (Lib.hasPrefix s [45]) (rsS (Lib.trimPrefix s [45])).1) == s) then (signed_ (Lib.hasPrefix s [45]) (rsS (Lib.trimPrefix s [45])).1, 0) else (0, 10)

end Go.Proofs.YtoiglopilpoafaaGreatDoor.F
