/- Plain facts on the model's doubles: the order of two words is the order of their signed rungs. -/
import Ieee.Arith
import GoSem.Core.Float
import Derived.KernelRfl
namespace Go.Proofs.YtfegnjpajflnkaaDoor
namespace Fl

/-- The magnitude of a rung below infinity, in units of the least place. -/
def mag (r : Nat) : Nat := if r < 4503599627370496 then r else 4503599627370496 + r % 4503599627370496
def ex (r : Nat) : Nat := if r < 4503599627370496 then 0 else r / 4503599627370496 - 1
def val (r : Nat) : Nat := mag r * 2 ^ ex r

theorem val_succ (r : Nat) : val r < val (r + 1) := by
  unfold val mag ex
  by_cases h : r + 1 < 4503599627370496
  · rw [if_pos h, if_pos h, if_pos (show r < 4503599627370496 by omega), if_pos (show r < 4503599627370496 by omega)]
    omega
  · by_cases h0 : r < 4503599627370496
    · obtain rfl : r = 4503599627370495 := by omega
      decide
    · rw [if_neg h, if_neg h, if_neg h0, if_neg h0]
      by_cases hc : r % 4503599627370496 + 1 < 4503599627370496
      · have e1 : (r + 1) / 4503599627370496 = r / 4503599627370496 := by omega
        have e2 : (r + 1) % 4503599627370496 = r % 4503599627370496 + 1 := by omega
        rw [e1, e2]
        exact Nat.mul_lt_mul_of_pos_right (by omega) (Nat.two_pow_pos _)
      · have e1 : (r + 1) / 4503599627370496 = r / 4503599627370496 + 1 := by omega
        have e2 : (r + 1) % 4503599627370496 = 0 := by omega
        have e3 : r % 4503599627370496 = 4503599627370495 := by omega
        have e4 : 1 ≤ r / 4503599627370496 := by omega
        obtain ⟨k, hk⟩ : ∃ k, r / 4503599627370496 = k + 1 := ⟨r / 4503599627370496 - 1, by omega⟩
        rw [e1, e2, e3, hk]
        simp only [Nat.add_sub_cancel, Nat.pow_succ]
        have := Nat.two_pow_pos k
        omega

theorem val_lt {r s : Nat} (h : r < s) : val r < val s := by
  induction s with
  | zero => omega
  | succ s ih =>
    rcases Nat.lt_succ_iff_lt_or_eq.1 h with h | h
    · exact Nat.lt_trans (ih h) (val_succ s)
    · subst h; exact val_succ r
theorem val_lt_iff {r s : Nat} : val r < val s ↔ r < s := by
  refine ⟨fun h => ?_, val_lt⟩
  rcases Nat.lt_trichotomy r s with h1 | h1 | h1
  · exact h1
  · subst h1; omega
  · have := val_lt h1; omega
theorem val_inj {r s : Nat} : val r = val s ↔ r = s := by
  refine ⟨fun h => ?_, fun h => by rw [h]⟩
  rcases Nat.lt_trichotomy r s with h1 | h1 | h1
  · have := val_lt h1; omega
  · exact h1
  · have := val_lt h1; omega
theorem val_zero : val 0 = 0 := by decide

theorem binade_eq : Ieee.double.binade = 4503599627370496 := by decide
theorem infRung_eq : Ieee.double.infRung = 9218868437227405312 := by decide
theorem signWeight_eq : Ieee.double.signWeight = 9223372036854775808 := by decide
theorem leastPlace_eq : Ieee.double.leastPlace = -1074 := by decide

theorem read_fin (x : Nat) (h : x % 9223372036854775808 < 9218868437227405312) :
    Ieee.double.read x = .number (x / 9223372036854775808 % 2 == 1) (mag (x % 9223372036854775808)) (-1074 + (ex (x % 9223372036854775808) : Nat)) := by
  unfold Ieee.Format.read
  simp only [binade_eq, infRung_eq, signWeight_eq, leastPlace_eq]
  by_cases h1 : x % 9223372036854775808 < 4503599627370496
  · rw [if_pos h1]; simp [mag, ex, h1]
  · rw [if_neg h1, if_pos h]; simp [mag, ex, h1]
theorem read_inf (x : Nat) (h : x % 9223372036854775808 = 9218868437227405312) :
    Ieee.double.read x = .infinity (x / 9223372036854775808 % 2 == 1) := by
  unfold Ieee.Format.read
  simp only [binade_eq, infRung_eq, signWeight_eq, leastPlace_eq]
  rw [if_neg (by omega), if_neg (by omega), if_pos h]
theorem read_nan (x : Nat) (h : 9218868437227405312 < x % 9223372036854775808) :
    Ieee.double.read x = .nan (x / 9223372036854775808 % 2 == 1) (x % 9223372036854775808 - 9218868437227405312) := by
  unfold Ieee.Format.read
  simp only [binade_eq, infRung_eq, signWeight_eq, leastPlace_eq]
  rw [if_neg (by omega), if_neg (by omega), if_neg (by omega)]

theorem order_nan_left (x y : Nat) (h : 9218868437227405312 < x % 9223372036854775808) : Ieee.double.order x y = none := by
  unfold Ieee.Format.order
  rw [read_nan x h]
  simp [Ieee.Datum.order]
theorem order_nan_right (x y : Nat) (h : 9218868437227405312 < y % 9223372036854775808) : Ieee.double.order x y = none := by
  unfold Ieee.Format.order
  rw [read_nan y h]
  cases Ieee.double.read x <;> simp [Ieee.Datum.order]

/-- The signed rung. -/
def sr (x : Nat) : Int := if x / 9223372036854775808 % 2 = 1 then -((x % 9223372036854775808 : Nat) : Int) else ((x % 9223372036854775808 : Nat) : Int)

theorem signed_eq (s : Bool) (m u : Nat) : Ieee.signed s m u = (if s then -1 else 1) * ((m * 2 ^ u : Nat) : Int) := by
  unfold Ieee.signed
  rw [Nat.shiftLeft_eq]
  cases s <;> simp

theorem compare_int (a b : Int) : compare a b = if a < b then .lt else if a = b then .eq else .gt := rfl

theorem compare_scale (a b : Int) (p : Nat) (hp : 0 < p) : compare (a * p) (b * p) = compare a b := by
  rw [compare_int, compare_int]
  have hp' : (0 : Int) < p := by omega
  by_cases h : a < b
  · rw [if_pos h, if_pos (Int.mul_lt_mul_of_pos_right h hp')]
  · have h' : ¬ a * p < b * p := fun hh => h (Int.lt_of_mul_lt_mul_right hh (Int.le_of_lt hp'))
    rw [if_neg h, if_neg h']
    by_cases he : a = b
    · subst he; simp
    · have he' : ¬ a * p = b * p := fun hh => he (Int.eq_of_mul_eq_mul_right (by omega) hh)
      rw [if_neg he, if_neg he']

theorem order_fin (x y : Nat) (hx : x % 9223372036854775808 < 9218868437227405312) (hy : y % 9223372036854775808 < 9218868437227405312) :
    Ieee.double.order x y = some (compare (sr x) (sr y)) := by
  unfold Ieee.Format.order
  rw [read_fin x hx, read_fin y hy]
  simp only [Ieee.Datum.order]
  congr 1
  unfold sr
  generalize x % 9223372036854775808 = r
  generalize y % 9223372036854775808 = q
  generalize hs : (x / 9223372036854775808 % 2 == 1) = s
  generalize ht : (y / 9223372036854775808 % 2 == 1) = t
  have hs' : (x / 9223372036854775808 % 2 = 1) ↔ s = true := by rw [← hs]; simp
  have ht' : (y / 9223372036854775808 % 2 = 1) ↔ t = true := by rw [← ht]; simp
  rw [← compare_scale _ _ (2 ^ min (ex r) (ex q)) (Nat.two_pow_pos _)]
  have e1 : (-1074 + (ex r : Int) - min (-1074 + (ex r : Int)) (-1074 + (ex q : Int))).toNat + min (ex r) (ex q) = ex r := by omega
  have e2 : (-1074 + (ex q : Int) - min (-1074 + (ex r : Int)) (-1074 + (ex q : Int))).toNat + min (ex r) (ex q) = ex q := by omega
  rw [signed_eq, signed_eq, Int.mul_assoc, Int.mul_assoc, ← Int.natCast_mul, ← Int.natCast_mul, Nat.mul_assoc, Nat.mul_assoc, ← Nat.pow_add, ← Nat.pow_add, e1, e2]
  change compare _ ((if t = true then (-1 : Int) else 1) * ((val q : Nat) : Int)) = _
  change compare ((if s = true then (-1 : Int) else 1) * ((val r : Nat) : Int)) _ = _
  simp only [hs', ht', compare_int]
  have a1 := @val_lt_iff r q
  have a2 := @val_lt_iff q r
  have a3 := @val_inj r q
  have a4 := @val_lt_iff 0 r
  have a5 := @val_lt_iff 0 q
  rw [val_zero] at a4 a5
  generalize val r = vr at *
  generalize val q = vq at *
  cases s <;> cases t <;> simp
  all_goals
    repeat' split
    all_goals first | rfl | omega

theorem order_eq (x y : Nat) (hx : x % 9223372036854775808 ≤ 9218868437227405312) (hy : y % 9223372036854775808 ≤ 9218868437227405312) :
    Ieee.double.order x y = some (compare (sr x) (sr y)) := by
  by_cases h1 : x % 9223372036854775808 < 9218868437227405312 <;> by_cases h2 : y % 9223372036854775808 < 9218868437227405312
  · exact order_fin x y h1 h2
  all_goals
    unfold Ieee.Format.order sr
    first
      | rw [read_fin x h1, read_inf y (by omega)]
      | rw [read_inf x (by omega), read_fin y h2]
      | rw [read_inf x (by omega), read_inf y (by omega)]
    simp only [Ieee.Datum.order, compare_int]
    rcases Nat.mod_two_eq_zero_or_one (x / 9223372036854775808) with e1 | e1 <;> rcases Nat.mod_two_eq_zero_or_one (y / 9223372036854775808) with e2 | e2 <;> simp [e1, e2, compare, compareOfLessAndEq]
    all_goals first | rfl | omega | skip
    all_goals
      repeat' split
      all_goals first | rfl | omega

/-! The same over whole numbers that fit 64 bits. -/
def U (a : Int) : Prop := 0 ≤ a ∧ a < 18446744073709551616
def nan (a : Int) : Bool := decide (9218868437227405312 < a % 9223372036854775808)
def srI (a : Int) : Int := if 9223372036854775808 ≤ a then 9223372036854775808 - a else a
def lessS (a b : Int) : Bool := !nan a && !nan b && decide (srI a < srI b)
def eqS (a b : Int) : Bool := !nan a && !nan b && decide (srI a = srI b)
def canonS (a : Int) : Int := if nan a then 9221120237041090561 else a
def classS (a : Int) : Int :=
  if 9218868437227405312 < a % 9223372036854775808 then 1 else if a % 9223372036854775808 = 9218868437227405312 then 2 else if a % 9223372036854775808 = 0 then 3
  else if a % 9223372036854775808 < 4503599627370496 then 4 else 5
def cmpS (a b : Int) : Int :=
  if nan a then (if nan b then 0 else 1) else if nan b then -1 else
  if srI a < srI b then -1 else if srI b < srI a then 1 else if a < b then 1 else if b < a then -1 else 0
def nextS (a : Int) : Int :=
  if nan a then 9221120237041090561 else if a = 9223372036854775808 then 0 else if 9223372036854775808 < a then a - 1 else if a = 9218868437227405312 then 9221120237041090561 else a + 1
def negS (a : Int) : Int := if nan a then 9221120237041090561 else if 9223372036854775808 ≤ a then a - 9223372036854775808 else a + 9223372036854775808

theorem srI_eq (a : Int) (h : U a) : sr a.toNat = srI a := by
  obtain ⟨h0, h1⟩ := h
  obtain ⟨n, rfl⟩ := Int.eq_ofNat_of_zero_le h0
  unfold sr srI
  simp only [Int.toNat_natCast]
  split <;> split <;> omega
theorem ord (a b : Int) (ha : U a) (hb : U b) : FloatKind.f64.format.order a.toNat b.toNat = if nan a || nan b then none else some (compare (srI a) (srI b)) := by
  change Ieee.double.order a.toNat b.toNat = _
  obtain ⟨h0, h1⟩ := ha
  obtain ⟨g0, g1⟩ := hb
  by_cases na : nan a = true
  · rw [if_pos (by simp [na])]
    exact order_nan_left _ _ (by simp only [nan, decide_eq_true_eq] at na; omega)
  · by_cases nb : nan b = true
    · rw [if_pos (by simp [nb])]
      exact order_nan_right _ _ (by simp only [nan, decide_eq_true_eq] at nb; omega)
    · rw [if_neg (by simp [na, nb]), ← srI_eq a ⟨h0, h1⟩, ← srI_eq b ⟨g0, g1⟩]
      simp only [nan, decide_eq_true_eq] at na nb
      exact order_eq _ _ (by omega) (by omega)
theorem ord_ne (a : Int) (ha : U a) : (FloatKind.f64.format.order a.toNat a.toNat != some .eq) = nan a := by
  rw [ord a a ha ha]
  cases nan a <;> simp <;> decide
theorem ord_lt (a b : Int) (ha : U a) (hb : U b) : (FloatKind.f64.format.order a.toNat b.toNat == some .lt) = lessS a b := by
  rw [ord a b ha hb]
  unfold lessS
  cases nan a <;> cases nan b <;> simp [compare_int]
  · by_cases h : srI a < srI b <;> simp [h]
    split <;> decide
theorem ord_eq (a b : Int) (ha : U a) (hb : U b) : (FloatKind.f64.format.order a.toNat b.toNat == some .eq) = eqS a b := by
  rw [ord a b ha hb]
  unfold eqS
  cases nan a <;> cases nan b <;> simp [compare_int]
  · by_cases h : srI a < srI b <;> simp [h]
    · have : srI a ≠ srI b := by omega
      simp [this]
    · by_cases h2 : srI a = srI b <;> simp [h2] <;> decide
theorem ord_gt (a b : Int) (ha : U a) (hb : U b) : (FloatKind.f64.format.order a.toNat b.toNat == some .gt) = lessS b a := by
  rw [ord a b ha hb]
  unfold lessS
  cases nan a <;> cases nan b <;> simp only [compare_int] <;> try rfl
  have h0 := Int.lt_trichotomy (srI a) (srI b)
  by_cases h : srI a < srI b
  · have e : ¬ srI b < srI a := by omega
    simp [h, e]
  · by_cases h2 : srI a = srI b
    · have e : ¬ srI b < srI a := by omega
      simp [h2]
    · have e : srI b < srI a := by omega
      simp [h, h2, e]
end Fl
end Go.Proofs.YtfegnjpajflnkaaDoor
