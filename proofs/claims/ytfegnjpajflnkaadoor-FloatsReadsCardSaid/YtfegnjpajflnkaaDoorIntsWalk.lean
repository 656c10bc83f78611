/- FloatsInts walked: whole numbers there and back, and sums, where there is room. -/
import Derived.Test.YtfegnjpajflnkaaDoorInts
import Derived.Test.YtfegnjpajflnkaaDoorRef
namespace Go.Proofs.YtfegnjpajflnkaaDoor
open Go.RowKit Fl
set_option linter.unusedSimpArgs false
set_option linter.unusedVariables false

def Rep (M r : Nat) : Prop := r < 9218868437227405312 ∧ val r = M * K
theorem rep_of (M : Nat) (h : M ≤ 9007199254740992) : ∃ r, Rep M r := by
  by_cases c : M < 9007199254740992
  · obtain ⟨r, hr, hv⟩ := val_of M ((0 : Int) + 1074).toNat c (by omega)
    exact ⟨r, hr, hv⟩
  · obtain ⟨r, hr, hv⟩ := val_of 4503599627370496 (((0 : Int) + 1074).toNat + 1) (by omega) (by omega)
    refine ⟨r, hr, ?_⟩
    have e : 2 ^ ((0 : Int) + 1074).toNat = K := by rw [K]
    rw [hv, Nat.pow_succ, e, show M = 4503599627370496 * 2 by omega]
    generalize K = k
    omega
theorem fi_word (n : Int) (r : Nat) (h : Rep n.natAbs r) : floatOfInt .f64 n = Ieee.double.word (decide (n < 0)) r := by
  rw [floatOfInt_eq, rung_exact n.natAbs 0 r ((0 : Int) + 1074).toNat 0 h.1 (by omega) (by rw [h.2, Nat.pow_zero, Nat.mul_one, K])]
theorem rep_small (M r : Nat) (h : Rep M r) (hM : M ≤ 9007199254740992) : r < 4890909195324358656 := by
  apply val_lt_iff.1
  rw [h.2, val_63]
  exact Nat.mul_lt_mul_of_pos_right (by omega) K_pos
theorem rep_tr (M r : Nat) (h : Rep M r) : tr r = M := by
  unfold tr
  rw [h.2, Nat.mul_div_cancel _ K_pos]
theorem rep_lt (M r N q : Nat) (h : Rep M r) (g : Rep N q) : r < q ↔ M < N := by
  rw [← val_lt_iff, h.2, g.2]
  exact Nat.mul_lt_mul_right K_pos
theorem rep_zero (M r : Nat) (h : Rep M r) : r = 0 ↔ M = 0 := by
  rw [← val_inj, h.2, val_zero, Nat.mul_eq_zero]
  have := K_pos
  omega

theorem fi_sr (n : Int) (r : Nat) (h : Rep n.natAbs r) : srI (floatOfInt .f64 n : Nat) = (if n < 0 then -(r : Int) else r) := by
  have hr := h.1
  have hz := rep_zero _ _ h
  rw [fi_word n r h, word_f]
  unfold srI
  by_cases c : n < 0
  · have : r ≠ 0 := by rw [ne_eq, hz]; omega
    simp only [c, decide_true, if_true]
    rw [if_pos (by omega)]
    omega
  · simp only [c, decide_false, Bool.false_eq_true, if_false]
    rw [if_neg (by omega)]
theorem fi_nan (n : Int) : nan (floatOfInt .f64 n : Nat) = false ∧ U (floatOfInt .f64 n : Nat) := by
  have := nan_word (decide (n < 0)) (rung n.natAbs 0) (rung_le _ _)
  rwa [← floatOfInt_eq] at this
theorem fi_toInt (n : Int) (h : n.natAbs ≤ 9007199254740992) : toI (floatOfInt .f64 n : Nat) = n ∧ toE (floatOfInt .f64 n : Nat) = 0 := by
  obtain ⟨r, hr⟩ := rep_of n.natAbs h
  have hs := fi_sr n r hr
  have hn := fi_nan n
  have hb := rep_small _ _ hr h
  have ht := rep_tr _ _ hr
  have hw := fi_word n r hr
  have ok : okI (floatOfInt .f64 n : Nat) = true := by
    unfold okI
    rw [hs, hn.1]
    simp only [Bool.not_false, Bool.true_and, Bool.and_eq_true, decide_eq_true_eq]
    split <;> omega
  unfold toI toE
  rw [if_pos ok, if_pos ok, hw, word_f]
  refine ⟨?_, rfl⟩
  have h1 := hr.1
  by_cases c : n < 0
  · simp only [c, decide_true, if_true]
    rw [if_pos (by omega), show (((9223372036854775808 + r : Nat) : Int) % 9223372036854775808).toNat = r by omega, ht]
    omega
  · simp only [c, decide_false, Bool.false_eq_true, if_false]
    rw [if_neg (by omega), show (((r : Nat) : Int) % 9223372036854775808).toNat = r by omega, ht]
    omega
theorem fi_order (n m : Int) (hn : n.natAbs ≤ 9007199254740992) (hm : m.natAbs ≤ 9007199254740992) :
    lessS (floatOfInt .f64 n : Nat) (floatOfInt .f64 m : Nat) = decide (n < m) ∧ eqS (floatOfInt .f64 n : Nat) (floatOfInt .f64 m : Nat) = decide (n = m) := by
  obtain ⟨r, hr⟩ := rep_of n.natAbs hn
  obtain ⟨q, hq⟩ := rep_of m.natAbs hm
  have hs := fi_sr n r hr
  have hs' := fi_sr m q hq
  have l1 := rep_lt _ _ _ _ hr hq
  have l2 := rep_lt _ _ _ _ hq hr
  have z1 := rep_zero _ _ hr
  have z2 := rep_zero _ _ hq
  unfold lessS eqS
  rw [(fi_nan n).1, (fi_nan m).1, hs, hs']
  simp only [Bool.not_false, Bool.true_and, decide_eq_decide]
  constructor
  · split <;> split <;> omega
  · split <;> split <;> omega

/-- A double that is a whole number, read. -/
theorem read_word (s : Bool) (r : Nat) (hr : r < 9218868437227405312) : Ieee.double.read (Ieee.double.word s r) = .number s (mag r) (-1074 + (ex r : Nat)) := by
  rw [word_f]
  cases s
  · simp only [Bool.false_eq_true, if_false]
    exact read_pos r hr
  · simp only [if_true]
    have e1 : (9223372036854775808 + r) % 9223372036854775808 = r := by omega
    have e2 : (9223372036854775808 + r) / 9223372036854775808 % 2 = 1 := by omega
    rw [read_fin _ (by omega), e1, e2]
    rfl

theorem fi_add (n m : Int) (hn : n.natAbs ≤ 4503599627370496) (hm : m.natAbs ≤ 4503599627370496) :
    floatBits .add .f64 (floatOfInt .f64 n) (floatOfInt .f64 m) = some (floatOfInt .f64 (n + m)) := by
  obtain ⟨r, hr⟩ := rep_of n.natAbs (by omega)
  obtain ⟨q, hq⟩ := rep_of m.natAbs (by omega)
  obtain ⟨t, ht⟩ := rep_of (n + m).natAbs (by omega)
  rw [fi_word n r hr, fi_word m q hq, fi_word (n + m) t ht]
  change Ieee.double.add _ _ = _
  unfold Ieee.Format.add
  rw [read_word _ r hr.1, read_word _ q hq.1]
  simp only [Ieee.Datum.sum, Option.map_some, Ieee.Format.write, nearest_rung, Option.some.injEq]
  generalize hb : min (-1074 + ((ex r : Nat) : Int)) (-1074 + ((ex q : Nat) : Int)) = base
  have hbase : -1074 ≤ base := by omega
  rw [signed_eq, signed_eq]
  generalize hT : (if decide (n < 0) = true then (-1 : Int) else 1) * ((mag r * 2 ^ (-1074 + ((ex r : Nat) : Int) - base).toNat : Nat) : Int) + (if decide (m < 0) = true then (-1 : Int) else 1) * ((mag q * 2 ^ (-1074 + ((ex q : Nat) : Int) - base).toNat : Nat) : Int) = T
  have e1 : mag r * 2 ^ (-1074 + ((ex r : Nat) : Int) - base).toNat * 2 ^ (base + 1074).toNat = n.natAbs * K := by
    rw [← hr.2, Nat.mul_assoc, ← Nat.pow_add]
    unfold val
    rw [show (-1074 + ((ex r : Nat) : Int) - base).toNat + (base + 1074).toNat = ex r by omega]
  have e2 : mag q * 2 ^ (-1074 + ((ex q : Nat) : Int) - base).toNat * 2 ^ (base + 1074).toNat = m.natAbs * K := by
    rw [← hq.2, Nat.mul_assoc, ← Nat.pow_add]
    unfold val
    rw [show (-1074 + ((ex q : Nat) : Int) - base).toNat + (base + 1074).toNat = ex q by omega]
  generalize mag r * 2 ^ (-1074 + ((ex r : Nat) : Int) - base).toNat = A at *
  generalize mag q * 2 ^ (-1074 + ((ex q : Nat) : Int) - base).toNat = B at *
  have hP : 0 < 2 ^ (base + 1074).toNat := Nat.two_pow_pos _
  have e4 : T * ((2 ^ (base + 1074).toNat : Nat) : Int) = (n + m) * (K : Nat) := by
    have f1 : ((A * 2 ^ (base + 1074).toNat : Nat) : Int) = ((n.natAbs * K : Nat) : Int) := by rw [e1]
    have f2 : ((B * 2 ^ (base + 1074).toNat : Nat) : Int) = ((m.natAbs * K : Nat) : Int) := by rw [e2]
    rw [Int.natCast_mul, Int.natCast_mul] at f1 f2
    rw [← hT, Int.add_mul, Int.mul_assoc, Int.mul_assoc, f1, f2, ← Int.mul_assoc, ← Int.mul_assoc, ← Int.add_mul]
    congr 1
    by_cases c1 : n < 0 <;> by_cases c2 : m < 0 <;> simp [c1, c2] <;> omega
  generalize hPP : 2 ^ (base + 1074).toNat = PP at *
  have hK := K_pos
  have hs0 : T = 0 ↔ n + m = 0 := by
    constructor
    · intro h
      rw [h, Int.zero_mul] at e4
      rcases Int.mul_eq_zero.1 e4.symm with h | h <;> omega
    · intro h
      rw [h, Int.zero_mul] at e4
      rcases Int.mul_eq_zero.1 e4 with h | h <;> omega
  have hsn : T < 0 ↔ n + m < 0 := by
    constructor
    · intro h
      have : T * (PP : Int) < 0 := Int.mul_neg_of_neg_of_pos h (by omega)
      rw [e4] at this
      apply Classical.byContradiction
      intro hc
      have : 0 ≤ (n + m) * (K : Int) := Int.mul_nonneg (by omega) (by omega)
      omega
    · intro h
      have : (n + m) * (K : Int) < 0 := Int.mul_neg_of_neg_of_pos h (by omega)
      rw [← e4] at this
      apply Classical.byContradiction
      intro hc
      have : 0 ≤ T * (PP : Int) := Int.mul_nonneg (by omega) (by omega)
      omega
  have habs : T.natAbs * PP = (n + m).natAbs * K := by
    have := congrArg Int.natAbs e4
    rwa [Int.natAbs_mul, Int.natAbs_mul, Int.natAbs_natCast, Int.natAbs_natCast] at this
  have hrung : rung T.natAbs base = t := rung_exact T.natAbs base t (base + 1074).toNat 0 ht.1 (by omega) (by rw [hPP, habs, ht.2, Nat.pow_zero, Nat.mul_one])
  rw [hrung]
  congr 1
  by_cases c : T = 0
  · rw [if_pos c]
    have := hs0.1 c
    rw [decide_eq_false (show ¬ n + m < 0 by omega)]
    by_cases c1 : n < 0 <;> by_cases c2 : m < 0 <;> simp [c1, c2] <;> omega
  · rw [if_neg c]
    exact decide_eq_decide.2 hsn

theorem rfromInt_any (n : Int) (w : World) :
    Calls Tryd.prog 45 #[.int .i64 n] w fun e w' => e = .returned (.int .u64 (floatOfInt .f64 n : Nat)) ∧ w = w' := by
  have hb := run_bits _ (fi_nan n).2
  simp only [Int.toNat_natCast] at hb
  go_enter Tryd.func45, Tryd.ntmps45
  go_wp2
  go_ret
  exact ⟨rfl, rfl⟩

theorem fromInt_is (n v : Int) (h : ((floatOfInt .f64 n : Nat) : Int) = v) (w : World) :
    Calls Tryd.prog 44 #[.int .i64 n] w fun e w' => e = .returned (.int .u64 v) ∧ w = w' := h ▸ fromInt_any n w
theorem toInt_is (a v f : Int) (h : toI a = v) (h2 : toE a = f) (ha : U a) (w : World) :
    Calls Tryd.prog 11 #[.int .u64 a] w fun e w' => e = .returned (.tuple #[.int .i64 v, .int .i64 f]) ∧ w = w' := h ▸ h2 ▸ toInt_any a ha w
theorem add_exact (a b v : Int) (h : floatBits .add .f64 a.toNat b.toNat = some v.toNat) (hv : U v) (hn : nan v = false) (w : World) :
    Calls Tryd.prog 24 #[.int .u64 a, .int .u64 b] w fun e w' => e = .returned (.int .u64 v) ∧ Grown w w' := by
  have k := add_any a b w
  rw [h] at k
  have e : ((v.toNat : Nat) : Int) = v := by obtain ⟨_, _⟩ := hv; omega
  simp only [resS, e] at k
  rw [canon_self v hn] at k
  exact k

theorem ints_walk (n m a b s : Int) (hn1 : -4503599627370496 ≤ n) (hn2 : n ≤ 4503599627370496) (hm1 : -4503599627370496 ≤ m) (hm2 : m ≤ 4503599627370496) (ha : ((floatOfInt .f64 n : Nat) : Int) = a) (hb : ((floatOfInt .f64 m : Nat) : Int) = b)
    (ua : U a) (ub : U b) (us : U s) (ns : nan s = false) (hs : floatBits .add .f64 a.toNat b.toNat = some s.toNat) (t1 : toI a = n) (t2 : toE a = 0) (t3 : toI s = n + m) (t4 : toE s = 0)
    (hl : lessS a b = decide (n < m)) (he : eqS a b = (n == m)) (w : World) :
    Calls Tryd.prog 7 #[.int .i64 n, .int .i64 m] w fun e w' => e = .returned (.bool true) ∧ Grown w w' := by
  have kr := rfromInt_any n
  rw [ha] at kr
  have l1 := less_any a b ua ub
  have l2 := equal_any a b ua ub
  rw [hl] at l1
  rw [he] at l2
  go_enter Tryd.func7, Tryd.ntmps7
  go_wp2_with (first
    | (go_at_call 44; refine (fromInt_is _ _ (by with_reducible assumption) _).mono ?_; rintro e w' ⟨rfl, rfl⟩)
    | (go_at_call 45; refine (kr _).mono ?_; rintro e w' ⟨rfl, rfl⟩)
    | (go_at_call 11; refine (toInt_is _ _ _ (by with_reducible assumption) (by with_reducible assumption) (by with_reducible assumption) _).mono ?_; rintro e w' ⟨rfl, rfl⟩)
    | (go_at_call 24; refine (add_exact a b s hs us ns _).mono ?_; rintro e w' ⟨rfl, g2⟩)
    | (go_at_call 34; refine (l1 _).mono ?_; rintro e w' ⟨rfl, rfl⟩)
    | (go_at_call 32; refine (l2 _).mono ?_; rintro e w' ⟨rfl, rfl⟩)
    | (go_at_call 23; refine (alive_any _).mono ?_; rintro e w' ⟨rfl, g1⟩))
  go_ret
  exact ⟨rfl, grown_trans g1 g2⟩

theorem ints_out (n m a b : Int) (ha : ((floatOfInt .f64 n : Nat) : Int) = a) (hb : ((floatOfInt .f64 m : Nat) : Int) = b)
    (h : n < -4503599627370496 ∨ (¬ n < -4503599627370496 ∧ 4503599627370496 < n) ∨ (¬ n < -4503599627370496 ∧ ¬ 4503599627370496 < n ∧ m < -4503599627370496) ∨ (¬ n < -4503599627370496 ∧ ¬ 4503599627370496 < n ∧ ¬ m < -4503599627370496 ∧ 4503599627370496 < m)) (w : World) :
    Calls Tryd.prog 7 #[.int .i64 n, .int .i64 m] w fun e w' => e = .returned (.bool true) ∧ Grown w w' := by
  have kr := rfromInt_any n
  rw [ha] at kr
  rcases h with h1 | ⟨h1, h2⟩ | ⟨h1, h2, h3⟩ | ⟨h1, h2, h3, h4⟩
  all_goals
    go_enter Tryd.func7, Tryd.ntmps7
    go_wp2_with (first
      | (go_at_call 44; refine (fromInt_is _ _ (by with_reducible assumption) _).mono ?_; rintro e w' ⟨rfl, rfl⟩)
      | (go_at_call 45; refine (kr _).mono ?_; rintro e w' ⟨rfl, rfl⟩)
      | (go_at_call 23; refine (alive_any _).mono ?_; rintro e w' ⟨rfl, g1⟩))
    go_ret
    exact ⟨rfl, g1⟩

theorem floatsInts.walk (n m : Int) (w0 : (Lit.int .i64 n).wf = true) (w1 : (Lit.int .i64 m).wf = true) (w : World) :
    Calls Tryd.prog 7 #[.int .i64 n, .int .i64 m] w fun e w' => e = .returned (.bool true) ∧ Grown w w' := by
  by_cases h : -4503599627370496 ≤ n ∧ n ≤ 4503599627370496 ∧ -4503599627370496 ≤ m ∧ m ≤ 4503599627370496
  · obtain ⟨h1, h2, h3, h4⟩ := h
    have t := fi_toInt n (by omega)
    have s := fi_toInt (n + m) (by omega)
    have o := fi_order n m (by omega) (by omega)
    exact ints_walk n m _ _ ((floatOfInt .f64 (n + m) : Nat) : Int) h1 h2 h3 h4 rfl rfl (fi_nan n).2 (fi_nan m).2 (fi_nan _).2 (fi_nan _).1 (by simp only [Int.toNat_natCast]; exact fi_add n m (by omega) (by omega)) t.1 t.2 s.1 s.2 o.1 (by rw [o.2]; rfl) w
  · exact ints_out n m _ _ rfl rfl (by omega) w
end Go.Proofs.YtfegnjpajflnkaaDoor
