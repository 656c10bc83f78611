/- What the document's ToInt answers, for any bits: the same as package floats. -/
import Derived.Test.YtfegnjpajflnkaaDoorRefText
namespace Go.Proofs.YtfegnjpajflnkaaDoor
open Go.RowKit Fl
set_option linter.unusedSimpArgs false
set_option linter.unusedVariables false

theorem rung_parts (a : Int) (ha : U a) (h : ¬ classS a < 3) : partM a = (mag (a % 9223372036854775808).toNat : Nat) ∧ partE a = (ex (a % 9223372036854775808).toNat : Nat) - 1074 ∧ (a % 9223372036854775808).toNat < 9218868437227405312 := by
  obtain ⟨f1, n1⟩ := fin_of_class a ha h
  obtain ⟨h0, h1⟩ := ha
  generalize hR : (a % 9223372036854775808).toNat = R
  have hR' : (R : Int) = a % 9223372036854775808 := by omega
  refine ⟨?_, ?_, by omega⟩
  · unfold partM mag
    rw [if_neg h]
    unfold classS at h ⊢
    by_cases c : R < 4503599627370496
    · rw [if_pos c, if_pos]
      · omega
      · repeat' split
        all_goals omega
    · rw [if_neg c, if_neg]
      · omega
      · repeat' split
        all_goals omega
  · unfold partE ex
    rw [if_neg h]
    unfold classS at h ⊢
    by_cases c : R < 4503599627370496
    · rw [if_pos c, if_pos]
      · omega
      · repeat' split
        all_goals omega
    · rw [if_neg c, if_neg]
      · omega
      · repeat' split
        all_goals omega

theorem tr_up (r : Nat) (h : 1074 ≤ ex r) : tr r = mag r * 2 ^ (ex r - 1074) := by
  unfold tr val
  have e5 : ex r = (ex r - 1074) + ((0 : Int) + 1074).toNat := by omega
  have e4 : mag r * 2 ^ ex r = mag r * 2 ^ (ex r - 1074) * K := by
    unfold K
    rw [Nat.mul_assoc, ← Nat.pow_add, ← e5]
  rw [e4, Nat.mul_div_cancel _ K_pos]
theorem tr_down (r : Nat) (h : ex r ≤ 1074) : tr r = mag r / 2 ^ (1074 - ex r) := by
  unfold tr val
  have e3 := K_eq (1074 - ex r) (ex r) (by omega)
  rw [e3, Nat.mul_div_mul_right _ _ (Nat.two_pow_pos _)]

theorem okI_parts (a : Int) (ha : U a) (h : ¬ classS a < 3) : okI a = decide (partE a ≤ 10 ∨ (9223372036854775808 ≤ a ∧ partE a = 11 ∧ partM a = 4503599627370496)) := by
  obtain ⟨f1, n1⟩ := fin_of_class a ha h
  obtain ⟨hm, he, hr⟩ := rung_parts a ha h
  obtain ⟨h0, h1⟩ := ha
  generalize hR : (a % 9223372036854775808).toNat = R at *
  have hR' : (R : Int) = a % 9223372036854775808 := by omega
  have hre := rung_eq R
  have hml := mag_lt R
  have hmg : ex R ≠ 0 → 4503599627370496 ≤ mag R := by unfold ex mag; split <;> omega
  have e : okI a = decide (-4890909195324358656 ≤ srI a ∧ srI a < 4890909195324358656) := by
    unfold okI
    rw [n1]
    simp
  rw [e, decide_eq_decide, hm, he]
  unfold srI
  by_cases c : 9223372036854775808 ≤ a
  · rw [if_pos c]
    constructor
    · intro ⟨g1, g2⟩
      omega
    · intro g
      omega
  · rw [if_neg c]
    constructor
    · intro ⟨g1, g2⟩
      omega
    · intro g
      omega

theorem toI_of (a : Int) (ok : okI a = true) : toI a = if 9223372036854775808 ≤ a then -((tr (a % 9223372036854775808).toNat : Nat) : Int) else ((tr (a % 9223372036854775808).toNat : Nat) : Int) := by
  unfold toI
  rw [if_pos ok]

theorem rtoInt_nan (a : Int) (ha : U a) (h : classS a < 3) (w : World) :
    Calls Tryd.prog 12 #[.int .u64 a] w fun e w' => e = .returned (.tuple #[.int .i64 (toI a), .int .i64 (toE a)]) ∧ w = w' := by
  have ok : okI a = false := by
    obtain ⟨h0, h1⟩ := ha
    unfold okI
    unfold classS at h
    cases hn : nan a
    · simp only [nan, decide_eq_false_iff_not] at hn
      have : a % 9223372036854775808 = 9218868437227405312 := by
        revert h
        repeat' split
        all_goals omega
      simp only [Bool.not_false, Bool.true_and, Bool.and_eq_false_iff, decide_eq_false_iff_not]
      unfold srI
      split <;> omega
    · rfl
  rw [show toI a = 0 by simp [toI, ok], show toE a = 82 by simp [toE, ok]]
  have k := rclass_any a ha
  generalize classS a = c at *
  go_enter Tryd.func12, Tryd.ntmps12
  go_wp2_with (go_at_call 16; refine (k _).mono ?_; rintro e w' ⟨rfl, rfl⟩)
  go_ret2
  exact ⟨rfl, rfl⟩

theorem rt_zero (a c m e T : Int) (sg : Bool) (ha : U a) (hc : classS a = c) (h : ¬ c < 3) (hn : partN a = sg) (hm : partM a = m) (he : partE a = e) (h1 : m = 0) (w : World) :
    Calls Tryd.prog 12 #[.int .u64 a] w fun r w' => r = .returned (.tuple #[.int .i64 0, .int .i64 0]) ∧ w = w' := by
  subst h1
  have k := rclass_is a c hc ha
  have kp := rparts_any a ha
  rw [hn, hm, he] at kp
  go_enter Tryd.func12, Tryd.ntmps12
  go_wp2_with (first
    | (go_at_call 16; refine (k _).mono ?_; rintro e w' ⟨rfl, rfl⟩)
    | (go_at_call 10; refine (kp _).mono ?_; rintro e w' ⟨rfl, rfl⟩))
  go_ret2
  exact ⟨rfl, rfl⟩

theorem rt_tiny (a c m e T : Int) (sg : Bool) (ha : U a) (hc : classS a = c) (h : ¬ c < 3) (hn : partN a = sg) (hm : partM a = m) (he : partE a = e) (h1 : (m == 0) = false) (h2 : e < -1000) (w : World) :
    Calls Tryd.prog 12 #[.int .u64 a] w fun r w' => r = .returned (.tuple #[.int .i64 0, .int .i64 0]) ∧ w = w' := by
  have k := rclass_is a c hc ha
  have kp := rparts_any a ha
  rw [hn, hm, he] at kp
  go_enter Tryd.func12, Tryd.ntmps12
  go_wp2_with (first
    | (go_at_call 16; refine (k _).mono ?_; rintro e w' ⟨rfl, rfl⟩)
    | (go_at_call 10; refine (kp _).mono ?_; rintro e w' ⟨rfl, rfl⟩))
  go_ret2
  exact ⟨rfl, rfl⟩

theorem rt_smallfalse (a c m e T : Int) (ha : U a) (hc : classS a = c) (h : ¬ c < 3) (hn : partN a = false) (hm : partM a = m) (he : partE a = e) (h1 : (m == 0) = false) (h2 : ¬ e < -1000) (h3 : e < -60) (w : World) :
    Calls Tryd.prog 12 #[.int .u64 a] w fun r w' => r = .returned (.tuple #[.int .i64 0, .int .i64 0]) ∧ w = w' := by
  have k := rclass_is a c hc ha
  have kp := rparts_any a ha
  rw [hn, hm, he] at kp
  go_enter Tryd.func12, Tryd.ntmps12
  go_wp2_with (first
    | (go_at_call 16; refine (k _).mono ?_; rintro e w' ⟨rfl, rfl⟩)
    | (go_at_call 10; refine (kp _).mono ?_; rintro e w' ⟨rfl, rfl⟩))
  go_ret2
  exact ⟨rfl, rfl⟩

theorem rt_smalltrue (a c m e T : Int) (ha : U a) (hc : classS a = c) (h : ¬ c < 3) (hn : partN a = true) (hm : partM a = m) (he : partE a = e) (h1 : (m == 0) = false) (h2 : ¬ e < -1000) (h3 : e < -60) (w : World) :
    Calls Tryd.prog 12 #[.int .u64 a] w fun r w' => r = .returned (.tuple #[.int .i64 0, .int .i64 0]) ∧ w = w' := by
  have k := rclass_is a c hc ha
  have kp := rparts_any a ha
  rw [hn, hm, he] at kp
  have h11 : (e == 11) = false := by simp; omega
  rcases Bool.eq_false_or_eq_true (m == 4503599627370496) with hq | hq
  all_goals
    go_enter Tryd.func12, Tryd.ntmps12
    go_wp2_with (first
      | (go_at_call 16; refine (k _).mono ?_; rintro e w' ⟨rfl, rfl⟩)
      | (go_at_call 10; refine (kp _).mono ?_; rintro e w' ⟨rfl, rfl⟩))
    go_ret2
    exact ⟨rfl, rfl⟩

theorem rt_downfalse (a c m e T : Int) (ha : U a) (hc : classS a = c) (h : ¬ c < 3) (hn : partN a = false) (hm : partM a = m) (he : partE a = e) (h1 : (m == 0) = false) (h2 : ¬ e < -60) (h3 : e < 0) (hT : m / 2 ^ (-e).toNat = T) (hT0 : 0 ≤ T) (hT1 : T < 9223372036854775808) (w : World) :
    Calls Tryd.prog 12 #[.int .u64 a] w fun r w' => r = .returned (.tuple #[.int .i64 T, .int .i64 0]) ∧ w = w' := by
  have k := rclass_is a c hc ha
  have kp := rparts_any a ha
  rw [hn, hm, he] at kp
  go_enter Tryd.func12, Tryd.ntmps12
  go_wp2_with (first
    | (go_at_call 16; refine (k _).mono ?_; rintro e w' ⟨rfl, rfl⟩)
    | (go_at_call 10; refine (kp _).mono ?_; rintro e w' ⟨rfl, rfl⟩))
  go_ret2
  exact ⟨rfl, rfl⟩

theorem rt_evenfalse (a c m e T : Int) (ha : U a) (hc : classS a = c) (h : ¬ c < 3) (hn : partN a = false) (hm : partM a = m) (he : partE a = e) (h1 : (m == 0) = false) (h2 : e = 0) (hT : m = T) (hT0 : 0 ≤ T) (hT1 : T < 9223372036854775808) (w : World) :
    Calls Tryd.prog 12 #[.int .u64 a] w fun r w' => r = .returned (.tuple #[.int .i64 T, .int .i64 0]) ∧ w = w' := by
  subst h2
  subst hT
  have k := rclass_is a c hc ha
  have kp := rparts_any a ha
  rw [hn, hm, he] at kp
  go_enter Tryd.func12, Tryd.ntmps12
  go_wp2_with (first
    | (go_at_call 16; refine (k _).mono ?_; rintro e w' ⟨rfl, rfl⟩)
    | (go_at_call 10; refine (kp _).mono ?_; rintro e w' ⟨rfl, rfl⟩))
  go_ret2
  exact ⟨rfl, rfl⟩

theorem rt_upfalse (a c m e T : Int) (ha : U a) (hc : classS a = c) (h : ¬ c < 3) (hn : partN a = false) (hm : partM a = m) (he : partE a = e) (h1 : (m == 0) = false) (h2 : 0 < e) (h3 : e ≤ 10) (hT : IntKind.u64.wrap (m * 2 ^ e.toNat) = T) (hT0 : 0 ≤ T) (hT1 : T < 9223372036854775808) (w : World) :
    Calls Tryd.prog 12 #[.int .u64 a] w fun r w' => r = .returned (.tuple #[.int .i64 T, .int .i64 0]) ∧ w = w' := by
  have k := rclass_is a c hc ha
  have kp := rparts_any a ha
  rw [hn, hm, he] at kp
  go_enter Tryd.func12, Tryd.ntmps12
  go_wp2_with (first
    | (go_at_call 16; refine (k _).mono ?_; rintro e w' ⟨rfl, rfl⟩)
    | (go_at_call 10; refine (kp _).mono ?_; rintro e w' ⟨rfl, rfl⟩))
  go_ret2
  exact ⟨rfl, rfl⟩

theorem rt_downtrue (a c m e T : Int) (ha : U a) (hc : classS a = c) (h : ¬ c < 3) (hn : partN a = true) (hm : partM a = m) (he : partE a = e) (h1 : (m == 0) = false) (h2 : ¬ e < -60) (h3 : e < 0) (hT : m / 2 ^ (-e).toNat = T) (hT0 : 0 ≤ T) (hT1 : T < 9223372036854775808) (w : World) :
    Calls Tryd.prog 12 #[.int .u64 a] w fun r w' => r = .returned (.tuple #[.int .i64 (-T), .int .i64 0]) ∧ w = w' := by
  have k := rclass_is a c hc ha
  have kp := rparts_any a ha
  rw [hn, hm, he] at kp
  have h11 : (e == 11) = false := by simp; omega
  rcases Bool.eq_false_or_eq_true (m == 4503599627370496) with hq | hq
  all_goals
    go_enter Tryd.func12, Tryd.ntmps12
    go_wp2_with (first
      | (go_at_call 16; refine (k _).mono ?_; rintro e w' ⟨rfl, rfl⟩)
      | (go_at_call 10; refine (kp _).mono ?_; rintro e w' ⟨rfl, rfl⟩))
    go_ret2
    exact ⟨rfl, rfl⟩

theorem rt_eventrue (a c m e T : Int) (ha : U a) (hc : classS a = c) (h : ¬ c < 3) (hn : partN a = true) (hm : partM a = m) (he : partE a = e) (h1 : (m == 0) = false) (h2 : e = 0) (hT : m = T) (hT0 : 0 ≤ T) (hT1 : T < 9223372036854775808) (w : World) :
    Calls Tryd.prog 12 #[.int .u64 a] w fun r w' => r = .returned (.tuple #[.int .i64 (-T), .int .i64 0]) ∧ w = w' := by
  subst h2
  subst hT
  have k := rclass_is a c hc ha
  have kp := rparts_any a ha
  rw [hn, hm, he] at kp
  rcases Bool.eq_false_or_eq_true (m == 4503599627370496) with hq | hq
  all_goals
    go_enter Tryd.func12, Tryd.ntmps12
    go_wp2_with (first
      | (go_at_call 16; refine (k _).mono ?_; rintro e w' ⟨rfl, rfl⟩)
      | (go_at_call 10; refine (kp _).mono ?_; rintro e w' ⟨rfl, rfl⟩))
    go_ret2
    exact ⟨rfl, rfl⟩

theorem rt_uptrue (a c m e T : Int) (ha : U a) (hc : classS a = c) (h : ¬ c < 3) (hn : partN a = true) (hm : partM a = m) (he : partE a = e) (h1 : (m == 0) = false) (h2 : 0 < e) (h3 : e ≤ 10) (hT : IntKind.u64.wrap (m * 2 ^ e.toNat) = T) (hT0 : 0 ≤ T) (hT1 : T < 9223372036854775808) (w : World) :
    Calls Tryd.prog 12 #[.int .u64 a] w fun r w' => r = .returned (.tuple #[.int .i64 (-T), .int .i64 0]) ∧ w = w' := by
  have k := rclass_is a c hc ha
  have kp := rparts_any a ha
  rw [hn, hm, he] at kp
  have h11 : (e == 11) = false := by simp; omega
  rcases Bool.eq_false_or_eq_true (m == 4503599627370496) with hq | hq
  all_goals
    go_enter Tryd.func12, Tryd.ntmps12
    go_wp2_with (first
      | (go_at_call 16; refine (k _).mono ?_; rintro e w' ⟨rfl, rfl⟩)
      | (go_at_call 10; refine (kp _).mono ?_; rintro e w' ⟨rfl, rfl⟩))
    go_ret2
    exact ⟨rfl, rfl⟩

theorem rt_least (a c m e T : Int) (ha : U a) (hc : classS a = c) (h : ¬ c < 3) (hn : partN a = true) (hm : partM a = m) (he : partE a = e) (h1 : (m == 0) = false) (h2 : e = 11) (h3 : m = 4503599627370496) (w : World) :
    Calls Tryd.prog 12 #[.int .u64 a] w fun r w' => r = .returned (.tuple #[.int .i64 (-9223372036854775808), .int .i64 0]) ∧ w = w' := by
  subst h2
  subst h3
  have k := rclass_is a c hc ha
  have kp := rparts_any a ha
  rw [hn, hm, he] at kp
  go_enter Tryd.func12, Tryd.ntmps12
  go_wp2_with (first
    | (go_at_call 16; refine (k _).mono ?_; rintro e w' ⟨rfl, rfl⟩)
    | (go_at_call 10; refine (kp _).mono ?_; rintro e w' ⟨rfl, rfl⟩))
  go_ret2
  exact ⟨rfl, rfl⟩

theorem rt_edgepos (a c m e T : Int) (ha : U a) (hc : classS a = c) (h : ¬ c < 3) (hn : partN a = false) (hm : partM a = m) (he : partE a = e) (h1 : (m == 0) = false) (h2 : e = 11) (w : World) :
    Calls Tryd.prog 12 #[.int .u64 a] w fun r w' => r = .returned (.tuple #[.int .i64 0, .int .i64 82]) ∧ w = w' := by
  subst h2
  have k := rclass_is a c hc ha
  have kp := rparts_any a ha
  rw [hn, hm, he] at kp
  go_enter Tryd.func12, Tryd.ntmps12
  go_wp2_with (first
    | (go_at_call 16; refine (k _).mono ?_; rintro e w' ⟨rfl, rfl⟩)
    | (go_at_call 10; refine (kp _).mono ?_; rintro e w' ⟨rfl, rfl⟩))
  go_ret2
  exact ⟨rfl, rfl⟩

theorem rt_edgeneg (a c m e T : Int) (ha : U a) (hc : classS a = c) (h : ¬ c < 3) (hn : partN a = true) (hm : partM a = m) (he : partE a = e) (h1 : (m == 0) = false) (h2 : e = 11) (h3 : (m == 4503599627370496) = false) (w : World) :
    Calls Tryd.prog 12 #[.int .u64 a] w fun r w' => r = .returned (.tuple #[.int .i64 0, .int .i64 82]) ∧ w = w' := by
  subst h2
  have k := rclass_is a c hc ha
  have kp := rparts_any a ha
  rw [hn, hm, he] at kp
  go_enter Tryd.func12, Tryd.ntmps12
  go_wp2_with (first
    | (go_at_call 16; refine (k _).mono ?_; rintro e w' ⟨rfl, rfl⟩)
    | (go_at_call 10; refine (kp _).mono ?_; rintro e w' ⟨rfl, rfl⟩))
  go_ret2
  exact ⟨rfl, rfl⟩

theorem rt_great (a c m e T : Int) (sg : Bool) (ha : U a) (hc : classS a = c) (h : ¬ c < 3) (hn : partN a = sg) (hm : partM a = m) (he : partE a = e) (h1 : (m == 0) = false) (h2 : 11 < e) (w : World) :
    Calls Tryd.prog 12 #[.int .u64 a] w fun r w' => r = .returned (.tuple #[.int .i64 0, .int .i64 82]) ∧ w = w' := by
  have k := rclass_is a c hc ha
  have kp := rparts_any a ha
  rw [hn, hm, he] at kp
  go_enter Tryd.func12, Tryd.ntmps12
  go_wp2_with (first
    | (go_at_call 16; refine (k _).mono ?_; rintro e w' ⟨rfl, rfl⟩)
    | (go_at_call 10; refine (kp _).mono ?_; rintro e w' ⟨rfl, rfl⟩))
  go_ret2
  exact ⟨rfl, rfl⟩

theorem rtoInt_any (a : Int) (ha : U a) (w : World) :
    Calls Tryd.prog 12 #[.int .u64 a] w fun r w' => r = .returned (.tuple #[.int .i64 (toI a), .int .i64 (toE a)]) ∧ w = w' := by
  by_cases h : classS a < 3
  · exact rtoInt_nan a ha h w
  obtain ⟨hm, he, hr⟩ := rung_parts a ha h
  have hok := okI_parts a ha h
  have hn : partN a = decide (9223372036854775808 ≤ a) := by
    unfold partN
    rw [if_neg (by omega)]
  have hml := mag_lt (a % 9223372036854775808).toNat
  have hi := toI_of a
  have htu := tr_up (a % 9223372036854775808).toNat
  have htd := tr_down (a % 9223372036854775808).toNat
  generalize (a % 9223372036854775808).toNat = R at *
  have hx : ex R ≤ 2045 := by unfold ex; split <;> omega
  by_cases c0 : partM a = 0
  · have hmz : mag R = 0 := by omega
    have hR0 : ex R = 0 := by
      unfold mag at hmz
      unfold ex
      split at hmz
      · rw [if_pos (by assumption)]
      · omega
    have ok : okI a = true := by rw [hok]; exact decide_eq_true (by omega)
    have t0 : tr R = 0 := by rw [htd (by omega), hmz, Nat.zero_div]
    rw [show toI a = 0 by rw [hi ok, t0]; simp, show toE a = 0 by simp [toE, ok]]
    exact rt_zero a _ _ _ 0 _ ha rfl h rfl rfl rfl c0 w
  have hz : (partM a == 0) = false := by simpa using c0
  by_cases c1 : partE a < -60
  · have ok : okI a = true := by rw [hok]; exact decide_eq_true (by omega)
    have t0 : tr R = 0 := by
      rw [htd (by omega)]
      apply Nat.div_eq_of_lt
      exact Nat.lt_of_lt_of_le hml (Nat.pow_le_pow_right (show 0 < 2 by decide) (show 53 ≤ 1074 - ex R by omega))
    rw [show toI a = 0 by rw [hi ok, t0]; simp, show toE a = 0 by simp [toE, ok]]
    by_cases c2 : partE a < -1000
    · exact rt_tiny a _ _ _ 0 _ ha rfl h rfl rfl rfl hz c2 w
    · by_cases s : 9223372036854775808 ≤ a
      · exact rt_smalltrue a _ _ _ 0 ha rfl h (by rw [hn]; exact decide_eq_true s) rfl rfl hz c2 c1 w
      · exact rt_smallfalse a _ _ _ 0 ha rfl h (by rw [hn]; exact decide_eq_false s) rfl rfl hz c2 c1 w
  by_cases c2 : partE a < 0
  · have ok : okI a = true := by rw [hok]; exact decide_eq_true (by omega)
    have ht := htd (by omega)
    have hT : partM a / 2 ^ (-partE a).toNat = (tr R : Int) := by
      rw [ht, hm, Int.natCast_ediv, Int.natCast_pow, show (-partE a).toNat = 1074 - ex R by omega]
      rfl
    have hTb : tr R ≤ mag R := by rw [ht]; exact Nat.div_le_self _ _
    rw [show toE a = 0 by simp [toE, ok], hi ok]
    by_cases s : 9223372036854775808 ≤ a
    · rw [if_pos s]
      exact rt_downtrue a _ _ _ _ ha rfl h (by rw [hn]; exact decide_eq_true s) rfl rfl hz c1 c2 hT (by omega) (by omega) w
    · rw [if_neg s]
      exact rt_downfalse a _ _ _ _ ha rfl h (by rw [hn]; exact decide_eq_false s) rfl rfl hz c1 c2 hT (by omega) (by omega) w
  by_cases c3 : partE a = 0
  · have ok : okI a = true := by rw [hok]; exact decide_eq_true (by omega)
    have ht := htd (by omega)
    rw [show 1074 - ex R = 0 by omega, Nat.pow_zero, Nat.div_one] at ht
    have hT : partM a = (tr R : Int) := by omega
    rw [show toE a = 0 by simp [toE, ok], hi ok]
    by_cases s : 9223372036854775808 ≤ a
    · rw [if_pos s]
      exact rt_eventrue a _ _ _ _ ha rfl h (by rw [hn]; exact decide_eq_true s) rfl rfl hz c3 hT (by omega) (by omega) w
    · rw [if_neg s]
      exact rt_evenfalse a _ _ _ _ ha rfl h (by rw [hn]; exact decide_eq_false s) rfl rfl hz c3 hT (by omega) (by omega) w
  by_cases c4 : partE a ≤ 10
  · have ok : okI a = true := by rw [hok]; exact decide_eq_true (by omega)
    have ht := htu (by omega)
    have hle : 2 ^ (ex R - 1074) ≤ 1024 := by
      have := Nat.pow_le_pow_right (show 0 < 2 by decide) (show ex R - 1074 ≤ 10 by omega)
      omega
    have hTb : tr R ≤ 9007199254740991 * 1024 := by rw [ht]; exact Nat.mul_le_mul (by omega) hle
    have hT : IntKind.u64.wrap (partM a * 2 ^ (partE a).toNat) = (tr R : Int) := by
      rw [hm, show (partE a).toNat = ex R - 1074 by omega]
      have e9 : ((mag R : Nat) : Int) * 2 ^ (ex R - 1074) = ((tr R : Nat) : Int) := by rw [ht, Int.natCast_mul, Int.natCast_pow]; rfl
      rw [e9, IntKind.wrap_u64]
      omega
    rw [show toE a = 0 by simp [toE, ok], hi ok]
    by_cases s : 9223372036854775808 ≤ a
    · rw [if_pos s]
      exact rt_uptrue a _ _ _ _ ha rfl h (by rw [hn]; exact decide_eq_true s) rfl rfl hz (by omega) c4 hT (by omega) (by omega) w
    · rw [if_neg s]
      exact rt_upfalse a _ _ _ _ ha rfl h (by rw [hn]; exact decide_eq_false s) rfl rfl hz (by omega) c4 hT (by omega) (by omega) w
  by_cases c5 : partE a = 11
  · by_cases s : 9223372036854775808 ≤ a
    · by_cases c6 : partM a = 4503599627370496
      · have ok : okI a = true := by rw [hok]; exact decide_eq_true (by omega)
        have ht := htu (by omega)
        rw [show ex R - 1074 = 11 by omega, show mag R = 4503599627370496 by omega] at ht
        rw [show toE a = 0 by simp [toE, ok], hi ok, if_pos s, ht]
        exact rt_least a _ _ _ 0 ha rfl h (by rw [hn]; exact decide_eq_true s) rfl rfl hz c5 c6 w
      · have ok : okI a = false := by rw [hok]; exact decide_eq_false (by omega)
        rw [show toI a = 0 by simp [toI, ok], show toE a = 82 by simp [toE, ok]]
        exact rt_edgeneg a _ _ _ 0 ha rfl h (by rw [hn]; exact decide_eq_true s) rfl rfl hz c5 (by simpa using c6) w
    · have ok : okI a = false := by rw [hok]; exact decide_eq_false (by omega)
      rw [show toI a = 0 by simp [toI, ok], show toE a = 82 by simp [toE, ok]]
      exact rt_edgepos a _ _ _ 0 ha rfl h (by rw [hn]; exact decide_eq_false s) rfl rfl hz c5 w
  · have ok : okI a = false := by rw [hok]; exact decide_eq_false (by omega)
    rw [show toI a = 0 by simp [toI, ok], show toE a = 82 by simp [toE, ok]]
    exact rt_great a _ _ _ 0 _ ha rfl h rfl rfl rfl hz (by omega) w
end Go.Proofs.YtfegnjpajflnkaaDoor
