/- IntsExact walked: sums, differences and products are those of whole numbers. -/
import Derived.Test.YtoofbbojaoiadaaDoorInEuclid
namespace Go.Proofs.YtoofbbojaoiadaaDoor
open Go.RowKit
set_option linter.unusedSimpArgs false
set_option linter.unusedVariables false

theorem am_nat (a : Int) : amS a = (a.natAbs : Int) := by unfold amS; split <;> omega
theorem am_mul (a b : Int) : amS a * amS b = amS (a * b) := by
  rw [am_nat, am_nat, am_nat, Int.natAbs_mul, Int.natCast_mul]
/-- Whether a product's sign is a minus. -/
def mnS (a b : Int) : Bool := decide (a < 0) != decide (b < 0)
theorem mn_sign (a b : Int) (h : a * b ≠ 0) : decide (a * b < 0) = mnS a b := by
  unfold mnS
  by_cases c1 : a < 0 <;> by_cases c2 : b < 0
  · have := Int.mul_nonneg (show 0 ≤ -a by omega) (show 0 ≤ -b by omega)
    rw [Int.neg_mul_neg] at this
    simp [c1, c2]; omega
  · have := Int.mul_nonneg (show 0 ≤ -a by omega) (show 0 ≤ b by omega)
    rw [Int.neg_mul] at this
    simp [c1, c2]; omega
  · have := Int.mul_nonneg (show 0 ≤ a by omega) (show 0 ≤ -b by omega)
    rw [Int.mul_neg] at this
    simp [c1, c2]; omega
  · have := Int.mul_nonneg (show 0 ≤ a by omega) (show 0 ≤ b by omega)
    simp [c1, c2]; omega

theorem fit_prod (a b : Int) (ha : I64 a) (hb : I64 b) (H L : Int) (hH : amS (a * b) / 18446744073709551616 = H) (hL : amS (a * b) % 18446744073709551616 = L) :
    fit (a * b) = ((H == 0) && (decide (L < 9223372036854775808) || (mnS a b && (L == 9223372036854775808)))) := by
  have hm := mn_sign a b
  have hp := prod_bound a b ha hb
  subst hH hL
  generalize a * b = p at *
  generalize mnS a b = M at *
  unfold fit
  rw [Bool.eq_iff_iff]
  simp only [Bool.and_eq_true, Bool.or_eq_true, decide_eq_true_eq, beq_iff_eq]
  by_cases h0 : p = 0
  · subst h0; simp [amS]
  have hm := hm h0
  by_cases c : p < 0
  · have : M = true := by rw [← hm]; simp [c]
    subst this
    have e : amS p = -p := by simp [amS, c]
    rw [e]
    simp only [true_and]
    omega
  · have : M = false := by rw [← hm]; simp [c]
    subst this
    have e : amS p = p := by simp [amS, c]
    rw [e]
    simp only [Bool.false_eq_true, false_and, or_false]
    omega

theorem u64_mask (a : Nat) (ha : a < 18446744073709551616) : bits .and .u64 (a : Int) 4294967295 = ((a % 4294967296 : Nat) : Int) := Mul64.maskN a ha
set_option maxHeartbeats 1000000 in
theorem wide_nat (x y : Nat) (hx : x < 18446744073709551616) (hy : y < 18446744073709551616) (w : World) :
    Calls Tryd.prog 32 #[.int .u64 x, .int .u64 y] w fun e w' => e = .returned (.tuple #[.int .u64 ((x * y / 18446744073709551616 : Nat) : Int), .int .u64 ((x * y % 18446744073709551616 : Nat) : Int)]) ∧ w = w' := by
  obtain ⟨bd, bt, bw, hhi⟩ := Lib.mul64_hi x y hx hy
  have ba := Lib.half_mul_le (a := x / 4294967296) (b := y / 4294967296) (by omega) (by omega)
  have bb := Lib.half_mul_le (a := x / 4294967296) (b := y % 4294967296) (by omega) (by omega)
  have bc := Lib.half_mul_le (a := x % 4294967296) (b := y / 4294967296) (by omega) (by omega)
  have ba' : x / 4294967296 * (y / 4294967296) < 18446744073709551616 := by omega
  have bb' : x / 4294967296 * (y % 4294967296) < 18446744073709551616 := by omega
  have bc' : x % 4294967296 * (y / 4294967296) < 18446744073709551616 := by omega
  rw [Nat.add_comm (_ % 4294967296) (x % 4294967296 * (y / 4294967296))] at bw hhi
  have bh1 : x / 4294967296 * (y / 4294967296) + (x / 4294967296 * (y % 4294967296) + x % 4294967296 * (y % 4294967296) / 4294967296) / 4294967296 < 18446744073709551616 := by omega
  have bh : x / 4294967296 * (y / 4294967296) + (x / 4294967296 * (y % 4294967296) + x % 4294967296 * (y % 4294967296) / 4294967296) / 4294967296 + (x % 4294967296 * (y / 4294967296) + (x / 4294967296 * (y % 4294967296) + x % 4294967296 * (y % 4294967296) / 4294967296) % 4294967296) / 4294967296 < 18446744073709551616 := by omega
  go_enter Tryd.func32, Tryd.ntmps32
  go_wp2
  simp only [Mul64.maskN x hx, Mul64.maskN y hy, Mul64.divN, Mul64.mulN, Mul64.addN, Mul64.wrapN _ bd, Mul64.wrapN _ bb', Mul64.wrapN _ bt, Mul64.maskN _ bt, Mul64.wrapN _ bc', Mul64.wrapN _ bw, Mul64.wrapN _ ba', Mul64.wrapN _ bh1, Mul64.wrapN _ bh, Mul64.wrapM (x * y)]
  rw [hhi]
  go_ret2
  exact ⟨rfl, rfl⟩
theorem wide_is (x y H L : Int) (hx : 0 ≤ x) (hx1 : x < 18446744073709551616) (hy : 0 ≤ y) (hy1 : y < 18446744073709551616) (hh : x * y / 18446744073709551616 = H) (hl : x * y % 18446744073709551616 = L) (w : World) :
    Calls Tryd.prog 32 #[.int .u64 x, .int .u64 y] w fun e w' => e = .returned (.tuple #[.int .u64 H, .int .u64 L]) ∧ w = w' := by
  obtain ⟨X, rfl⟩ := Int.eq_ofNat_of_zero_le hx
  obtain ⟨Y, rfl⟩ := Int.eq_ofNat_of_zero_le hy
  subst hh hl
  refine (wide_nat X Y (by omega) (by omega) w).mono ?_
  rintro e w' ⟨rfl, rfl⟩
  refine ⟨?_, rfl⟩
  have e1 : ((X * Y / 18446744073709551616 : Nat) : Int) = (X : Int) * Y / 18446744073709551616 := by rw [Int.natCast_ediv, Int.natCast_mul]; rfl
  have e2 : ((X * Y % 18446744073709551616 : Nat) : Int) = (X : Int) * Y % 18446744073709551616 := by rw [Int.natCast_emod, Int.natCast_mul]; rfl
  rw [e1, e2]

/-- The plain facts of a product that the walk wants. -/
theorem ex_prod (a b : Int) (ha : I64 a) (hb : I64 b) (H L : Int) (hH : amS (a * b) / 18446744073709551616 = H) (hL : amS (a * b) % 18446744073709551616 = L) :
    (fit (a * b) = true ∧ fitE (a * b) = 0 ∧ amS (fitV (a * b)) = L ∧ ((L != 0) = false ∨ (L != 0) = true ∧ decide (fitV (a * b) < 0) = mnS a b)) ∨ (fit (a * b) = false ∧ fitE (a * b) = 80 ∧ fitV (a * b) = 0) := by
  have hm := mn_sign a b
  by_cases h : I64 (a * b)
  · left
    refine ⟨(fit_iff _).2 h, (fitV_in h).2, ?_, ?_⟩
    · rw [(fitV_in h).1]
      obtain ⟨_, _⟩ := h
      unfold amS at hL ⊢
      split at hL <;> split <;> omega
    · rw [(fitV_in h).1]
      by_cases h0 : a * b = 0
      · left
        rw [← hL, h0]
        rfl
      · right
        refine ⟨?_, hm h0⟩
        simp only [bne_iff_ne, ne_eq]
        obtain ⟨_, _⟩ := h
        unfold amS at hL
        split at hL <;> omega
  · right
    refine ⟨?_, (fitV_out h).2, (fitV_out h).1⟩
    cases hf : fit (a * b)
    · rfl
    · exact absurd ((fit_iff _).1 hf) h

theorem ex_sum (a b : Int) (ha : I64 a) (hb : I64 b) : (I64 (a + b) ∧ wrap64 (a + b) = a + b ∧ (decide (a < 0) = decide (b < 0) → decide (a + b < 0) = decide (a < 0))) ∨ (¬ I64 (a + b) ∧ decide (a < 0) = decide (b < 0) ∧ decide (wrap64 (a + b) < 0) = !decide (a < 0)) := by
  obtain ⟨_, _⟩ := ha
  obtain ⟨_, _⟩ := hb
  by_cases h : I64 (a + b)
  · left
    refine ⟨h, wrap64_I h, ?_⟩
    by_cases c1 : a < 0 <;> by_cases c2 : b < 0 <;> simp [c1, c2] <;> omega
  · right
    refine ⟨h, ?_⟩
    unfold I64 at h
    unfold wrap64
    by_cases c1 : a < 0 <;> by_cases c2 : b < 0 <;> simp [c1, c2] <;> omega

set_option maxRecDepth 20000 in
set_option maxHeartbeats 4000000 in
theorem exact_walk (a b H L p e s f A B : Int) (F M : Bool) (ha : I64 a) (hb : I64 b) (hp : I64 p) (hA : amS a = A) (hB : amS b = B) (hA0 : 0 ≤ A) (hA1 : A < 18446744073709551616) (hB0 : 0 ≤ B) (hB1 : B < 18446744073709551616)
    (hH : A * B / 18446744073709551616 = H) (hL : A * B % 18446744073709551616 = L) (hpv : fitV (a * b) = p) (hpe : fitE (a * b) = e) (hM : (decide (a < 0) != decide (b < 0)) = M)
    (hF : Hidden (F = ((H == 0) && (decide (L < 9223372036854775808) || (M && (L == 9223372036854775808))))))
    (hP : Hidden ((F = true ∧ e = 0 ∧ amS p = L ∧ ((L != 0) = false ∨ (L != 0) = true ∧ decide (p < 0) = M)) ∨ (F = false ∧ e = 80 ∧ p = 0))) (w : World) (ht : Tab w) :
    Calls Tryd.prog 6 #[.int .i64 a, .int .i64 b] w fun e w' => e = .returned (.bool true) ∧ Kb w w' := by
  have kl := live_any w ht
  have km := mul_any a b ha hb
  rw [hpv, hpe] at km
  have kw := wide_is A B H L hA0 hA1 hB0 hB1 hH hL
  clear hH hL hpv hpe hA0 hA1 hB0 hB1
  go_enter Tryd.func6, Tryd.ntmps6
  go_upto_region 4 with (first
    | (go_at_call 23; refine kl.mono ?_; rintro e w1 ⟨rfl, g1⟩)
    | (go_at_call 33; refine (am_is _ _ (by with_reducible assumption) (by with_reducible assumption) _).mono ?_; rintro e w' ⟨rfl, rfl⟩)
    | (go_at_call 32; refine (kw _).mono ?_; rintro e w' ⟨rfl, rfl⟩))
  go_cut [7] (fun mv wx => mv = .bool M ∧ wx = w1)
  case first =>
    have hMH : Hidden ((decide (a < 0) != decide (b < 0)) = M) := hM
    clear hM
    go_wp2
    go_meet
    exact ⟨congrArg Value.bool hMH, rfl⟩
  case rest =>
  obtain ⟨rfl, rfl⟩ := hcut
  clear hM
  go_upto_region 6 with (go_at_call 13; refine (km _).mono ?_; rintro e w' ⟨rfl, rfl⟩)
  go_cut [10] (fun fv wx => fv = .bool F ∧ wx = wc)
  case first =>
    cases h1 : (H == 0)
    · obtain rfl : F = false := by rw [show F = _ from hF, h1]; rfl
      clear hF hP
      go_wp2
      go_meet
      exact ⟨rfl, rfl⟩
    · by_cases h2 : L < 9223372036854775808
      · obtain rfl : F = true := by rw [show F = _ from hF, h1]; simp [h2]
        clear hF hP
        go_wp2
        go_meet
        exact ⟨rfl, rfl⟩
      · have h2' : decide (L < 9223372036854775808) = false := decide_eq_false h2
        cases M
        · obtain rfl : F = false := by rw [show F = _ from hF, h1, h2']; rfl
          clear hF hP
          go_wp2
          go_meet
          exact ⟨rfl, rfl⟩
        · cases h3 : (L == 9223372036854775808)
          · obtain rfl : F = false := by rw [show F = _ from hF, h1, h2', h3]; rfl
            clear hF hP
            go_wp2
            go_meet
            exact ⟨rfl, rfl⟩
          · obtain rfl : F = true := by rw [show F = _ from hF, h1, h2', h3]; rfl
            clear hF hP
            go_wp2
            go_meet
            exact ⟨rfl, rfl⟩
  case rest =>
    obtain ⟨rfl, rfl⟩ := hcut
    clear hF
    go_upto_region 7 with fail
    go_cut [82] (fun fv wx => fv = .bool false ∧ wx = wc)
    case first =>
      rcases (show _ ∨ _ from hP) with ⟨rfl, rfl, h3, h4 | ⟨h4, h5⟩⟩ | ⟨rfl, rfl, rfl⟩
      · clear hP
        go_wp2_with (go_at_call 33; refine (am_is _ _ (by with_reducible assumption) (by with_reducible assumption) _).mono ?_; rintro e w' ⟨rfl, rfl⟩)
        go_meet
        exact ⟨rfl, rfl⟩
      · clear hP
        cases M
        all_goals
          go_wp2_with (go_at_call 33; refine (am_is _ _ (by with_reducible assumption) (by with_reducible assumption) _).mono ?_; rintro e w' ⟨rfl, rfl⟩)
          go_meet
          exact ⟨rfl, rfl⟩
      · clear hP
        go_wp2
        go_meet
        exact ⟨rfl, rfl⟩
    case rest =>
      obtain ⟨rfl, rfl⟩ := hcut
      clear hP km kw
      obtain ⟨Z, hZ⟩ : ∃ Z, wrap64 (a + b) = Z := ⟨_, rfl⟩
      obtain ⟨O, hO⟩ : ∃ O : Bool, O = !fit (a + b) := ⟨_, rfl⟩
      have hsum := ex_sum a b ha hb
      rw [hZ] at hsum
      have ks := add_any a b ha hb
      have hsI := fitV_I (a + b)
      obtain ⟨s, hs⟩ : ∃ s, fitV (a + b) = s := ⟨_, rfl⟩
      obtain ⟨f, hf⟩ : ∃ f, fitE (a + b) = f := ⟨_, rfl⟩
      rw [hs, hf] at ks
      rw [hs] at hsI
      have kd := sub_any s b hsI hb
      obtain ⟨d, hd⟩ : ∃ d, fitV (s - b) = d := ⟨_, rfl⟩
      obtain ⟨u, hu⟩ : ∃ u, fitE (s - b) = u := ⟨_, rfl⟩
      rw [hd, hu] at kd
      have hfin : Hidden ((O = true ∧ f = 80 ∧ s = 0) ∨ (O = false ∧ f = 0 ∧ Z = s ∧ d = a ∧ u = 0)) := by
        by_cases hI : I64 (a + b)
        · right
          have e1 : s = a + b := by rw [← hs, (fitV_in hI).1]
          have e2 : s - b = a := by omega
          refine ⟨by rw [hO, (fit_iff _).2 hI]; rfl, by rw [← hf, (fitV_in hI).2], by rw [← hZ, wrap64_I hI, e1], ?_, ?_⟩
          · rw [← hd, e2, (fitV_in ha).1]
          · rw [← hu, e2, (fitV_in ha).2]
        · left
          refine ⟨?_, by rw [← hf, (fitV_out hI).2], by rw [← hs, (fitV_out hI).1]⟩
          rw [hO]
          cases hq : fit (a + b)
          · rfl
          · exact absurd ((fit_iff _).1 hq) hI
      have hov : Hidden ((decide (a < 0) == decide (b < 0)) = false ∧ O = false ∨ (decide (a < 0) == decide (b < 0)) = true ∧ (decide (Z < 0) != decide (a < 0)) = O) := by
        have e0 : O = false ↔ I64 (a + b) := by
          rw [hO, ← fit_iff]
          cases fit (a + b) <;> simp
        rcases hsum with ⟨h1, h2, h3⟩ | ⟨h1, h2, h3⟩
        · have hOf := e0.2 h1
          cases hq : (decide (a < 0) == decide (b < 0))
          · exact Or.inl ⟨rfl, hOf⟩
          · have := h3 (by simpa using hq)
            rw [← h2] at this
            refine Or.inr ⟨rfl, ?_⟩
            rw [this, hOf]
            simp
        · have hOt : O = true := by
            cases hq : O
            · exact absurd (e0.1 hq) h1
            · rfl
          refine Or.inr ⟨by simpa using h2, ?_⟩
          rw [h3, hOt]
          simp
      clear hs hf hd hu hO hsum
      go_upto_region 10 with (go_at_call 9; refine (ks _).mono ?_; rintro e w' ⟨rfl, rfl⟩)
      go_cut [13] (fun fv wx => fv = .bool O ∧ wx = wc)
      case first =>
        rcases (show _ ∨ _ from hov) with ⟨h1, rfl⟩ | ⟨h1, h2⟩
        · clear hov hfin
          go_wp2
          go_meet
          exact ⟨rfl, rfl⟩
        · have h2H : Hidden ((decide (Z < 0) != decide (a < 0)) = O) := h2
          clear hov hfin h2
          go_wp2
          go_meet
          exact ⟨congrArg Value.bool h2H, rfl⟩
      case rest =>
        obtain ⟨rfl, rfl⟩ := hcut
        clear hov
        go_upto_region 12 with (go_at_call 11; refine (kd _).mono ?_; rintro e w' ⟨rfl, rfl⟩)
        go_cut [139] (fun fv wx => fv = .bool false ∧ wx = wc)
        case first =>
          rcases (show _ ∨ _ from hfin) with ⟨rfl, rfl, rfl⟩ | ⟨rfl, rfl, rfl, rfl, rfl⟩
          · clear hfin
            go_wp2
            go_meet
            exact ⟨rfl, rfl⟩
          · clear hfin
            go_wp2
            go_meet
            exact ⟨rfl, rfl⟩
        case rest =>
          obtain ⟨rfl, rfl⟩ := hcut
          clear hfin ks kd hZ
          by_cases hmin : a = -9223372036854775808
          · have kn := neg_any a ha
            have hni : ¬ I64 (-a) := by unfold I64; omega
            rw [(fitV_out hni).1, (fitV_out hni).2] at kn
            have hb1 : (a != -9223372036854775808) = false := by simpa using hmin
            clear hni hmin
            go_wp2_with (go_at_call 19; refine (kn _).mono ?_; rintro e w' ⟨rfl, rfl⟩)
            go_ret
            exact ⟨rfl, g1⟩
          · have kn := neg_any a ha
            have hni : I64 (-a) := by obtain ⟨_, _⟩ := ha; unfold I64; omega
            rw [(fitV_in hni).1, (fitV_in hni).2] at kn
            have hb1 : (a != -9223372036854775808) = true := by simpa using hmin
            obtain ⟨n, hn⟩ : ∃ n, -a = n := ⟨_, rfl⟩
            have hA2 : amS n = A := by rw [← hA, ← hn]; unfold amS; split <;> split <;> omega
            have hq : Hidden (decide (n < 0) = decide (0 < a)) := by show _ = _; rw [← hn]; exact decide_eq_decide.2 (by omega)
            have hnI : I64 n := by rw [← hn]; exact hni
            rw [hn] at kn
            clear hni hmin hn
            cases hz : decide (0 < a)
            all_goals
              rw [hz] at hq
              have hq2 := (show _ = _ from hq)
              clear hq
              go_wp2_with (first
                | (go_at_call 19; refine (kn _).mono ?_; rintro e w' ⟨rfl, rfl⟩)
                | (go_at_call 33; refine (am_is _ _ (by with_reducible assumption) (by with_reducible assumption) _).mono ?_; rintro e w' ⟨rfl, rfl⟩))
              go_ret
              exact ⟨rfl, g1⟩
end Go.Proofs.YtoofbbojaoiadaaDoor
