/- FloatsMeasure walked: a float's parts make it. -/
import Derived.Test.YtfegnjpajflnkabDoorMeas
namespace Go.Proofs.YtfegnjpajflnkabDoor
open Go.RowKit Fl
set_option linter.unusedSimpArgs false
set_option linter.unusedVariables false

theorem floatOfInt_two : floatOfInt .f64 2 = 4611686018427387904 := by decide
theorem neg_num (a : Int) (ha : U a) (h : 9223372036854775808 ≤ a) (hn : nan a = false) : negS a = a % 9223372036854775808 := by
  obtain ⟨_, _⟩ := ha
  simp only [negS, hn, Bool.false_eq_true, if_false, if_pos h]
  omega

/-- m times 2 to the power t, in units of the least place. -/
def sc (m : Nat) (t : Int) : Nat := m * 2 ^ (t + 1074).toNat
theorem sc_of (m : Nat) (t : Int) (hm : m < 9007199254740992) (ht : t ≤ 971) : ∃ r, r < 9218868437227405312 ∧ val r = sc m t := val_of m _ hm (by omega)
theorem sc_succ (m : Nat) (t : Int) (h : -1074 ≤ t) : sc m (t + 1) = 2 * sc m t := by
  unfold sc
  rw [show (t + 1 + 1074).toNat = (t + 1074).toNat + 1 by omega, Nat.pow_succ]
  ac_rfl

/-- The double of rung r is m times 2 to the power t. -/
def Inv (m : Nat) (t : Int) (r : Nat) : Prop := r < 9218868437227405312 ∧ val r = sc m t ∧ m < 9007199254740992
theorem Inv.num {m r : Nat} {t : Int} (h : Inv m t r) : nan (r : Int) = false := nan_rung r h.1
theorem Inv.up {m r : Nat} {t : Int} (h : Inv m t r) (ht : -1074 ≤ t) (ht2 : t < 971) : ∃ q : Nat, Inv m (t + 1) q ∧ floatBits .mul .f64 r 4611686018427387904 = some q := by
  obtain ⟨q, hq, hvq⟩ := sc_of m (t + 1) h.2.2 (by omega)
  exact ⟨q, ⟨hq, hvq, h.2.2⟩, dbl r q h.1 hq (by rw [hvq, h.2.1, sc_succ _ _ ht])⟩
theorem Inv.down {m r : Nat} {t : Int} (h : Inv m t r) (ht : -1074 < t) (ht2 : t ≤ 971) : ∃ q : Nat, Inv m (t - 1) q ∧ floatBits .quo .f64 r 4611686018427387904 = some q := by
  obtain ⟨q, hq, hvq⟩ := sc_of m (t - 1) h.2.2 (by omega)
  exact ⟨q, ⟨hq, hvq, h.2.2⟩, half r q h.1 hq (by rw [hvq, h.2.1, ← sc_succ _ _ (by omega), show t - 1 + 1 = t by omega])⟩
theorem Inv.same {m r q : Nat} {t : Int} (h : Inv m t r) (g : Inv m t q) : r = q := val_inj.1 (h.2.1.trans g.2.1.symm)

set_option maxRecDepth 20000 in
/-- What the two loops come to: at a double whose rung is R, of parts m and e. -/
theorem measure_neg (a m e c : Int) (R r0 : Nat) (ha : U a) (hm0 : 0 ≤ m) (hm : m < 9007199254740992) (hp : partN a = true) (hpm : partM a = m) (hpe : partE a = e) (hc : classS a = c) (hc3 : ¬ c < 3)
    (hA : negS a = (R : Int)) (he1 : -1074 ≤ e) (he2 : e ≤ 971) (hv : Inv m.toNat e R) (hv0 : Inv m.toNat 0 r0) (hfi : floatOfInt .f64 m = r0) (w : World) :
    Calls Tryd.prog 5 #[.int .u64 a] w fun e w' => e = .returned (.bool true) ∧ Grown w w' := by
  have kp := parts_any a ha
  rw [hp, hpm, hpe] at kp
  have kc := class_is a c hc ha
  have kn := neg_any a ha
  have kf := fromInt_any m
  rw [hfi] at kf
  have kf2 := fromInt_any 2
  rw [floatOfInt_two] at kf2
  rw [hA] at kn; clear hA
  clear ha hp hpm hpe hc hfi
  go_enter Tryd.func5, Tryd.ntmps5
  go_wp2_with (first
      | (go_at_call 19; refine (kp _).mono ?_; rintro e w' ⟨rfl, rfl⟩)
      | (go_at_call 11; refine (kc _).mono ?_; rintro e w' ⟨rfl, rfl⟩)
      | (go_at_call 9; refine (kn _).mono ?_; rintro e w' ⟨rfl, rfl⟩)
      | (go_at_call 20; first | (refine (kf _).mono ?_; rintro e w' ⟨rfl, rfl⟩) | (refine (kf2 _).mono ?_; rintro e w' ⟨rfl, rfl⟩))
      | (go_at_call 10; refine (alive_any _).mono ?_; rintro e w' ⟨rfl, hg⟩))
  clear kp kc kn kf kf2
  go_loop [5, 6, 8] (fun v x i => ∃ k r : Nat, i = .int .i64 k ∧ v = .int .i64 (e - k) ∧ x = .int .u64 (r : Int) ∧ ((e ≤ 0 ∧ k = 0) ∨ (0 < e ∧ (k : Int) ≤ e)) ∧ Inv m.toNat k r)
      (fun v _ _ => (intOf v).toNat)
  case atStart => exact ⟨0, r0, rfl, by simp, rfl, by omega, hv0⟩
  case round =>
    obtain ⟨k, r, rfl, rfl, rfl, h1, h2⟩ := hrel
    have hk : (k : Int) < 1200 := by omega
    by_cases hpos : 0 < e - k
    · obtain ⟨q, hq, hmul⟩ := h2.up (by omega) (by omega)
      have km := mul_exact r 4611686018427387904 q hmul hq.num
      clear hmul
      go_wp2_with (go_at_call 7; refine (km _).mono ?_; rintro e w' ⟨rfl, rfl⟩)
      go_round
      case rel => exact ⟨k + 1, q, by go_num, by go_num, rfl, by omega, hq⟩
      case measure => simp [intOf]; omega
    · go_wp2
      go_loop [5, 6, 9] (fun v x i => ∃ j q : Nat, i = .int .i64 j ∧ v = .int .i64 (e - k + j) ∧ x = .int .u64 (q : Int) ∧ (j : Int) ≤ k - e ∧ Inv m.toNat ((k : Int) - j) q)
          (fun v _ _ => (- intOf v).toNat)
      case atStart => exact ⟨0, r, rfl, by simp, rfl, by omega, by simpa using h2⟩
      case round =>
        obtain ⟨j, q, rfl, rfl, rfl, g1, g2⟩ := hrel
        have hj : (j : Int) < 1200 := by omega
        by_cases hneg : e - k + j < 0
        · obtain ⟨z, hz, hdiv⟩ := g2.down (by omega) (by omega)
          have kd := div_exact q 4611686018427387904 z hdiv hz.num
          clear hdiv
          go_wp2_with (go_at_call 14; refine (kd _).mono ?_; rintro e w' ⟨rfl, rfl⟩)
          go_round
          case rel => exact ⟨j + 1, z, by go_num, by go_num, rfl, by omega, by rwa [show (k : Int) - j - 1 = k - ((j + 1 : Nat) : Int) by omega] at hz⟩
          case measure => simp [intOf]; omega
        · have hend : e - k + j = 0 := by omega
          have hqR : q = R := by
            have e9 : (k : Int) - j = e := by omega
            rw [e9] at g2
            exact g2.same hv
          subst hqR
          rw [hend]
          go_wp2
          go_ret
          exact ⟨rfl, hg⟩

set_option maxRecDepth 20000 in
/-- What the two loops come to: at a double whose rung is R, of parts m and e. -/
theorem measure_pos (a m e c : Int) (R r0 : Nat) (ha : U a) (hm0 : 0 ≤ m) (hm : m < 9007199254740992) (hp : partN a = false) (hpm : partM a = m) (hpe : partE a = e) (hc : classS a = c) (hc3 : ¬ c < 3)
    (hA : a = (R : Int)) (he1 : -1074 ≤ e) (he2 : e ≤ 971) (hv : Inv m.toNat e R) (hv0 : Inv m.toNat 0 r0) (hfi : floatOfInt .f64 m = r0) (w : World) :
    Calls Tryd.prog 5 #[.int .u64 a] w fun e w' => e = .returned (.bool true) ∧ Grown w w' := by
  have kp := parts_any a ha
  rw [hp, hpm, hpe] at kp
  have kc := class_is a c hc ha
  have kn := neg_any a ha
  have kf := fromInt_any m
  rw [hfi] at kf
  have kf2 := fromInt_any 2
  rw [floatOfInt_two] at kf2
  subst hA; clear kn
  clear ha hp hpm hpe hc hfi
  go_enter Tryd.func5, Tryd.ntmps5
  go_wp2_with (first
      | (go_at_call 19; refine (kp _).mono ?_; rintro e w' ⟨rfl, rfl⟩)
      | (go_at_call 11; refine (kc _).mono ?_; rintro e w' ⟨rfl, rfl⟩)
      | (go_at_call 20; first | (refine (kf _).mono ?_; rintro e w' ⟨rfl, rfl⟩) | (refine (kf2 _).mono ?_; rintro e w' ⟨rfl, rfl⟩))
      | (go_at_call 10; refine (alive_any _).mono ?_; rintro e w' ⟨rfl, hg⟩))
  clear kp kc kf kf2
  go_loop [5, 6, 8] (fun v x i => ∃ k r : Nat, i = .int .i64 k ∧ v = .int .i64 (e - k) ∧ x = .int .u64 (r : Int) ∧ ((e ≤ 0 ∧ k = 0) ∨ (0 < e ∧ (k : Int) ≤ e)) ∧ Inv m.toNat k r)
      (fun v _ _ => (intOf v).toNat)
  case atStart => exact ⟨0, r0, rfl, by simp, rfl, by omega, hv0⟩
  case round =>
    obtain ⟨k, r, rfl, rfl, rfl, h1, h2⟩ := hrel
    have hk : (k : Int) < 1200 := by omega
    by_cases hpos : 0 < e - k
    · obtain ⟨q, hq, hmul⟩ := h2.up (by omega) (by omega)
      have km := mul_exact r 4611686018427387904 q hmul hq.num
      clear hmul
      go_wp2_with (go_at_call 7; refine (km _).mono ?_; rintro e w' ⟨rfl, rfl⟩)
      go_round
      case rel => exact ⟨k + 1, q, by go_num, by go_num, rfl, by omega, hq⟩
      case measure => simp [intOf]; omega
    · go_wp2
      go_loop [5, 6, 9] (fun v x i => ∃ j q : Nat, i = .int .i64 j ∧ v = .int .i64 (e - k + j) ∧ x = .int .u64 (q : Int) ∧ (j : Int) ≤ k - e ∧ Inv m.toNat ((k : Int) - j) q)
          (fun v _ _ => (- intOf v).toNat)
      case atStart => exact ⟨0, r, rfl, by simp, rfl, by omega, by simpa using h2⟩
      case round =>
        obtain ⟨j, q, rfl, rfl, rfl, g1, g2⟩ := hrel
        have hj : (j : Int) < 1200 := by omega
        by_cases hneg : e - k + j < 0
        · obtain ⟨z, hz, hdiv⟩ := g2.down (by omega) (by omega)
          have kd := div_exact q 4611686018427387904 z hdiv hz.num
          clear hdiv
          go_wp2_with (go_at_call 14; refine (kd _).mono ?_; rintro e w' ⟨rfl, rfl⟩)
          go_round
          case rel => exact ⟨j + 1, z, by go_num, by go_num, rfl, by omega, by rwa [show (k : Int) - j - 1 = k - ((j + 1 : Nat) : Int) by omega] at hz⟩
          case measure => simp [intOf]; omega
        · have hend : e - k + j = 0 := by omega
          have hqR : q = R := by
            have e9 : (k : Int) - j = e := by omega
            rw [e9] at g2
            exact g2.same hv
          subst hqR
          rw [hend]
          go_wp2
          go_ret
          exact ⟨rfl, hg⟩

theorem parts_inv (a : Int) (ha : U a) (h : ¬ classS a < 3) : 0 ≤ partM a ∧ partM a < 9007199254740992 ∧ -1074 ≤ partE a ∧ partE a ≤ 971 ∧ partN a = decide (9223372036854775808 ≤ a) ∧ Inv (partM a).toNat (partE a) (a % 9223372036854775808).toNat := by
  obtain ⟨f1, n1⟩ := fin_of_class a ha h
  obtain ⟨h0, h1⟩ := ha
  have hn : partN a = decide (9223372036854775808 ≤ a) := by
    unfold partN
    rw [if_neg (by omega)]
  generalize hR : (a % 9223372036854775808).toNat = R
  have hR' : (R : Int) = a % 9223372036854775808 := by omega
  have hRf : R < 9218868437227405312 := by omega
  have hm : partM a = (mag R : Nat) := by
    unfold partM mag
    rw [if_neg h]
    unfold classS at h ⊢
    by_cases c : R < 4503599627370496
    · rw [if_pos c, if_pos]
      · omega
      · repeat' split
        all_goals omega
    · rw [if_neg c, if_neg]
      · omega
      · repeat' split
        all_goals omega
  have he : partE a = (ex R : Nat) - 1074 := by
    unfold partE ex
    rw [if_neg h]
    unfold classS at h ⊢
    by_cases c : R < 4503599627370496
    · rw [if_pos c, if_pos]
      · omega
      · repeat' split
        all_goals omega
    · rw [if_neg c, if_neg]
      · omega
      · repeat' split
        all_goals omega
  have hl := mag_lt R
  have hx : ex R ≤ 2045 := by unfold ex; split <;> omega
  refine ⟨by omega, by omega, by omega, by omega, hn, hRf, ?_, by omega⟩
  unfold sc val
  rw [hm, he, Int.toNat_natCast, show ((ex R : Nat) - 1074 + 1074 : Int).toNat = ex R by omega]

theorem fromInt_inv (m : Int) (h0 : 0 ≤ m) (h : m < 9007199254740992) : ∃ r0 : Nat, Inv m.toNat 0 r0 ∧ floatOfInt .f64 m = r0 := by
  obtain ⟨r0, hr, hv⟩ := sc_of m.toNat 0 (by omega) (by omega)
  refine ⟨r0, ⟨hr, hv, by omega⟩, ?_⟩
  rw [floatOfInt_eq, word_f, decide_eq_false (by omega)]
  have e : m.natAbs = m.toNat := by omega
  rw [e, rung_exact m.toNat 0 r0 ((0 : Int) + 1074).toNat 0 hr (by omega) (by rw [hv, Nat.pow_zero, Nat.mul_one, sc])]
  rfl

theorem measure_small (a m e c : Int) (s : Bool) (ha : U a) (hp : partN a = s) (hm : m = 0) (he : e = 0) (hpm : partM a = m) (hpe : partE a = e) (hc : classS a = c) (hc3 : c < 3) (w : World) :
    Calls Tryd.prog 5 #[.int .u64 a] w fun e w' => e = .returned (.bool true) ∧ Grown w w' := by
  have kp := parts_any a ha
  rw [hp, hpm, hpe, hm, he] at kp
  have kc := class_is a c hc ha
  go_enter Tryd.func5, Tryd.ntmps5
  go_wp2_with (first
      | (go_at_call 19; refine (kp _).mono ?_; rintro e w' ⟨rfl, rfl⟩)
      | (go_at_call 11; refine (kc _).mono ?_; rintro e w' ⟨rfl, rfl⟩)
      | (go_at_call 10; refine (alive_any _).mono ?_; rintro e w' ⟨rfl, hg⟩))
  go_ret
  exact ⟨rfl, hg⟩

theorem floatsMeasure.walk (a : Int) (w0 : (Lit.int .u64 a).wf = true) (w : World) :
    Calls Tryd.prog 5 #[.int .u64 a] w fun e w' => e = .returned (.bool true) ∧ Grown w w' := by
  have ha := wf_U w0
  by_cases c : classS a < 3
  · exact measure_small a _ _ _ _ ha rfl rfl rfl (by simp [partM, c]) (by simp [partE, c]) rfl c w
  · obtain ⟨p1, p2, p3, p4, p5, p6⟩ := parts_inv a ha c
    obtain ⟨r0, q1, q2⟩ := fromInt_inv _ p1 p2
    obtain ⟨f1, n1⟩ := fin_of_class a ha c
    have hu := ha
    obtain ⟨h0, h1⟩ := hu
    by_cases s : 9223372036854775808 ≤ a
    · exact measure_neg a _ _ _ _ r0 ha p1 p2 (by rw [p5]; exact decide_eq_true s) rfl rfl rfl c (by rw [neg_num a ha s n1]; omega) p3 p4 p6 q1 q2 w
    · exact measure_pos a _ _ _ _ r0 ha p1 p2 (by rw [p5]; exact decide_eq_false s) rfl rfl rfl c (by omega) p3 p4 p6 q1 q2 w
end Go.Proofs.YtfegnjpajflnkabDoor
