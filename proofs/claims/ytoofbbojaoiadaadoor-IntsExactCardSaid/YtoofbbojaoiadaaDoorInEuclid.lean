/- IntsEuclid walked: quotient and rest make the number again. -/
import Derived.Test.YtoofbbojaoiadaaDoorInLive
namespace Go.Proofs.YtoofbbojaoiadaaDoor
open Go.RowKit
set_option linter.unusedSimpArgs false
set_option linter.unusedVariables false

/-- A number without its sign. -/
def amS (a : Int) : Int := if a < 0 then -a else a
theorem am_wrap (a : Int) (ha : I64 a) : (a < 0 → IntKind.u64.wrap (-(a % 18446744073709551616)) = -a) ∧ (¬ a < 0 → a % 18446744073709551616 = a) := by
  obtain ⟨_, _⟩ := ha
  rw [wrap_u]
  constructor <;> intro h <;> omega
theorem am_any (a : Int) (ha : I64 a) (w : World) :
    Calls Tryd.prog 33 #[.int .i64 a] w fun e w' => e = .returned (.int .u64 (amS a)) ∧ w = w' := by
  have h := am_wrap a ha
  have hu := wrap_u a
  obtain ⟨a0, a1⟩ := ha
  unfold amS
  by_cases c : a < 0
  · rw [if_pos c]
    have h1 := h.1 c
    clear h
    generalize a % 18446744073709551616 = A at *
    go_enter Tryd.func33, Tryd.ntmps33
    go_wp2
    go_ret
    exact ⟨rfl, rfl⟩
  · rw [if_neg c]
    have h2 := h.2 c
    rw [h2] at hu
    clear h h2
    go_enter Tryd.func33, Tryd.ntmps33
    go_wp2
    go_ret
    exact ⟨rfl, rfl⟩

theorem euclid_zero (a : Int) (ha : I64 a) (w : World) (ht : Tab w) :
    Calls Tryd.prog 7 #[.int .i64 a, .int .i64 0] w fun e w' => e = .returned (.bool true) ∧ Kb w w' := by
  have k4 := div_any a 0 ha ⟨by omega, by omega⟩
  have k5 := rem_any a 0 ha ⟨by omega, by omega⟩
  rw [show divV a 0 = 0 from rfl, show divE a 0 = 81 from rfl] at k4
  rw [show remV a 0 = 0 from rfl, show remE 0 = 81 from rfl] at k5
  have kl := live_any w ht
  go_enter Tryd.func7, Tryd.ntmps7
  go_wp2_with (first
    | (go_at_call 23; refine kl.mono ?_; rintro e w' ⟨rfl, g⟩)
    | (go_at_call 15; refine (k4 _).mono ?_; rintro e w' ⟨rfl, rfl⟩)
    | (go_at_call 17; refine (k5 _).mono ?_; rintro e w' ⟨rfl, rfl⟩))
  go_ret
  exact ⟨rfl, g⟩

theorem am_is (a v : Int) (h : amS a = v) (ha : I64 a) (w : World) :
    Calls Tryd.prog 33 #[.int .i64 a] w fun e w' => e = .returned (.int .u64 v) ∧ w = w' := h ▸ am_any a ha w

theorem euclid_walk (a b q r e p A B : Int) (ha : I64 a) (hb : I64 b) (hr : I64 r) (hb0 : (b == 0) = false) (hq : divV a b = q) (he : divE a b = e) (hrr : remV a b = r) (hre : remE b = 0) (hA : amS r = A) (hB : amS b = B) (hlt : A < B)
    (hs : (r != 0) = false ∨ ((r != 0) = true ∧ a < 0 ∧ r < 0) ∨ ((r != 0) = true ∧ decide (a < 0) = false ∧ decide (r < 0) = false))
    (hc : e = 80 ∧ (a == -9223372036854775808) = true ∧ (b == -1) = true ∧ (r == 0) = true ∨ e = 0 ∧ I64 q ∧ fitV (q * b) = p ∧ fitE (q * b) = 0 ∧ I64 p ∧ fitV (p + r) = a ∧ fitE (p + r) = 0)
    (w : World) (ht : Tab w) :
    Calls Tryd.prog 7 #[.int .i64 a, .int .i64 b] w fun e w' => e = .returned (.bool true) ∧ Kb w w' := by
  have k4 := div_any a b ha hb
  have k5 := rem_any a b ha hb
  rw [hq, he] at k4
  rw [hrr, hre] at k5
  have kl := live_any w ht
  have hge : ¬ B ≤ A := by omega
  clear hq he hrr hre ha
  rcases hc with ⟨rfl, c1, c2, c3⟩ | ⟨rfl, hqI, hp, hpe, hpI, hs1, hs2⟩
  · rcases hs with hs | ⟨hs, hs1, hs2⟩ | ⟨hs, hs1, hs2⟩
    all_goals
      go_enter Tryd.func7, Tryd.ntmps7
      go_wp2_with (first
        | (go_at_call 23; refine kl.mono ?_; rintro e w' ⟨rfl, g⟩)
        | (go_at_call 15; refine (k4 _).mono ?_; rintro e w' ⟨rfl, rfl⟩)
        | (go_at_call 17; refine (k5 _).mono ?_; rintro e w' ⟨rfl, rfl⟩)
        | (go_at_call 33; refine (am_is _ _ (by with_reducible assumption) (by with_reducible assumption) _).mono ?_; rintro e w' ⟨rfl, rfl⟩))
      go_ret
      exact ⟨rfl, g⟩
  · have km := mul_any q b hqI hb
    have kd := add_any p r hpI hr
    rw [hp, hpe] at km
    rw [hs1, hs2] at kd
    clear hp hpe hs1 hs2 hqI hpI
    rcases hs with hs | ⟨hs, hs1, hs2⟩ | ⟨hs, hs1, hs2⟩
    all_goals
      go_enter Tryd.func7, Tryd.ntmps7
      go_wp2_with (first
        | (go_at_call 23; refine kl.mono ?_; rintro e w' ⟨rfl, g⟩)
        | (go_at_call 15; refine (k4 _).mono ?_; rintro e w' ⟨rfl, rfl⟩)
        | (go_at_call 17; refine (k5 _).mono ?_; rintro e w' ⟨rfl, rfl⟩)
        | (go_at_call 13; refine (km _).mono ?_; rintro e w' ⟨rfl, rfl⟩)
        | (go_at_call 9; refine (kd _).mono ?_; rintro e w' ⟨rfl, rfl⟩)
        | (go_at_call 33; refine (am_is _ _ (by with_reducible assumption) (by with_reducible assumption) _).mono ?_; rintro e w' ⟨rfl, rfl⟩))
      go_ret
      exact ⟨rfl, g⟩

theorem intsEuclid.walk (a b : Int) (w0 : (Lit.int .i64 a).wf = true) (w1 : (Lit.int .i64 b).wf = true) (w : World) (ht : Tab w) :
    Calls Tryd.prog 7 #[.int .i64 a, .int .i64 b] w fun e w' => e = .returned (.bool true) ∧ Kb w w' := by
  have ha := wf_I w0
  have hb := wf_I w1
  by_cases hb0 : b = 0
  · subst hb0
    exact euclid_zero a ha w ht
  have hlt := tmod_lt a b hb0
  have hsg := tmod_sign a b
  have hrI := tmod_I a b ha hb
  have hrv : remV a b = a.tmod b := by simp [remV, hb0]
  refine euclid_walk a b _ (a.tmod b) _ (fitV (divV a b * b)) _ _ ha hb hrI (by simpa using hb0) rfl rfl hrv (by simp [remE, hb0]) rfl rfl (by unfold amS; split <;> split <;> omega) ?_ ?_ w ht
  · by_cases hr0 : a.tmod b = 0
    · left; simpa using hr0
    · right
      have h1 : (a.tmod b != 0) = true := by simpa using hr0
      by_cases c : a < 0
      · left; have := hsg.2 (by omega); exact ⟨h1, c, by omega⟩
      · right; have := hsg.1 (by omega); exact ⟨h1, decide_eq_false c, decide_eq_false (by omega)⟩
  · by_cases hc : a = -9223372036854775808 ∧ b = -1
    · left
      refine ⟨by simp only [divE, if_neg hb0, if_pos hc], by simpa using hc.1, by simpa using hc.2, ?_⟩
      rw [hc.2, tmod_m1]
      rfl
    · right
      have hv : divV a b = a.tdiv b := by simp only [divV, if_neg hb0, if_neg hc]
      have hqI := tdiv_I a b ha hb0 hc
      have hd := Int.mul_tdiv_add_tmod a b
      rw [Int.mul_comm] at hd
      have hle : (a.tmod b).natAbs ≤ a.natAbs := by rw [Int.natAbs_tmod]; exact Nat.mod_le _ _
      have hpI : I64 (a.tdiv b * b) := by
        obtain ⟨_, _⟩ := ha
        by_cases c : a < 0
        · have := hsg.2 (by omega)
          exact ⟨by omega, by omega⟩
        · have := hsg.1 (by omega)
          exact ⟨by omega, by omega⟩
      rw [hv, (fitV_in hpI).1, (fitV_in hpI).2, hd, (fitV_in ha).1, (fitV_in ha).2]
      exact ⟨by simp only [divE, if_neg hb0, if_neg hc], hqI, rfl, rfl, hpI, rfl, rfl⟩
end Go.Proofs.YtoofbbojaoiadaaDoor
