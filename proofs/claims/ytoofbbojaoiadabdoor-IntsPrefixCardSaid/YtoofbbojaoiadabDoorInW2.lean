/- What Sub, Mul, Neg, Div, Rem and Cmp of package ints answer. -/
import Derived.Test.YtoofbbojaoiadabDoorInW
import Derived.Test.YtoofbbojaoiadabDoorInMath2
namespace Go.Proofs.YtoofbbojaoiadabDoor
open Go.RowKit
set_option linter.unusedSimpArgs false
set_option linter.unusedVariables false

theorem sub_any (a b : Int) (ha : I64 a) (hb : I64 b) (w : World) :
    Calls Tryd.prog 9 #[.int .i64 a, .int .i64 b] w fun e w' => e = .returned (.tuple #[.int .i64 (fitV (a - b)), .int .i64 (fitE (a - b))]) ∧ w = w' := by
  have hm := sub_math a b ha hb
  have ka := sw_any a ha
  have kb := sw_any b hb
  have ba := sw_bounds a
  have bb := sw_bounds b
  have hz : -85070591730234615865843651857942052864 ≤ a - b ∧ a - b ≤ 85070591730234615865843651857942052864 := by obtain ⟨_, _⟩ := ha; obtain ⟨_, _⟩ := hb; omega
  have ea := wrap_u a
  have eb := wrap_u b
  have k1 := call_sub64 (a % 18446744073709551616) (b % 18446744073709551616) 0 _ _ (by omega) (by omega) (by omega) (by omega) (by omega) (by omega) rfl rfl
  rw [Int.add_zero, Int.sub_zero, hm.2] at k1
  have hc : 0 ≤ (if a % 18446744073709551616 < b % 18446744073709551616 then (1 : Int) else 0) ∧ (if a % 18446744073709551616 < b % 18446744073709551616 then (1 : Int) else 0) ≤ 1 := by split <;> omega
  have k2 := call_sub64 (swS a) (swS b) (if a % 18446744073709551616 < b % 18446744073709551616 then 1 else 0) _ _ (by omega) (by omega) (by omega) (by omega) hc.1 hc.2 rfl rfl
  rw [hm.1] at k2
  have kn := narrow_any (a - b) _ _ hz.1 hz.2 rfl rfl
  clear hm ba bb hz ha hb hc
  generalize (a - b) / 18446744073709551616 % 18446744073709551616 = H at *
  generalize (a - b) % 18446744073709551616 = L at *
  generalize (if a % 18446744073709551616 < b % 18446744073709551616 then (1 : Int) else 0) = C at *
  generalize a % 18446744073709551616 = A at *
  generalize b % 18446744073709551616 = B at *
  generalize (if swS a < swS b + C then (1 : Int) else 0) = D at *
  generalize swS a = SA at *
  generalize swS b = SB at *
  generalize fitV (a - b) = V at *
  generalize fitE (a - b) = E at *
  go_enter Tryd.func9, Tryd.ntmps9
  go_wp2_with (first
    | (go_at_call 16; first | (refine (ka _).mono ?_; rintro e w' ⟨rfl, rfl⟩) | (refine (kb _).mono ?_; rintro e w' ⟨rfl, rfl⟩))
    | (go_at_call 17; refine (kn _).mono ?_; rintro e w' ⟨rfl, rfl⟩))
  go_ret2
  exact ⟨rfl, rfl⟩

theorem and_sw (a b : Int) (hb : 0 ≤ b) (hb1 : b < 18446744073709551616) : bits .and .u64 (swS a) b = if a < 0 then b else 0 := by
  have hs := sw_bounds a
  rw [u64_and _ _ (by omega) (by omega) (by omega) (by omega)]
  unfold swS
  split
  · rw [show (18446744073709551615 : Int).toNat = 2 ^ 64 - 1 from rfl, Nat.and_comm, Nat.and_two_pow_sub_one_eq_mod]
    omega
  · rw [show (0 : Int).toNat = 0 from rfl, Nat.zero_and]
    rfl

theorem mul64_is (x y h l : Int) (hx : 0 ≤ x) (hx1 : x < 18446744073709551616) (hy : 0 ≤ y) (hy1 : y < 18446744073709551616) (hh : x * y / 18446744073709551616 = h) (hl : x * y % 18446744073709551616 = l) (w : World) :
    Calls Tryd.prog 18 #[.int .u64 x, .int .u64 y] w fun e w' => e = .returned (.tuple #[.int .u64 h, .int .u64 l]) ∧ w = w' := by
  obtain ⟨X, rfl⟩ := Int.eq_ofNat_of_zero_le hx
  obtain ⟨Y, rfl⟩ := Int.eq_ofNat_of_zero_le hy
  subst hh hl
  refine (Tryd.bits_Mul64 X Y (by omega) (by omega) w).mono ?_
  rintro e w' ⟨rfl, rfl⟩
  refine ⟨?_, rfl⟩
  have e1 : ((X * Y / 18446744073709551616 : Nat) : Int) = (X : Int) * Y / 18446744073709551616 := by rw [Int.natCast_ediv, Int.natCast_mul]; rfl
  have e2 : ((X * Y % 18446744073709551616 : Nat) : Int) = (X : Int) * Y % 18446744073709551616 := by rw [Int.natCast_emod, Int.natCast_mul]; rfl
  rw [e1, e2]

theorem mul_any (a b : Int) (ha : I64 a) (hb : I64 b) (w : World) :
    Calls Tryd.prog 8 #[.int .i64 a, .int .i64 b] w fun e w' => e = .returned (.tuple #[.int .i64 (fitV (a * b)), .int .i64 (fitE (a * b))]) ∧ w = w' := by
  have hm := mul_math a b ha hb
  have ka := sw_any a ha
  have kb := sw_any b hb
  have hz := prod_bound a b ha hb
  have ea := wrap_u a
  have eb := wrap_u b
  have k1 := mul64_is (a % 18446744073709551616) (b % 18446744073709551616) _ _ (by omega) (by omega) (by omega) (by omega) rfl rfl
  have q1 := and_sw a (b % 18446744073709551616) (by omega) (by omega)
  have q2 := and_sw b (a % 18446744073709551616) (by omega) (by omega)
  rw [hm.2] at k1
  have hw : IntKind.u64.wrap (a % 18446744073709551616 * (b % 18446744073709551616) / 18446744073709551616 - IntKind.u64.wrap ((if a < 0 then b % 18446744073709551616 else 0) + (if b < 0 then a % 18446744073709551616 else 0))) = a * b / 18446744073709551616 % 18446744073709551616 := by
    rw [← hm.1, wrap_u, wrap_u]
    generalize (if a < 0 then b % 18446744073709551616 else 0) + (if b < 0 then a % 18446744073709551616 else 0) = t
    generalize a % 18446744073709551616 * (b % 18446744073709551616) / 18446744073709551616 = u
    omega
  have kn := narrow_any (a * b) _ _ hz.1 hz.2 rfl rfl
  clear hm hz ha hb
  generalize a * b / 18446744073709551616 % 18446744073709551616 = H at *
  generalize a * b % 18446744073709551616 = L at *
  generalize fitV (a * b) = V at *
  generalize fitE (a * b) = E at *
  generalize (if a < 0 then b % 18446744073709551616 else 0) = C at *
  generalize (if b < 0 then a % 18446744073709551616 else 0) = D at *
  generalize a % 18446744073709551616 * (b % 18446744073709551616) / 18446744073709551616 = G at *
  generalize a % 18446744073709551616 = A at *
  generalize b % 18446744073709551616 = B at *
  generalize swS a = SA at *
  generalize swS b = SB at *
  go_enter Tryd.func8, Tryd.ntmps8
  go_wp2_with (first
    | (go_at_call 16; first | (refine (ka _).mono ?_; rintro e w' ⟨rfl, rfl⟩) | (refine (kb _).mono ?_; rintro e w' ⟨rfl, rfl⟩))
    | (go_at_call 18; refine (k1 _).mono ?_; rintro e w' ⟨rfl, rfl⟩)
    | (go_at_call 17; refine (kn _).mono ?_; rintro e w' ⟨rfl, rfl⟩))
  go_ret2
  exact ⟨rfl, rfl⟩

def divV (a b : Int) : Int := if b = 0 then 0 else if a = -9223372036854775808 ∧ b = -1 then 0 else a.tdiv b
def divE (a b : Int) : Int := if b = 0 then 81 else if a = -9223372036854775808 ∧ b = -1 then 80 else 0
def remV (a b : Int) : Int := if b = 0 then 0 else a.tmod b
def remE (b : Int) : Int := if b = 0 then 81 else 0
def cmpS (a b : Int) : Int := if a < b then -1 else if b < a then 1 else 0

theorem ret2 {k l : IntKind} {a b c d : Int} (h : a = b) (g : c = d) : Ending.returned (.tuple #[.int k a, .int l c]) = .returned (.tuple #[.int k b, .int l d]) := by rw [h, g]

theorem div_any (a b : Int) (ha : I64 a) (hb : I64 b) (w : World) :
    Calls Tryd.prog 12 #[.int .i64 a, .int .i64 b] w fun e w' => e = .returned (.tuple #[.int .i64 (divV a b), .int .i64 (divE a b)]) ∧ w = w' := by
  have hI := tdiv_I a b ha
  obtain ⟨a0, a1⟩ := ha
  obtain ⟨b0, b1⟩ := hb
  unfold divV divE
  by_cases c1 : b = 0
  · subst c1
    simp only [if_true]
    clear hI
    go_enter Tryd.func12, Tryd.ntmps12
    go_wp2
    go_ret2
    exact ⟨rfl, rfl⟩
  rw [if_neg c1, if_neg c1]
  have c1' : (b == 0) = false := by simpa using c1
  by_cases c2 : a = -9223372036854775808
  · have c2' : (a == -9223372036854775808) = true := by simpa using c2
    by_cases c3 : b = -1
    · rw [if_pos ⟨c2, c3⟩, if_pos ⟨c2, c3⟩]
      have c3' : (b == -1) = true := by simpa using c3
      clear hI c2 c3
      go_enter Tryd.func12, Tryd.ntmps12
      go_wp2
      go_ret2
      exact ⟨rfl, rfl⟩
    · rw [if_neg (fun h => c3 h.2), if_neg (fun h => c3 h.2)]
      have c3' : (b == -1) = false := by simpa using c3
      have hw := wrap64_I (hI c1 (fun h => c3 h.2))
      clear hI c2 c3
      go_enter Tryd.func12, Tryd.ntmps12
      go_wp2
      go_ret2
      exact ⟨ret2 hw rfl, rfl⟩
  · rw [if_neg (fun h => c2 h.1), if_neg (fun h => c2 h.1)]
    have c2' : (a == -9223372036854775808) = false := by simpa using c2
    have hw := wrap64_I (hI c1 (fun h => c2 h.1))
    clear hI
    go_enter Tryd.func12, Tryd.ntmps12
    go_wp2
    go_ret2
    exact ⟨ret2 hw rfl, rfl⟩
theorem cmpc_any (a b : Int) (w : World) :
    Calls Tryd.prog 20 #[.int .i64 a, .int .i64 b] w fun e w' => e = .returned (.int .i64 (cmpS a b)) ∧ w = w' := by
  unfold cmpS
  by_cases h : a < b
  · rw [if_pos h]
    go_enter Tryd.func20, Tryd.ntmps20
    go_wp2
    go_ret
    exact ⟨rfl, rfl⟩
  · rw [if_neg h]
    by_cases h2 : b < a
    · rw [if_pos h2]
      go_enter Tryd.func20, Tryd.ntmps20
      go_wp2
      go_ret
      exact ⟨rfl, rfl⟩
    · rw [if_neg h2]
      go_enter Tryd.func20, Tryd.ntmps20
      go_wp2
      go_ret
      exact ⟨rfl, rfl⟩
theorem cmp_any (a b : Int) (w : World) :
    Calls Tryd.prog 10 #[.int .i64 a, .int .i64 b] w fun e w' => e = .returned (.int .i64 (cmpS a b)) ∧ w = w' := by
  have k := cmpc_any a b
  generalize cmpS a b = c at *
  go_enter Tryd.func10, Tryd.ntmps10
  go_wp2_with (go_at_call 20; refine (k _).mono ?_; rintro e w' ⟨rfl, rfl⟩)
  go_ret
  exact ⟨rfl, rfl⟩
end Go.Proofs.YtoofbbojaoiadabDoor
