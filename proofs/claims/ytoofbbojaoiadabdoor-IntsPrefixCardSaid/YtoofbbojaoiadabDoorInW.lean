/- What the reckoning functions of package ints answer, called with any numbers. -/
import Derived.Test.YtoofbbojaoiadabDoorRows
import Derived.Test.YtoofbbojaoiadabDoorInMath
import Derived.Test.YtoofbbojaoiadabDoorShelf
import Derived.WalkKit
import Derived.WalkSpells
import Derived.WalkLawsBesides
import Derived.ProofKit
import Derived.RowKit3
import Derived.Laws.Externs
import Derived.Laws.BitsAllLaws
import Derived.Shelf.Spec.BitsCarry
namespace Go.Proofs.YtoofbbojaoiadabDoor
open Go.RowKit
set_option linter.unusedSimpArgs false
set_option linter.unusedVariables false

theorem wrap_u (a : Int) : IntKind.u64.wrap a = a % 18446744073709551616 := by rw [IntKind.wrap_u64]
theorem sw_wrap (a : Int) (ha : I64 a) : IntKind.u64.wrap (a / 9223372036854775808) = swS a := by
  obtain ⟨h0, h1⟩ := ha
  rw [wrap_u]
  unfold swS
  split <;> omega
theorem sw_any (a : Int) (ha : I64 a) (w : World) :
    Calls Tryd.prog 16 #[.int .i64 a] w fun e w' => e = .returned (.int .u64 (swS a)) ∧ w = w' := by
  have hs := sw_wrap a ha
  obtain ⟨h0, h1⟩ := ha
  generalize swS a = s at *
  go_enter Tryd.func16, Tryd.ntmps16
  go_wp2
  go_ret
  exact ⟨rfl, rfl⟩

theorem wrap64_of (lo : Int) (h0 : 0 ≤ lo) (h1 : lo < 18446744073709551616) : wrap64 lo = (if lo < 9223372036854775808 then lo else lo - 18446744073709551616) := by
  unfold wrap64
  split <;> omega

theorem narrow_any (z hi lo : Int) (h1 : -85070591730234615865843651857942052864 ≤ z) (h2 : z ≤ 85070591730234615865843651857942052864) (hh : hi = z / 18446744073709551616 % 18446744073709551616) (hl : lo = z % 18446744073709551616) (w : World) :
    Calls Tryd.prog 17 #[.int .u64 hi, .int .u64 lo] w fun e w' => e = .returned (.tuple #[.int .i64 (fitV z), .int .i64 (fitE z)]) ∧ w = w' := by
  obtain ⟨v, hv⟩ : ∃ v, v = (if lo < 9223372036854775808 then lo else lo - 18446744073709551616) := ⟨_, rfl⟩
  have hm := narrow_math z hi lo v h1 h2 hh hl hv
  have hvI : I64 v := by unfold I64; split at hv <;> omega
  have hlo : 0 ≤ lo ∧ lo < 18446744073709551616 := by omega
  have ks := sw_any v hvI
  have hw := wrap64_of lo hlo.1 hlo.2
  rw [← hv] at hw
  clear hh hl hv hlo hvI h1 h2
  by_cases hf : I64 z
  · rw [(fitV_in hf).1, (fitV_in hf).2]
    obtain rfl : v = z := hm.2 hf
    have he := hm.1.2 hf
    clear hm
    rw [← he] at ks
    clear he
    go_enter Tryd.func17, Tryd.ntmps17
    go_wp2_with (go_at_call 16; refine (ks _).mono ?_; rintro e w' ⟨rfl, rfl⟩)
    go_ret2
    exact ⟨rfl, rfl⟩
  · rw [(fitV_out hf).1, (fitV_out hf).2]
    have hne : (hi != swS v) = true := by
      simp only [bne_iff_ne, ne_eq]
      exact fun h => hf (hm.1.1 h)
    clear hm
    generalize swS v = s at *
    go_enter Tryd.func17, Tryd.ntmps17
    go_wp2_with (go_at_call 16; refine (ks _).mono ?_; rintro e w' ⟨rfl, rfl⟩)
    go_ret2
    exact ⟨rfl, rfl⟩

theorem call_add64 (x y c s d : Int) (hx : 0 ≤ x) (hy : 0 ≤ y) (hc0 : 0 ≤ c) (hc : c ≤ 1) (hs : (x + y + c) % 18446744073709551616 = s) (hd : (x + y + c) / 18446744073709551616 = d) (w : World) :
    (callFunc 15 #[.int .u64 x, .int .u64 y, .int .u64 c]).run Tryd.prog w = .ok (.value (.tuple #[.int .u64 s, .int .u64 d])) w := by
  subst hs hd
  rw [run_callFunc_extern (e := add64Entry) Tryd.func15 (by kernel_rfl) (by kernel_rfl) (by kernel_rfl) (by kernel_rfl), run_add64 x y c hx hy hc0 hc]
  rfl
theorem call_sub64 (x y b s d : Int) (hx : 0 ≤ x) (hx1 : x < 18446744073709551616) (hy : 0 ≤ y) (hy1 : y < 18446744073709551616) (hb0 : 0 ≤ b) (hb : b ≤ 1) (hs : (x + 18446744073709551616 - y - b) % 18446744073709551616 = s) (hd : (if x < y + b then 1 else 0) = d) (w : World) :
    (callFunc 19 #[.int .u64 x, .int .u64 y, .int .u64 b]).run Tryd.prog w = .ok (.value (.tuple #[.int .u64 s, .int .u64 d])) w := by
  subst hs hd
  obtain ⟨X, rfl⟩ := Int.eq_ofNat_of_zero_le hx
  obtain ⟨Y, rfl⟩ := Int.eq_ofNat_of_zero_le hy
  obtain ⟨B, rfl⟩ := Int.eq_ofNat_of_zero_le hb0
  rw [run_callFunc_extern (e := sub64Entry) Tryd.func19 (by kernel_rfl) (by kernel_rfl) (by kernel_rfl) (by kernel_rfl), run_sub64 X Y B (by omega)]
  have e1 : (((X + 18446744073709551616 - Y - B) % 18446744073709551616 : Nat) : Int) = ((X : Int) + 18446744073709551616 - Y - B) % 18446744073709551616 := by omega
  have e2 : ((if X < Y + B then 1 else 0 : Nat) : Int) = (if (X : Int) < Y + B then 1 else 0) := by split <;> split <;> omega
  simp only [e1, e2, Result.andThen]

theorem sw_bounds (a : Int) : 0 ≤ swS a ∧ swS a < 18446744073709551616 := by unfold swS; split <;> omega

theorem add_any (a b : Int) (ha : I64 a) (hb : I64 b) (w : World) :
    Calls Tryd.prog 7 #[.int .i64 a, .int .i64 b] w fun e w' => e = .returned (.tuple #[.int .i64 (fitV (a + b)), .int .i64 (fitE (a + b))]) ∧ w = w' := by
  have hm := add_math a b ha hb
  have ka := sw_any a ha
  have kb := sw_any b hb
  have ba := sw_bounds a
  have bb := sw_bounds b
  have hz : -85070591730234615865843651857942052864 ≤ a + b ∧ a + b ≤ 85070591730234615865843651857942052864 := by obtain ⟨_, _⟩ := ha; obtain ⟨_, _⟩ := hb; omega
  have ea := wrap_u a
  have eb := wrap_u b
  have k1 := call_add64 (a % 18446744073709551616) (b % 18446744073709551616) 0 _ _ (by omega) (by omega) (by omega) (by omega) rfl rfl
  have k2 := call_add64 (swS a) (swS b) ((a % 18446744073709551616 + b % 18446744073709551616 + 0) / 18446744073709551616) _ _ (by omega) (by omega) (by omega) (by omega) rfl rfl
  rw [Int.add_zero] at k1 k2
  rw [hm.1] at k2
  rw [hm.2] at k1
  have kn := narrow_any (a + b) _ _ hz.1 hz.2 rfl rfl
  clear hm ba bb hz ha hb
  generalize (a + b) / 18446744073709551616 % 18446744073709551616 = H at *
  generalize (a + b) % 18446744073709551616 = L at *
  generalize (a % 18446744073709551616 + b % 18446744073709551616) / 18446744073709551616 = C at *
  generalize a % 18446744073709551616 = A at *
  generalize b % 18446744073709551616 = B at *
  generalize (swS a + swS b + C) / 18446744073709551616 = D at *
  generalize swS a = SA at *
  generalize swS b = SB at *
  generalize fitV (a + b) = V at *
  generalize fitE (a + b) = E at *
  go_enter Tryd.func7, Tryd.ntmps7
  go_wp2_with (first
    | (go_at_call 16; first | (refine (ka _).mono ?_; rintro e w' ⟨rfl, rfl⟩) | (refine (kb _).mono ?_; rintro e w' ⟨rfl, rfl⟩))
    | (go_at_call 17; refine (kn _).mono ?_; rintro e w' ⟨rfl, rfl⟩))
  go_ret2
  exact ⟨rfl, rfl⟩
end Go.Proofs.YtoofbbojaoiadabDoor
