/- The document's answer of layer 1: Parts, Neg, Next, ToInt, decimal numerals and texts. -/
import Derived.Test.YtfegnjpajflnkaaDoorRef
import Derived.Test.YtfegnjpajflnkaaDoorInts
import Derived.Lib.ItoaNum
import Derived.Deep.RegionWith
import Derived.Deep.RegionHeld3
namespace Go.Proofs.YtfegnjpajflnkaaDoor
open Go.RowKit Fl
set_option linter.unusedSimpArgs false
set_option linter.unusedVariables false

theorem sign_bit (a : Int) (ha : U a) : (a / 9223372036854775808 == 1) = decide (9223372036854775808 ≤ a) := by
  obtain ⟨_, _⟩ := ha
  by_cases c : 9223372036854775808 ≤ a
  · rw [decide_eq_true c, beq_iff_eq]; omega
  · rw [decide_eq_false c, beq_eq_false_iff_ne]; omega

theorem rneg_any (a : Int) (ha : U a) (w : World) :
    Calls Tryd.prog 18 #[.int .u64 a] w fun e w' => e = .returned (.int .u64 (negS a)) ∧ w = w' := by
  rw [← negS_eq a ha]
  have hx := xor_sign a ha
  have hu := U_neg a ha
  generalize (if 9223372036854775808 ≤ a then a - 9223372036854775808 else a + 9223372036854775808) = b at *
  go_enter Tryd.func18, Tryd.ntmps18
  go_wp2_with (go_at_call 14; refine (rcanon_any b hu _).mono ?_; rintro e w' ⟨rfl, rfl⟩)
  go_ret
  exact ⟨rfl, rfl⟩

theorem rnext_any (a : Int) (ha : U a) (w : World) :
    Calls Tryd.prog 20 #[.int .u64 a] w fun e w' => e = .returned (.int .u64 (nextS a)) ∧ w = w' := by
  have hc := rclass_any a ha
  have hs := sign_bit a ha
  have n1 := class_nan a
  obtain ⟨h0, h1⟩ := ha
  by_cases c1 : classS a = 1
  · rw [c1] at hc
    rw [show nextS a = 9221120237041090561 by simp [nextS, n1.1 c1]]
    go_enter Tryd.func20, Tryd.ntmps20
    go_wp2_with (go_at_call 16; refine (hc _).mono ?_; rintro e w' ⟨rfl, rfl⟩)
    go_ret
    exact ⟨rfl, rfl⟩
  · have na : nan a = false := by cases e : nan a <;> simp_all
    have q1 : (classS a == 1) = false := by simpa using c1
    have hn : nextS a = if a = 9223372036854775808 then 0 else if 9223372036854775808 < a then a - 1 else if a = 9218868437227405312 then 9221120237041090561 else a + 1 := by simp [nextS, na]
    rw [hn]
    clear hn n1 c1 na
    generalize classS a = C at *
    by_cases c2 : a = 9218868437227405312
    · subst c2
      go_enter Tryd.func20, Tryd.ntmps20
      go_wp2_with (go_at_call 16; refine (hc _).mono ?_; rintro e w' ⟨rfl, rfl⟩)
      go_ret
      exact ⟨rfl, rfl⟩
    · have q2 : (a == 9218868437227405312) = false := by simpa using c2
      by_cases c3 : a = 9223372036854775808
      · subst c3
        go_enter Tryd.func20, Tryd.ntmps20
        go_wp2_with (go_at_call 16; refine (hc _).mono ?_; rintro e w' ⟨rfl, rfl⟩)
        go_ret
        exact ⟨rfl, rfl⟩
      · have q3 : (a == 9223372036854775808) = false := by simpa using c3
        rw [if_neg c3]
        by_cases c4 : 9223372036854775808 < a
        · rw [if_pos c4]
          rw [decide_eq_true (by omega)] at hs
          go_enter Tryd.func20, Tryd.ntmps20
          go_wp2_with (go_at_call 16; refine (hc _).mono ?_; rintro e w' ⟨rfl, rfl⟩)
          go_ret
          exact ⟨rfl, rfl⟩
        · rw [if_neg c4, if_neg c2]
          rw [decide_eq_false (by omega)] at hs
          go_enter Tryd.func20, Tryd.ntmps20
          go_wp2_with (go_at_call 16; refine (hc _).mono ?_; rintro e w' ⟨rfl, rfl⟩)
          go_ret
          exact ⟨rfl, rfl⟩

theorem rparts_any (a : Int) (ha : U a) (w : World) :
    Calls Tryd.prog 10 #[.int .u64 a] w fun e w' => e = .returned (.tuple #[.bool (partN a), .int .u64 (partM a), .int .i64 (partE a)]) ∧ w = w' := by
  have hc := rclass_any a ha
  have hs := sign_bit a ha
  have k1 := and_frac a ha
  have k2 := or_hidden a ha
  have k3 := and_exp (a / 4503599627370496) ⟨by obtain ⟨_, _⟩ := ha; omega, by obtain ⟨_, _⟩ := ha; omega⟩
  obtain ⟨h0, h1⟩ := ha
  rcases class_cases a with e | e | e | e | e
  · rw [show partN a = false by simp [partN, e], show partM a = 0 by simp [partM, e], show partE a = 0 by simp [partE, e]]
    rw [e] at hc
    go_enter Tryd.func10, Tryd.ntmps10
    go_wp2_with (go_at_call 16; refine (hc _).mono ?_; rintro e w' ⟨rfl, rfl⟩)
    go_ret3
    exact ⟨rfl, rfl⟩
  · rw [show partN a = decide (9223372036854775808 ≤ a) by simp [partN, e], show partM a = 0 by simp [partM, e], show partE a = 0 by simp [partE, e]]
    rw [e] at hc
    go_enter Tryd.func10, Tryd.ntmps10
    go_wp2_with (go_at_call 16; refine (hc _).mono ?_; rintro e w' ⟨rfl, rfl⟩)
    go_ret3
    exact ⟨rfl, rfl⟩
  · rw [show partN a = decide (9223372036854775808 ≤ a) by simp [partN, e], show partM a = a % 4503599627370496 by simp [partM, e], show partE a = -1074 by simp [partE, e]]
    rw [e] at hc
    go_enter Tryd.func10, Tryd.ntmps10
    go_wp2_with (go_at_call 16; refine (hc _).mono ?_; rintro e w' ⟨rfl, rfl⟩)
    go_ret3
    exact ⟨rfl, rfl⟩
  · rw [show partN a = decide (9223372036854775808 ≤ a) by simp [partN, e], show partM a = a % 4503599627370496 by simp [partM, e], show partE a = -1074 by simp [partE, e]]
    rw [e] at hc
    go_enter Tryd.func10, Tryd.ntmps10
    go_wp2_with (go_at_call 16; refine (hc _).mono ?_; rintro e w' ⟨rfl, rfl⟩)
    go_ret3
    exact ⟨rfl, rfl⟩
  · rw [show partN a = decide (9223372036854775808 ≤ a) by simp [partN, e], show partM a = a % 4503599627370496 + 4503599627370496 by simp [partM, e], show partE a = a / 4503599627370496 % 2048 - 1075 by simp [partE, e]]
    rw [e] at hc
    go_enter Tryd.func10, Tryd.ntmps10
    go_wp2_with (go_at_call 16; refine (hc _).mono ?_; rintro e w' ⟨rfl, rfl⟩)
    go_ret3
    exact ⟨rfl, rfl⟩

theorem conv_one (W : World) (a : Addr) (c : Int) (h0 : 0 ≤ c) (h1 : c < 256) (hc : W.cell? a = some (.int .u8 c)) :
    (convert 59 9 (.slice (some a) 1 1)).run Tryd.prog W = .ok (.string ⟨#[UInt8.ofNat c.toNat]⟩) W := by
  refine conv_back W a 1 1 [UInt8.ofNat c.toNat] rfl ?_
  intro j hj
  obtain rfl : j = 0 := by simp at hj; omega
  have e : ((UInt8.ofNat c.toNat).toNat : Int) = c := by
    rw [UInt8.toNat_ofNat']
    omega
  simp only [List.getElem_cons_zero, e]
  simpa [Addr.add] using hc

theorem grown_cell {w w' : World} (h : Grown w w') {a : Addr} (ha : a.block < w.heap.size) {v : Value} (hc : w.cell? a = some v) : w'.cell? a = some v := by
  obtain ⟨⟨_, _, hk⟩, _, _⟩ := h
  have := hk a.block ha
  unfold World.cell? at hc ⊢
  cases e1 : w.heap[a.block]? with
  | none => rw [e1] at hc; simp at hc
  | some o =>
    rw [e1] at this hc
    cases e2 : w'.heap[a.block]? with
    | none =>
      rw [e2] at this
      cases o <;> simp at this
    | some o' =>
      rw [e2] at this
      cases o with
      | cells c t fr =>
        cases o' with
        | cells c' t' fr' =>
          simp only at this hc ⊢
          rw [this.2.2.2 a.off (fun h => h)]
          exact hc
        | _ => simp at this
      | map es clock => simp at hc
      | _ =>
        simp only at this
        rw [this]
        exact hc

theorem conv_kept {W w' : World} (hg : Grown W w') (b : Nat) (c : Int) (h0 : 0 ≤ c) (h1 : c < 256) (hb : b < W.heap.size) (hc : W.cell? ⟨b, 0, none⟩ = some (.int .u8 c)) :
    (convert 59 9 (.slice (some ⟨b, 0, none⟩) 1 1)).run Tryd.prog w' = .ok (.string ⟨#[UInt8.ofNat c.toNat]⟩) w' :=
  conv_one w' ⟨b, 0, none⟩ c h0 h1 (grown_cell hg hb hc)

theorem grown_undrew {w w' : World} (h : Grown w.drew w') : Grown w w' := h

theorem decDigits_len (n : Nat) : (Lib.decDigits n).length ≤ n + 1 := by
  induction n using Nat.strongRecOn with
  | _ n ih =>
    rw [Lib.decDigits]
    by_cases c : n < 10
    · rw [dif_pos c]; simp
    · rw [dif_neg c]
      have := ih (n / 10) (by omega)
      simp
      omega

set_option maxRecDepth 20000 in
set_option maxHeartbeats 1000000 in
theorem decimal_any (n : Nat) : n ≤ 1000000 → ∀ w : World,
    Calls Tryd.prog 51 #[.int .i64 n] w fun e w' => e = .returned (.string ⟨(Lib.decDigits n).toArray⟩) ∧ Grown w w' := by
  induction n using Nat.strongRecOn with
  | _ n ih =>
    intro hn w
    by_cases c : n < 10
    · have c' : (n : Int) < 10 := by omega
      have hcv := conv_one (w.alloc (.cells #[.int .u8 (48 + (n : Int))] 5)) ⟨w.heap.size, 0, none⟩ (48 + (n : Int)) (by omega) (by omega) (by simp)
      go_enter Tryd.func51, Tryd.ntmps51
      go_wp2
      go_ret
      refine ⟨?_, by repeat (first | exact Grown.refl _ | apply Grown.drew | apply Grown.alloc)⟩
      rw [Lib.decDigits, dif_pos c]
      simp
    · have c' : ¬ (n : Int) < 10 := by omega
      have ih' := ih (n / 10) (by omega) (by omega)
      have e10 : ((n / 10 : Nat) : Int) = IntKind.i64.wrap ((n : Int) / 10) := by simp [IntKind.wrap, IntKind.bits, IntKind.signed]; omega
      rw [e10] at ih'
      clear e10
      have ec : IntKind.u8.wrap (IntKind.i64.wrap (48 + (n : Int).tmod 10)) = 48 + (n : Int) % 10 := by
        rw [Int.tmod_eq_emod_of_nonneg (by omega)]
        simp [IntKind.wrap, IntKind.bits, IntKind.signed]
        omega
      have c0 : 0 ≤ 48 + (n : Int) % 10 := by omega
      have c1 : 48 + (n : Int) % 10 < 256 := by omega
      have hcv : ∀ W : World, (convert 59 9 (.slice (some ⟨W.heap.size, 0, none⟩) 1 1)).run Tryd.prog (W.alloc (.cells #[.int .u8 (48 + (n : Int) % 10)] 5)) = .ok (.string ⟨#[UInt8.ofNat (48 + (n : Int) % 10).toNat]⟩) (W.alloc (.cells #[.int .u8 (48 + (n : Int) % 10)] 5)) :=
        fun W => conv_one (W.alloc (.cells #[.int .u8 (48 + (n : Int) % 10)] 5)) ⟨W.heap.size, 0, none⟩ _ c0 c1 (by simp)
      have hsz : w.heap.size < (w.alloc (.cells #[.int .u8 (48 + (n : Int) % 10)] 5)).drew.heap.size := by simp
      have hce : (w.alloc (.cells #[.int .u8 (48 + (n : Int) % 10)] 5)).drew.cell? ⟨w.heap.size, 0, none⟩ = some (.int .u8 (48 + (n : Int) % 10)) := by simp
      have hcv3 := conv_one _ _ _ c0 c1 hce
      have hd : Lib.decDigits n = Lib.decDigits (n / 10) ++ [UInt8.ofNat (48 + (n : Int) % 10).toNat] := by
        rw [Lib.decDigits, dif_neg c]
        congr 3
      rw [hd]
      clear hd
      have hl := decDigits_len (n / 10)
      have hcat := fun W : World => run_string_add_lists (P := Tryd.prog) W (Lib.decDigits (n / 10)) [UInt8.ofNat (48 + (n : Int) % 10).toNat] (by omega) (by simp)
      generalize Lib.decDigits (n / 10) = ds at *
      go_enter Tryd.func51, Tryd.ntmps51
      go_wp2
      go_region_with (go_at_call 51; refine (ih' _).mono ?_; rintro e w' ⟨rfl, hg⟩; first | (have hcv2 := conv_kept hg w.heap.size _ c0 c1 hsz hce) | skip)
      all_goals
        go_wp2
        go_ret
        refine ⟨rfl, ?_⟩
        first | exact Grown.alloc (grown_undrew hg) _ _ | exact grown_trans (Grown.alloc (Grown.refl w) _ _) (grown_undrew hg)
end Go.Proofs.YtfegnjpajflnkaaDoor
