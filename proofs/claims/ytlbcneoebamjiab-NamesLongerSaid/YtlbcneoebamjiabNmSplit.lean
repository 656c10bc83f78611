/- Split: the first point of a text. -/
import Derived.Test.YtlbcneoebamjiabNmRight
import Derived.Test.YtlbcneoebamjiabNmApp
import Derived.Lib.IndexBytes
import Derived.WalkSpells
namespace Go.Proofs.Ytlbcneoebamjiab
open Go.RowKit Go.Sort
set_option linter.unusedSimpArgs false
set_option linter.unusedVariables false

/-- The place of the first point, or the length. -/
def dotS : Str → Nat
  | [] => 0
  | c :: r => if c = 46 then 0 else dotS r + 1
theorem dotS_le : ∀ (l : Str), dotS l ≤ l.length
  | [] => Nat.le_refl _
  | c :: r => by
    unfold dotS
    have := dotS_le r
    split <;> simp <;> omega
theorem index_dot : ∀ (l : Str), Lib.indexByte l 46 = if dotS l < l.length then (dotS l : Int) else -1
  | [] => by simp [Lib.indexByte, dotS]
  | c :: r => by
    have ih := index_dot r
    unfold Lib.indexByte dotS
    by_cases h : c = 46
    · simp [h]
    · have h' : (c == 46) = false := by simp [h]
      simp only [h, h', if_false, ih, Bool.false_eq_true]
      by_cases h2 : dotS r < r.length
      · have h3 : (0 : Int) ≤ (dotS r : Int) := by omega
        have h4 : ¬ ((dotS r : Int) < 0) := by omega
        simp [h2, h3, h4]
      · simp [h2]

theorem slice_to (l : List UInt8) (i : Nat) (h : i ≤ l.length) (hl : l.length ≤ 9223372036854775807) (w : World) :
    (Instr.slice 9 (.string ⟨l.toArray⟩) none (some (.int .i64 (i : Int))) none).run Try.prog w = .ok (.string ⟨(l.take i).toArray⟩) w := by
  have hs : (⟨l.toArray⟩ : ByteArray).size = l.length := by simp [ByteArray.size]
  rw [run_slice_string_to_if _ _ _ _ _ Try.underlying9]
  have e : (⟨l.toArray⟩ : ByteArray).extract 0 i = ⟨(l.take i).toArray⟩ := by
    apply ByteArray.ext
    apply Array.ext'
    rw [Lib.extract_data]
    simp
  rw [if_pos (by rw [hs]; omega), Int.toNat_natCast, e]
theorem slice_from (l : List UInt8) (i : Nat) (h : i ≤ l.length) (hl : l.length ≤ 9223372036854775807) (w : World) :
    (Instr.slice 9 (.string ⟨l.toArray⟩) (some (.int .i64 (i : Int))) none none).run Try.prog w = .ok (.string ⟨(l.drop i).toArray⟩) w := by
  have hs : (⟨l.toArray⟩ : ByteArray).size = l.length := by simp [ByteArray.size]
  rw [run_slice_string_from_if _ _ _ _ _ Try.underlying9]
  have e : (⟨l.toArray⟩ : ByteArray).extract i (⟨l.toArray⟩ : ByteArray).size = ⟨(l.drop i).toArray⟩ := by
    apply ByteArray.ext
    apply Array.ext'
    rw [Lib.extract_to_end]
  rw [if_pos (by rw [hs]; omega), Int.toNat_natCast, e]

theorem cutlite_in (l : Str) (i : Nat) (hi : dotS l = i) (hlt : i < l.length) (hl : l.length ≤ 9223372036854775807) (w : World) :
    Calls Try.prog 21 #[.string ⟨l.toArray⟩, .string ⟨#[46]⟩] w fun e w' => e = .returned (.tuple #[.string ⟨(l.take i).toArray⟩, .string ⟨(l.drop (i + 1)).toArray⟩, .bool true]) ∧ Fr (fun _ => False) w w' := by
  have hx := Try.stringslite_Index_one ⟨l.toArray⟩ 46
  have hd : Lib.indexByte l 46 = (i : Int) := by rw [index_dot, hi, if_pos hlt]
  simp only at hx
  rw [hd] at hx
  have h1 := slice_to l i (by omega) hl
  have h2 := slice_from l (i + 1) (by omega) hl
  rw [show ((i + 1 : Nat) : Int) = (i : Int) + 1 by omega] at h2
  clear hd hi
  go_enter Try.func21, Try.ntmps21
  go_wp2_with (go_at_call 24; refine (hx _).mono ?_; rintro e w' ⟨rfl, rfl⟩)
  go_region
  go_wp2
  go_ret3
  exact ⟨rfl, Fr.drew _ _⟩
theorem cutlite_out (l : Str) (hlt : dotS l = l.length) (w : World) :
    Calls Try.prog 21 #[.string ⟨l.toArray⟩, .string ⟨#[46]⟩] w fun e w' => e = .returned (.tuple #[.string ⟨l.toArray⟩, .string ⟨#[]⟩, .bool false]) ∧ Fr (fun _ => False) w w' := by
  have hx := Try.stringslite_Index_one ⟨l.toArray⟩ 46
  have hd : Lib.indexByte l 46 = -1 := by rw [index_dot, if_neg (by omega)]
  simp only at hx
  rw [hd] at hx
  clear hd hlt
  go_enter Try.func21, Try.ntmps21
  go_wp2_with (go_at_call 24; refine (hx _).mono ?_; rintro e w' ⟨rfl, rfl⟩)
  go_ret3
  exact ⟨rfl, Fr.refl _ _⟩
theorem cut_in (l : Str) (i : Nat) (hi : dotS l = i) (hlt : i < l.length) (hl : l.length ≤ 9223372036854775807) (w : World) :
    Calls Try.prog 15 #[.string ⟨l.toArray⟩, .string ⟨#[46]⟩] w fun e w' => e = .returned (.tuple #[.string ⟨(l.take i).toArray⟩, .string ⟨(l.drop (i + 1)).toArray⟩, .bool true]) ∧ Fr (fun _ => False) w w' := by
  have k := cutlite_in l i hi hlt hl
  clear hi
  go_enter Try.func15, Try.ntmps15
  go_wp2_with (go_at_call 21; refine (k _).mono ?_; rintro e w' ⟨rfl, g⟩)
  go_ret3
  exact ⟨rfl, g⟩
theorem cut_out (l : Str) (hlt : dotS l = l.length) (w : World) :
    Calls Try.prog 15 #[.string ⟨l.toArray⟩, .string ⟨#[46]⟩] w fun e w' => e = .returned (.tuple #[.string ⟨l.toArray⟩, .string ⟨#[]⟩, .bool false]) ∧ Fr (fun _ => False) w w' := by
  have k := cutlite_out l hlt
  clear hlt
  go_enter Try.func15, Try.ntmps15
  go_wp2_with (go_at_call 21; refine (k _).mono ?_; rintro e w' ⟨rfl, g⟩)
  go_ret3
  exact ⟨rfl, g⟩

theorem or_any (b : Nat) (x y r : Int) (hr : (if x ≠ 0 then x else y) = r) (w : World) (c0 : w.cell? ⟨b, 0, none⟩ = some (.int .i64 x)) (c1 : w.cell? ⟨b, 1, none⟩ = some (.int .i64 y)) :
    Calls Try.prog 16 #[.slice (some ⟨b, 0, none⟩) 2 2] w fun e w' => e = .returned (.int .i64 r) ∧ w' = w := by
  by_cases hx : x = 0
  · subst hx
    rw [if_neg (by simp)] at hr
    subst hr
    by_cases hy : y = 0
    · subst hy
      go_enter Try.func16, Try.ntmps16
      go_wp2
      refine wp_loop_rounds 3 ?_
      rw [rounds_succ]
      go_wp2
      rw [rounds_succ]
      go_wp2
      rw [rounds_succ]
      go_wp2
      go_ret
      exact ⟨rfl, rfl⟩
    · have hy' : (y == 0) = false := by simp [hy]
      go_enter Try.func16, Try.ntmps16
      go_wp2
      refine wp_loop_rounds 3 ?_
      rw [rounds_succ]
      go_wp2
      rw [rounds_succ]
      go_wp2
      go_ret
      exact ⟨rfl, rfl⟩
  · rw [if_pos hx] at hr
    subst hr
    have hx' : (x == 0) = false := by simp [hx]
    go_enter Try.func16, Try.ntmps16
    go_wp2
    refine wp_loop_rounds 3 ?_
    rw [rounds_succ]
    go_wp2
    go_ret
    exact ⟨rfl, rfl⟩
end Go.Proofs.Ytlbcneoebamjiab
