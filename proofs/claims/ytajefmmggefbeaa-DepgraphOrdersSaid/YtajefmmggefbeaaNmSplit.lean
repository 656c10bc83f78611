/- Split: the first point of a text. -/
import Derived.Test.YtajefmmggefbeaaNmRight
import Derived.Test.YtajefmmggefbeaaNmApp
import Derived.Lib.IndexBytes
import Derived.WalkSpells
namespace Go.Proofs.Ytajefmmggefbeaa
open Go.RowKit Go.Sort
set_option linter.unusedSimpArgs false
set_option linter.unusedVariables false

/-- The place of the first point, or the length. -/
def dotS : Str → Nat
  | [] => 0
  | c :: r => if c = 46 then 0 else dotS r + 1
theorem dotS_le : ∀ (l : Str), dotS l ≤ l.length
  | [] => Nat.le_refl _
  | c :: r => by
    unfold dotS
    have := dotS_le r
    split <;> simp <;> omega
theorem index_dot : ∀ (l : Str), Lib.indexByte l 46 = if dotS l < l.length then (dotS l : Int) else -1
  | [] => by simp [Lib.indexByte, dotS]
  | c :: r => by
    have ih := index_dot r
    unfold Lib.indexByte dotS
    by_cases h : c = 46
    · simp [h]
    · have h' : (c == 46) = false := by simp [h]
      simp only [h, h', if_false, ih, Bool.false_eq_true]
      by_cases h2 : dotS r < r.length
      · have h3 : (0 : Int) ≤ (dotS r : Int) := by omega
        have h4 : ¬ ((dotS r : Int) < 0) := by omega
        simp [h2, h3, h4]
      · simp [h2]

theorem slice_to (l : List UInt8) (i : Nat) (h : i ≤ l.length) (hl : l.length ≤ 9223372036854775807) (w : World) :
    (Instr.slice 9 (.string ⟨l.toArray⟩) none (some (.int .i64 (i : Int))) none).run Try.prog w = .ok (.string ⟨(l.take i).toArray⟩) w := by
  have hs : (⟨l.toArray⟩ : ByteArray).size = l.length := by simp [ByteArray.size]
  rw [run_slice_string_to_if _ _ _ _ _ Try.underlying9]
  have e : (⟨l.toArray⟩ : ByteArray).extract 0 i = ⟨(l.take i).toArray⟩ := by
    apply ByteArray.ext
    apply Array.ext'
    rw [Lib.extract_data]
    simp
  rw [if_pos (by rw [hs]; omega), Int.toNat_natCast, e]
theorem slice_from (l : List UInt8) (i : Nat) (h : i ≤ l.length) (hl : l.length ≤ 9223372036854775807) (w : World) :
    (Instr.slice 9 (.string ⟨l.toArray⟩) (some (.int .i64 (i : Int))) none none).run Try.prog w = .ok (.string ⟨(l.drop i).toArray⟩) w := by
  have hs : (⟨l.toArray⟩ : ByteArray).size = l.length := by simp [ByteArray.size]
  rw [run_slice_string_from_if _ _ _ _ _ Try.underlying9]
  have e : (⟨l.toArray⟩ : ByteArray).extract i (⟨l.toArray⟩ : ByteArray).size = ⟨(l.drop i).toArray⟩ := by
    apply ByteArray.ext
    apply Array.ext'
    rw [Lib.extract_to_end]
  rw [if_pos (by rw [hs]; omega), Int.toNat_natCast, e]

end Go.Proofs.Ytajefmmggefbeaa
