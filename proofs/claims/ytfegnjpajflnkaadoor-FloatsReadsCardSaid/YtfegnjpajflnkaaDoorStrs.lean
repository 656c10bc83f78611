/- Strings cut at one byte. -/
import Derived.Test.YtfegnjpajflnkaaDoorText
import Derived.Lib.IndexBytes
import Derived.WalkSpells
namespace Go.Proofs.YtfegnjpajflnkaaDoor
open Go.RowKit Fl
set_option linter.unusedSimpArgs false
set_option linter.unusedVariables false

theorem Kb.drew (w : World) : Kb w w.drew := Kb.of_grown (Grown.refl w).drew

def cut1 (l : List UInt8) (c : UInt8) : List UInt8 × List UInt8 × Bool :=
  if 0 ≤ Lib.indexByte l c then (l.take (Lib.indexByte l c).toNat, l.drop ((Lib.indexByte l c).toNat + 1), true) else (l, [], false)

theorem indexByte_lt (l : List UInt8) (c : UInt8) : Lib.indexByte l c < l.length := by
  induction l with
  | nil => simp [Lib.indexByte]
  | cons b l ih =>
    unfold Lib.indexByte
    repeat' split
    all_goals simp
    all_goals omega

theorem slice_to (l : List UInt8) (i : Nat) (h : i ≤ l.length) (hl : l.length ≤ 9223372036854775807) (w : World) :
    (Instr.slice 9 (.string ⟨l.toArray⟩) none (some (.int .i64 (i : Int))) none).run Tryd.prog w = .ok (.string ⟨(l.take i).toArray⟩) w := by
  have hs : (⟨l.toArray⟩ : ByteArray).size = l.length := by simp [ByteArray.size]
  rw [run_slice_string_to_if _ _ _ _ _ Tryd.underlying9]
  have e : (⟨l.toArray⟩ : ByteArray).extract 0 i = ⟨(l.take i).toArray⟩ := by
    apply ByteArray.ext
    apply Array.ext'
    rw [Lib.extract_data]
    simp
  rw [if_pos (by rw [hs]; omega), Int.toNat_natCast, e]
theorem slice_from (l : List UInt8) (i : Nat) (h : i ≤ l.length) (hl : l.length ≤ 9223372036854775807) (w : World) :
    (Instr.slice 9 (.string ⟨l.toArray⟩) (some (.int .i64 (i : Int))) none none).run Tryd.prog w = .ok (.string ⟨(l.drop i).toArray⟩) w := by
  have hs : (⟨l.toArray⟩ : ByteArray).size = l.length := by simp [ByteArray.size]
  rw [run_slice_string_from_if _ _ _ _ _ Tryd.underlying9]
  have e : (⟨l.toArray⟩ : ByteArray).extract i (⟨l.toArray⟩ : ByteArray).size = ⟨(l.drop i).toArray⟩ := by
    apply ByteArray.ext
    apply Array.ext'
    rw [Lib.extract_to_end]
  rw [if_pos (by rw [hs]; omega), Int.toNat_natCast, e]

theorem cutlite_any (l : List UInt8) (c : UInt8) (hl : l.length ≤ 9223372036854775807) (w : World) :
    Calls Tryd.prog 73 #[.string ⟨l.toArray⟩, .string ⟨#[c]⟩] w fun e w' => e = .returned (.tuple #[.string ⟨(cut1 l c).1.toArray⟩, .string ⟨(cut1 l c).2.1.toArray⟩, .bool (cut1 l c).2.2]) ∧ Kb w w' := by
  have hi := Tryd.stringslite_Index_one ⟨l.toArray⟩ c
  have hb := indexByte_lt l c
  simp only at hi
  by_cases h : 0 ≤ Lib.indexByte l c
  · have e : cut1 l c = (l.take (Lib.indexByte l c).toNat, l.drop ((Lib.indexByte l c).toNat + 1), true) := by simp [cut1, h]
    rw [e]
    obtain ⟨i, hii⟩ := Int.eq_ofNat_of_zero_le h
    rw [hii] at hi hb ⊢
    rw [Int.toNat_natCast]
    have h1 := slice_to l i (by omega) hl
    have h2 := slice_from l (i + 1) (by omega) hl
    rw [show ((i + 1 : Nat) : Int) = (i : Int) + 1 by omega] at h2
    go_enter Tryd.func73, Tryd.ntmps73
    go_wp2_with (go_at_call 79; refine (hi _).mono ?_; rintro e w' ⟨rfl, rfl⟩)
    go_region
    go_wp2
    go_ret3
    exact ⟨rfl, Kb.drew _⟩
  · have e : cut1 l c = (l, [], false) := by simp [cut1, h]
    rw [e]
    have e2 : Lib.indexByte l c < 0 := by omega
    generalize Lib.indexByte l c = i at *
    go_enter Tryd.func73, Tryd.ntmps73
    go_wp2_with (go_at_call 79; refine (hi _).mono ?_; rintro e w' ⟨rfl, rfl⟩)
    go_ret3
    exact ⟨rfl, Kb.refl _⟩

theorem cut_any (l : List UInt8) (c : UInt8) (b a : List UInt8) (f : Bool) (h : cut1 l c = (b, a, f)) (hl : l.length ≤ 9223372036854775807) (w : World) :
    Calls Tryd.prog 60 #[.string ⟨l.toArray⟩, .string ⟨#[c]⟩] w fun e w' => e = .returned (.tuple #[.string ⟨b.toArray⟩, .string ⟨a.toArray⟩, .bool f]) ∧ Kb w w' := by
  have k := cutlite_any l c hl
  rw [h] at k
  simp only at k
  go_enter Tryd.func60, Tryd.ntmps60
  go_wp2_with (go_at_call 73; refine (k _).mono ?_; rintro e w' ⟨rfl, g⟩)
  go_ret3
  exact ⟨rfl, g⟩

theorem cutp_any (l p t : List UInt8) (f : Bool) (h1 : Lib.trimPrefix l p = t) (h2 : Lib.hasPrefix l p = f) (w : World) :
    Calls Tryd.prog 57 #[.string ⟨l.toArray⟩, .string ⟨p.toArray⟩] w fun e w' => e = .returned (.tuple #[.string ⟨t.toArray⟩, .bool f]) ∧ w = w' := by
  subst h1; subst h2
  refine (Tryd.strings_CutPrefix ⟨l.toArray⟩ ⟨p.toArray⟩ w).mono ?_
  rintro e w' ⟨rfl, rfl⟩
  exact ⟨rfl, rfl⟩
end Go.Proofs.YtfegnjpajflnkaaDoor
