/- Cmp and Far, and the document's. -/
import Derived.Test.YtajefmmggefbeaaNmName
import Derived.Sort.Walk0
import Derived.Shelf.SlSorted.Search
namespace Go.Proofs.Ytajefmmggefbeaa
open Go.RowKit Go.Sort
set_option linter.unusedSimpArgs false
set_option linter.unusedVariables false

def cmpS (a b : Str) : Int := if a < b then -1 else if b < a then 1 else 0

theorem isnan_any (x : Str) (w : World) : Calls Try.prog 102 #[.string ⟨x.toArray⟩] w fun e w' => e = .returned (.bool false) ∧ w' = w := by
  go_enter Try.func102, Try.ntmps102
  go_wp2
  go_ret
  exact ⟨by simp, rfl⟩

theorem cmpS_cons (x y : UInt8) (a b : Str) : cmpS (x :: a) (y :: b) = if x < y then -1 else if y < x then 1 else cmpS a b := by
  unfold cmpS
  by_cases h1 : x < y
  · rw [if_pos (List.cons_lt_cons_iff.2 (Or.inl h1)), if_pos h1]
  · rw [if_neg h1]
    by_cases h2 : y < x
    · rw [if_pos h2, if_neg, if_pos (List.cons_lt_cons_iff.2 (Or.inl h2))]
      rw [List.cons_lt_cons_iff]
      rintro (h | ⟨rfl, _⟩)
      · exact h1 h
      · exact UInt8.lt_irrefl _ h2
    · rw [if_neg h2]
      have e : x = y := UInt8.le_antisymm (UInt8.not_lt.1 h2) (UInt8.not_lt.1 h1)
      subst e
      simp [List.cons_lt_cons_iff]
theorem cmpS_nil (b : Str) : cmpS [] b = if 0 < b.length then -1 else 0 := by
  cases b <;> simp [cmpS]
theorem cmpS_nil' (a : Str) : cmpS a [] = if 0 < a.length then 1 else 0 := by
  cases a <;> simp [cmpS]

set_option maxHeartbeats 1000000 in
theorem rcmp_any (a b : Str) (r : Int) (hr : Hidden (cmpS a b = r)) (ha : a.length ≤ 9223372036854775807) (hb : b.length ≤ 9223372036854775807) (w : World) :
    Calls Try.prog 79 #[.string ⟨a.toArray⟩, .string ⟨b.toArray⟩] w fun e w' => e = .returned (.int .i64 r) ∧ Fr (fun _ => False) w w' := by
  have hsa := str_len a
  have hsb := str_len b
  go_enter Try.func79, Try.ntmps79
  go_wp2
  go_loopg [5] a.length (fun k iv wr => ∃ j : Nat, iv = .int .i64 (j : Int) ∧ j ≤ a.length ∧ j ≤ b.length ∧ k = a.length - j ∧ Fr (fun _ => False) w wr ∧ cmpS (a.drop j) (b.drop j) = r)
  case atStart => exact ⟨0, rfl, by omega, by omega, rfl, Fr.refl _ _, hr⟩
  case round =>
    obtain ⟨j, rfl, hja, hjb, hk, hfr, hf⟩ := hrel
    have hkH : Hidden (gk = a.length - j) := hk
    have hfH : Hidden (Fr (fun _ => False) w wr) := hfr
    clear hk hfr hr
    by_cases h1 : j < a.length
    · by_cases h2 : j < b.length
      · obtain ⟨x, hx⟩ : ∃ c, a[j]? = some c := ⟨a[j], List.getElem?_eq_getElem h1⟩
        obtain ⟨y, hy⟩ : ∃ c, b[j]? = some c := ⟨b[j], List.getElem?_eq_getElem h2⟩
        rw [drop_at hx, drop_at hy, cmpS_cons] at hf
        have ix := str_index a j x hx
        have iy := str_index b j y hy
        clear hx hy
        by_cases hlt : x < y
        · rw [if_pos hlt] at hf
          subst hf
          have hlt' : (x.toNat : Int) < (y.toNat : Int) := by have := UInt8.lt_iff_toNat_lt.1 hlt; omega
          obtain ⟨X, hX⟩ : ∃ m, x.toNat = m := ⟨_, rfl⟩
          obtain ⟨Y, hY⟩ : ∃ m, y.toNat = m := ⟨_, rfl⟩
          rw [hX] at ix hlt'
          rw [hY] at iy hlt'
          clear hlt hX hY
          go_wp2
          go_region
          go_wp2
          go_ret
          exact ⟨rfl, hfH.same (Fr.drew _ _)⟩
        · rw [if_neg hlt] at hf
          by_cases hgt : y < x
          · rw [if_pos hgt] at hf
            subst hf
            have hgt' : (y.toNat : Int) < (x.toNat : Int) := by have := UInt8.lt_iff_toNat_lt.1 hgt; omega
            obtain ⟨X, hX⟩ : ∃ m, x.toNat = m := ⟨_, rfl⟩
            obtain ⟨Y, hY⟩ : ∃ m, y.toNat = m := ⟨_, rfl⟩
            rw [hX] at ix hgt'
            rw [hY] at iy hgt'
            have hle : ¬ (X : Int) < (Y : Int) := by omega
            clear hlt hgt hX hY
            go_wp2
            go_region
            go_wp2
            go_region
            go_wp2
            go_ret
            exact ⟨rfl, (hfH.same (Fr.drew _ _)).same (Fr.drew _ _)⟩
          · rw [if_neg hgt] at hf
            have e : x = y := UInt8.le_antisymm (UInt8.not_lt.1 hgt) (UInt8.not_lt.1 hlt)
            subst e
            obtain ⟨X, hX⟩ : ∃ m, x.toNat = m := ⟨_, rfl⟩
            rw [hX] at ix iy
            have hle : ¬ (X : Int) < (X : Int) := by omega
            have hcH : Hidden (cmpS (a.drop (j + 1)) (b.drop (j + 1)) = r) := hf
            clear hlt hgt hX hf
            go_wp2
            go_region
            go_wp2
            go_region
            go_wp2
            go_roundg (a.length - (j + 1))
            case measure => have := (show gk = a.length - j from hkH); omega
            case rel => exact ⟨j + 1, by go_num, by omega, by omega, rfl, (hfH.same (Fr.drew _ _)).same (Fr.drew _ _), hcH⟩
      · obtain rfl : j = b.length := by omega
        rw [List.drop_length, cmpS_nil', if_pos (by simp; omega)] at hf
        subst hf
        go_wp2
        go_ret
        exact ⟨rfl, hfH⟩
    · obtain rfl : j = a.length := by omega
      rw [List.drop_length, cmpS_nil] at hf
      by_cases h2 : a.length < b.length
      · rw [if_pos (by simp; omega)] at hf
        subst hf
        go_wp2
        go_ret
        exact ⟨rfl, hfH⟩
      · rw [if_neg (by simp; omega)] at hf
        subst hf
        go_wp2
        go_ret
        exact ⟨rfl, hfH⟩

theorem append_str (a b : Str) : (⟨a.toArray⟩ : ByteArray) ++ ⟨b.toArray⟩ = ⟨(a ++ b).toArray⟩ := by
  rw [ByteArray.mk_append_mk]
end Go.Proofs.Ytajefmmggefbeaa
