/- The document's order of names, quietly: nothing is made. -/
import Derived.Test.YtakkiipkmogagaaGreatIdI
import Derived.Test.YtakkiipkmogagaaGreatTyE3
import Derived.Test.YtakkiipkmogagaaGreatTyH2
import Derived.Deep.QuietTactic
import Derived.BigQuiet
namespace Go.Proofs.YtakkiipkmogagaaGreat.U
open Go.RowKit Go.Sort
set_option linter.unusedSimpArgs false
set_option linter.unusedVariables false
def Qd (w w' : World) : Prop := ∃ m, w' = w.drewN m
theorem Qd.drew {w w' : World} (h : Qd w w') : Qd w w'.drew := by
  obtain ⟨m, rfl⟩ := h
  exact ⟨m + 1, rfl⟩
set_option maxHeartbeats 1000000 in
theorem rcmp_q (a b : Str) (r : Int) (hr : Hidden (cmpS a b = r)) (ha : a.length ≤ 9223372036854775807) (hb : b.length ≤ 9223372036854775807) (w : World) :
    Calls Tryz.prog 45 #[.string ⟨a.toArray⟩, .string ⟨b.toArray⟩] w fun e w' => e = .returned (.int .i64 r) ∧ Qd w w' := by
  have hsa := str_len a
  have hsb := str_len b
  go_enter Tryz.func45, Tryz.ntmps45
  go_wp2
  go_loopg [5] a.length (fun k iv wr => ∃ j : Nat, iv = .int .i64 (j : Int) ∧ j ≤ a.length ∧ j ≤ b.length ∧ k = a.length - j ∧ Qd w wr ∧ cmpS (a.drop j) (b.drop j) = r)
  case atStart => exact ⟨0, rfl, by omega, by omega, rfl, ⟨0, rfl⟩, hr⟩
  case round =>
    obtain ⟨j, rfl, hja, hjb, hk, hfr, hf⟩ := hrel
    have hkH : Hidden (gk = a.length - j) := hk
    have hfH : Hidden (Qd w wr) := hfr
    clear hk hfr hr
    by_cases h1 : j < a.length
    · by_cases h2 : j < b.length
      · obtain ⟨x, hx⟩ : ∃ c, a[j]? = some c := ⟨a[j], List.getElem?_eq_getElem h1⟩
        obtain ⟨y, hy⟩ : ∃ c, b[j]? = some c := ⟨b[j], List.getElem?_eq_getElem h2⟩
        rw [drop_at hx, drop_at hy, cmpS_cons] at hf
        have ix := str_index a j x hx
        have iy := str_index b j y hy
        clear hx hy
        by_cases hlt : x < y
        · rw [if_pos hlt] at hf
          subst hf
          have hlt' : (x.toNat : Int) < (y.toNat : Int) := by have := UInt8.lt_iff_toNat_lt.1 hlt; omega
          obtain ⟨X, hX⟩ : ∃ m, x.toNat = m := ⟨_, rfl⟩
          obtain ⟨Y, hY⟩ : ∃ m, y.toNat = m := ⟨_, rfl⟩
          rw [hX] at ix hlt'
          rw [hY] at iy hlt'
          clear hlt hX hY
          go_wp2
          go_region
          go_wp2
          go_ret
          exact ⟨rfl, Qd.drew hfH⟩
        · rw [if_neg hlt] at hf
          by_cases hgt : y < x
          · rw [if_pos hgt] at hf
            subst hf
            have hgt' : (y.toNat : Int) < (x.toNat : Int) := by have := UInt8.lt_iff_toNat_lt.1 hgt; omega
            obtain ⟨X, hX⟩ : ∃ m, x.toNat = m := ⟨_, rfl⟩
            obtain ⟨Y, hY⟩ : ∃ m, y.toNat = m := ⟨_, rfl⟩
            rw [hX] at ix hgt'
            rw [hY] at iy hgt'
            have hle : ¬ (X : Int) < (Y : Int) := by omega
            clear hlt hgt hX hY
            go_wp2
            go_region
            go_wp2
            go_region
            go_wp2
            go_ret
            exact ⟨rfl, Qd.drew (Qd.drew hfH)⟩
          · rw [if_neg hgt] at hf
            have e : x = y := UInt8.le_antisymm (UInt8.not_lt.1 hgt) (UInt8.not_lt.1 hlt)
            subst e
            obtain ⟨X, hX⟩ : ∃ m, x.toNat = m := ⟨_, rfl⟩
            rw [hX] at ix iy
            have hle : ¬ (X : Int) < (X : Int) := by omega
            have hcH : Hidden (cmpS (a.drop (j + 1)) (b.drop (j + 1)) = r) := hf
            clear hlt hgt hX hf
            go_wp2
            go_region
            go_wp2
            go_region
            go_wp2
            go_roundg (a.length - (j + 1))
            case measure => have := (show gk = a.length - j from hkH); omega
            case rel => exact ⟨j + 1, by go_num, by omega, by omega, rfl, Qd.drew (Qd.drew hfH), hcH⟩
      · obtain rfl : j = b.length := by omega
        rw [List.drop_length, cmpS_nil', if_pos (by simp; omega)] at hf
        subst hf
        go_wp2
        go_ret
        exact ⟨rfl, hfH⟩
    · obtain rfl : j = a.length := by omega
      rw [List.drop_length, cmpS_nil] at hf
      by_cases h2 : a.length < b.length
      · rw [if_pos (by simp; omega)] at hf
        subst hf
        go_wp2
        go_ret
        exact ⟨rfl, hfH⟩
      · rw [if_neg (by simp; omega)] at hf
        subst hf
        go_wp2
        go_ret
        exact ⟨rfl, hfH⟩
end Go.Proofs.YtakkiipkmogagaaGreat.U
