/- Numbers read byte by byte; the first instruction of bytes: the program's. -/
import Derived.Test.YticpiaonkgomfaaDoorCdM
import Derived.Test.YticpiaonkgomfaaDoorCdT
import Derived.Test.YticpiaonkgomfaaDoorCdB
import Derived.Laws.Bits64b
namespace Go.Proofs.YticpiaonkgomfaaDoor.Cd
open Go.RowKit Ty
set_option linter.unusedSimpArgs false
set_option linter.unusedVariables false

theorem numGo_snoc : ∀ (l : Bs) (a : Nat) (c : UInt8), numGo a (l ++ [c]) = numGo a l * 256 + c.toNat
  | [], a, c => rfl
  | d :: r, a, c => by
    simp only [List.cons_append, numGo]
    exact numGo_snoc r _ c
theorem or_byte (A : Nat) (x : UInt8) (h : A < 72057594037927936) : bits .or .u64 ((A : Int) * 256) (IntKind.u64.wrap (x.toNat : Int)) = ((A * 256 + x.toNat : Nat) : Int) := by
  have hx := x.toNat_lt
  have hw : IntKind.u64.wrap (x.toNat : Int) = (x.toNat : Int) := by rw [IntKind.wrap_u64]; omega
  rw [hw]
  have := bits_or_u64_nat (A * 256) x.toNat (by omega) (by omega)
  rw [show ((A * 256 : Nat) : Int) = (A : Int) * 256 by omega] at this
  rw [this]
  congr 1
  have h8 : x.toNat < 2 ^ 8 := by omega
  have := Nat.two_pow_add_eq_or_of_lt h8 A
  rw [show 2 ^ 8 * A = A * 256 by omega] at this
  exact this.symm
set_option maxHeartbeats 400000 in
theorem num_any (ao : Option Addr) (n cap : Nat) (l : Bs) (hn : l.length = n) (h8 : n ≤ 8) (w : World) (h : BL w ao cap l) :
    Calls Tryd.prog 41 #[.slice ao n cap] w fun e w' => e = .returned (.int .u64 (numGo 0 l : Int)) ∧ w' = w := by
  have hH : Hidden (BL w ao cap l) := h
  have hll : Hidden (l.length = n) := hn
  clear hn h
  go_enter Tryd.func41, Tryd.ntmps41
  go_wp2
  go_loopg [3, 8] n (fun k nv iv wr => ∃ j : Nat, nv = .int .u64 (numGo 0 (l.take j) : Int) ∧ iv = .int .i64 (j : Int) ∧ j ≤ n ∧ k = n - j ∧ wr = w)
  case atStart => exact ⟨0, by simp [numGo], rfl, by omega, rfl, rfl⟩
  case round =>
    obtain ⟨j, rfl, rfl, hj, hk, rfl⟩ := hrel
    have hkH : Hidden (gk = n - j) := hk
    clear hk
    by_cases hjl : j < n
    · have hll' : l.length = n := hll
      obtain ⟨x, hx⟩ : ∃ x, l[j]? = some x := ⟨l[j], List.getElem?_eq_getElem (by omega)⟩
      obtain ⟨b, off, rfl, hc⟩ := (show BL wr ao cap l from hH).2.2.2.resolve_left (by rintro rfl; simp at hx)
      have hA : Hidden (numGo 0 (l.take (j + 1)) = numGo 0 (l.take j) * 256 + x.toNat) := by
        show _ = _
        rw [List.take_add_one, hx]; exact numGo_snoc _ _ _
      have hlt : Hidden (numGo 0 (l.take j) < 256 ^ j) := by
        have := numGo_lt (l.take j) 0
        rw [List.length_take, Nat.min_eq_left (by omega)] at this
        show _ < _; simpa using this
      have hcj : wr.cell? ⟨b, off + j, none⟩ = some (.int .u8 (x.toNat : Int)) := hc j _ hx
      obtain ⟨A, hAe⟩ : ∃ A, numGo 0 (l.take j) = A := ⟨_, rfl⟩
      rw [hAe] at hA hlt ⊢
      have hA2 : A < 72057594037927936 := by
        have : A < 256 ^ j := hlt
        have : 256 ^ j ≤ 256 ^ 7 := Nat.pow_le_pow_right (by omega) (by omega)
        omega
      have e_or := or_byte A x hA2
      clear hx hc hll' hAe
      go_wp2
      go_roundg (n - (j + 1))
      case measure =>
        have : gk = n - j := hkH
        omega
      case rel => exact ⟨j + 1, by rw [show numGo 0 (l.take (j + 1)) = A * 256 + x.toNat from hA]; simp, by go_num, by omega, rfl, rfl⟩
    · obtain rfl : j = n := by omega
      have hll' : l.length = j := hll
      have e : l.take j = l := by rw [← hll', List.take_length]
      rw [e]
      clear hll' e
      go_wp2
      go_ret
      exact ⟨rfl, rfl⟩
end Go.Proofs.YticpiaonkgomfaaDoor.Cd
