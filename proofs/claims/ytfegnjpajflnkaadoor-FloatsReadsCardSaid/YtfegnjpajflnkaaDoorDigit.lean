/- The document's digit: the place of a byte among the hex digits. -/
import Derived.Test.YtfegnjpajflnkaaDoorTrip
namespace Go.Proofs.YtfegnjpajflnkaaDoor
open Go.RowKit Fl
set_option linter.unusedSimpArgs false
set_option linter.unusedVariables false

def ixFrom (k : Nat) (c : UInt8) : Int := if Lib.indexByte (hexL.drop k) c = -1 then -1 else (k : Int) + Lib.indexByte (hexL.drop k) c
theorem ixFrom_zero (c : UInt8) : ixFrom 0 c = hix c := by
  unfold ixFrom hix
  simp only [List.drop_zero]
  split <;> omega
theorem ib_hit (c : UInt8) (l : List UInt8) : Lib.indexByte (c :: l) c = 0 := by simp [Lib.indexByte]
theorem ib_miss (b c : UInt8) (l : List UInt8) (e : b ≠ c) : Lib.indexByte (b :: l) c = if Lib.indexByte l c = -1 then -1 else Lib.indexByte l c + 1 := by
  have e' : (b == c) = false := by simpa using e
  have hge := Lib.indexByte_ge l c
  rw [Lib.indexByte, e']
  simp only [Bool.false_eq_true, if_false]
  repeat' split
  all_goals first | rfl | omega | simp_all
theorem ixFrom_hit (k : Nat) (b c : UInt8) (h : hexL[k]? = some b) (e : b = c) : ixFrom k c = k := by
  obtain ⟨hk, hb⟩ := List.getElem?_eq_some_iff.1 h
  unfold ixFrom
  rw [List.drop_eq_getElem_cons hk, hb, e, ib_hit]
  simp
theorem ixFrom_miss (k : Nat) (b c : UInt8) (h : hexL[k]? = some b) (e : b ≠ c) : ixFrom k c = ixFrom (k + 1) c := by
  obtain ⟨hk, hb⟩ := List.getElem?_eq_some_iff.1 h
  have hge := Lib.indexByte_ge (hexL.drop (k + 1)) c
  unfold ixFrom
  rw [List.drop_eq_getElem_cons hk, hb, ib_miss _ _ _ e]
  repeat' split
  all_goals omega

theorem digit_any (c : UInt8) (w : World) :
    Calls Tryd.prog 62 #[.int .u8 (c.toNat : Int)] w fun e w' => e = .returned (.int .i64 (hix c)) ∧ w = w' := by
  go_enter Tryd.func62, Tryd.ntmps62
  go_wp2
  go_loop [3] (fun iv => ∃ k : Nat, iv = .int .i64 (k : Int) ∧ k ≤ 16 ∧ ixFrom k c = hix c) (fun iv => 16 - (intOf iv).toNat)
  case atStart => exact ⟨0, rfl, by omega, ixFrom_zero c⟩
  case round =>
    obtain ⟨k, rfl, hk, hf⟩ := hrel
    by_cases hk16 : k < 16
    · obtain ⟨b, hb⟩ : ∃ b, hexL[k]? = some b := ⟨hexL[k], List.getElem?_eq_getElem hk16⟩
      have hx : ∀ W : World, (Instr.index 9 (.string ⟨#[48, 49, 50, 51, 52, 53, 54, 55, 56, 57, 97, 98, 99, 100, 101, 102]⟩) (.int .i64 (k : Int))).run Tryd.prog W = .ok (.int .u8 (b.toNat : Int)) W := fun W => str_index hexL k b hb W
      by_cases e : b = c
      · rw [ixFrom_hit k b c hb e] at hf
        subst e
        have hfH : Hidden ((k : Int) = hix b) := hf
        clear hf hb
        go_wp2
        go_ret
        exact ⟨congrArg (fun z => Ending.returned (.int .i64 z)) hfH, rfl⟩
      · rw [ixFrom_miss k b c hb e] at hf
        have hne : ((b.toNat : Int) == (c.toNat : Int)) = false := by
          simp
          intro h
          exact e (UInt8.toNat_inj.1 (by omega))
        have hfH : Hidden (ixFrom (k + 1) c = hix c) := hf
        clear hf hb e
        go_wp2
        go_round
        case rel => exact ⟨k + 1, by go_num, by omega, hfH⟩
        case measure => simp [intOf]; omega
    · obtain rfl : k = 16 := by omega
      have hfH : Hidden (-1 = hix c) := hf
      clear hf
      go_wp2
      go_ret
      exact ⟨congrArg (fun z => Ending.returned (.int .i64 z)) hfH, rfl⟩
theorem digit_is (c : UInt8) (v : Int) (h : hix c = v) (w : World) :
    Calls Tryd.prog 62 #[.int .u8 (c.toNat : Int)] w fun e w' => e = .returned (.int .i64 v) ∧ w = w' := h ▸ digit_any c w

theorem hix_isd : ∀ c : UInt8, (isd c = true ∧ hix c = (c.toNat : Int) - 48) ∨ (isd c = false ∧ (hix c < 0 ∨ 9 < hix c)) := by
  intro c
  have key : ∀ n : Fin 256, (isd (UInt8.ofNat n.1) = true ∧ hix (UInt8.ofNat n.1) = (n.1 : Int) - 48) ∨ (isd (UInt8.ofNat n.1) = false ∧ (hix (UInt8.ofNat n.1) < 0 ∨ 9 < hix (UInt8.ofNat n.1))) := by
    set_option maxRecDepth 100000 in decide
  have := key ⟨c.toNat, c.toNat_lt⟩
  simpa using this
end Go.Proofs.YtfegnjpajflnkaaDoor
