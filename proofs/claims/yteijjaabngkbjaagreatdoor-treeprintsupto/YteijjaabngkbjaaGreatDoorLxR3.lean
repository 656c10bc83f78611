/- The document's number. -/
import Derived.Test.YteijjaabngkbjaaGreatDoorLxR2
namespace Go.Proofs.YteijjaabngkbjaaGreatDoor
open Go.RowKit Lx
set_option linter.unusedSimpArgs false
set_option linter.unusedVariables false

theorem fold_ge (l : By) : ∀ m, m ≤ l.foldl I.stepD m := by
  induction l with
  | nil => intro m; simp
  | cons c r ih =>
    intro m
    rw [List.foldl_cons]
    refine Nat.le_trans ?_ (ih _)
    unfold I.stepD
    omega
theorem numD_mono (l : By) (j : Nat) : I.numD (l.take j) ≤ I.numD l := by
  have e : I.numD l = (l.drop j).foldl I.stepD (I.numD (l.take j)) := by
    unfold I.numD
    rw [← List.foldl_append, List.take_append_drop]
  rw [e]
  exact fold_ge _ _
def numR (x : By) : Int × Bool := if I.numD x ≤ 9223372036854775807 then ((I.numD x : Int), true) else (0, false)
set_option maxHeartbeats 1000000 in
theorem number_walk (l : By) (v : Int) (b : Bool) (hl : l.length ≤ 9223372036854775800) (hd : Hidden (∀ c ∈ l, dgt c = true)) (hr : Hidden (numR l = (v, b))) (w : World) :
    Calls Tryz.prog 144 #[.string ⟨l.toArray⟩] w fun e w' => e = .returned (.tuple #[.int .u64 v, .bool b]) ∧ w' = w := by
  have hs := str_len l
  go_enter Tryz.func144, Tryz.ntmps144
  go_wp2
  go_loopg [4, 5] l.length (fun k nv iv wr => ∃ j n : Nat, nv = .int .u64 (n : Int) ∧ iv = .int .i64 (j : Int) ∧ j ≤ l.length ∧ I.numD (l.take j) = n ∧ n ≤ 9223372036854775807 ∧ k = l.length - j ∧ wr = w)
  case atStart => exact ⟨0, 0, rfl, rfl, by omega, by simp [I.numD], by omega, rfl, rfl⟩
  case round =>
    obtain ⟨j, n, rfl, rfl, hj, hn, hn2, hgk, rfl⟩ := hrel
    have hgkH : Hidden (gk = l.length - j) := hgk
    have hnH : Hidden (I.numD (l.take j) = n) := hn
    clear hgk hn
    by_cases hjl : j < l.length
    · obtain ⟨c, hc⟩ : ∃ c, l[j]? = some c := ⟨l[j], List.getElem?_eq_getElem hjl⟩
      have hx := str_index l j c hc
      have hdc := (show ∀ c ∈ l, dgt c = true from hd) c (List.mem_of_getElem? hc)
      obtain ⟨D, hD, hD9⟩ : ∃ D, c.toNat = D + 48 ∧ D ≤ 9 := by
        simp only [dgt, Bool.and_eq_true, decide_eq_true_eq] at hdc
        exact ⟨c.toNat - 48, by omega, by omega⟩
      have hnext : I.numD (l.take (j + 1)) = n * 10 + D := by rw [I.numD_take l j c hc, show I.numD (l.take j) = n from hnH, hD]; omega
      rw [hD] at hx
      have hx' : ∀ w, (Instr.index 9 (.string ⟨l.toArray⟩) (.int .i64 (j : Int))).run Tryz.prog w = .ok (.int .u8 ((D : Int) + 48)) w := by
        intro w
        rw [hx w]
        rfl
      clear hx hdc hD
      by_cases hbig : 9223372036854775807 < n * 10 + D
      · have hrr : Hidden ((0, false) = (v, b)) := by
          show _ = _
          rw [← (show _ = (v, b) from hr), numR, if_neg]
          have := numD_mono l (j + 1)
          omega
        have ht : decide ((9223372036854775807 - (D : Int)) / 10 < (n : Int)) = true := decide_eq_true (by omega)
        clear hnext hc
        go_wp2
        go_ret2
        cases hrr
        exact ⟨rfl, rfl⟩
      · have ht : decide ((9223372036854775807 - (D : Int)) / 10 < (n : Int)) = false := decide_eq_false (by omega)
        have hnx : Hidden (I.numD (l.take (j + 1)) = n * 10 + D) := hnext
        clear hnext hc
        go_wp2
        go_roundg (l.length - (j + 1))
        case measure =>
          have : gk = l.length - j := hgkH
          omega
        case rel => exact ⟨j + 1, n * 10 + D, by congr 1; omega, by go_num, by omega, hnx, by omega, rfl, rfl⟩
    · obtain rfl : j = l.length := by omega
      have hrr : Hidden (((n : Int), true) = (v, b)) := by
        show _ = _
        have h := (show I.numD (l.take l.length) = n from hnH)
        rw [List.take_length] at h
        rw [← (show _ = (v, b) from hr), numR, h, if_pos hn2]
      go_wp2
      go_ret2
      cases hrr
      exact ⟨rfl, rfl⟩
end Go.Proofs.YteijjaabngkbjaaGreatDoor
