/- The program's markSize, longestNumber, longest, withoutNoughts. -/
import Derived.Test.YtfkccanjdlajlabGreatDoorLxW2
namespace Go.Proofs.YtfkccanjdlajlabGreatDoor
open Go.RowKit Lx
set_option linter.unusedSimpArgs false
set_option linter.unusedVariables false

def oneN (n : Nat) : Bool := n == 40 || n == 41 || n == 123 || n == 125 || n == 44 || n == 59 || n == 58 || n == 46 || n == 61 || n == 43 || n == 45 || n == 42 || n == 47 || n == 37 || n == 60 || n == 62 || n == 33
theorem one_nat (c : UInt8) : oneN c.toNat = one c := by
  have h : ∀ k < 256, oneN k = one (UInt8.ofNat k) := by decide +kernel
  have := h c.toNat c.toNat_lt
  simpa using this
set_option maxHeartbeats 1000000 in
theorem mark_walk (l q : By) (n r : Nat) (hl : l.length ≤ 9223372036854775806)
    (hsl : ∀ w, (Instr.slice 9 (.string ⟨l.toArray⟩) none (some (.int .i64 (min 2 (l.length : Int)))) none).run Tryz.prog w = .ok (.string ⟨q.toArray⟩) w)
    (hx : ∀ w, (Instr.index 9 (.string ⟨l.toArray⟩) (.int .i64 0)).run Tryz.prog w = .ok (.int .u8 (n : Int)) w)
    (h1 : (q == [60, 61]) = false) (h2 : (q == [62, 61]) = false) (h3 : (q == [61, 61]) = false) (h4 : (q == [33, 61]) = false) (h5 : (q == [38, 38]) = false) (h6 : (q == [124, 124]) = false)
    (hr : Hidden ((if oneN n = true then 1 else 0) = r)) (w : World) :
    Calls Tryz.prog 113 #[.string ⟨l.toArray⟩] w fun e w' => e = .returned (.int .i64 (r : Int)) ∧ w' = w := by
  have hs := str_len l
  go_enter Tryz.func113, Tryz.ntmps113
  go_wp2
  all_goals (go_ret; refine ⟨?_, rfl⟩; rw [← (show (if oneN n = true then 1 else 0) = r from hr)]; clear hr hsl hx h1 h2 h3 h4 h5 h6)
  all_goals (first
    | (have hz : oneN n = true := by (simp only [beq_iff_eq, beq_eq_false_iff_ne, ne_eq, oneN, Bool.or_eq_true] at *; omega)
       rw [hz]; rfl)
    | (have hz : oneN n = false := by (simp only [beq_iff_eq, beq_eq_false_iff_ne, ne_eq, oneN, Bool.or_eq_false_iff] at *; omega)
       rw [hz]; rfl))

theorem slice_min (l : By) (hl : l.length ≤ 9223372036854775807) (w : World) : (Instr.slice 9 (.string ⟨l.toArray⟩) none (some (.int .i64 (min 2 (l.length : Int)))) none).run Tryz.prog w = .ok (.string ⟨(l.take 2).toArray⟩) w := by
  have := slice_to l (min 2 l.length) (by omega) hl w
  rw [show ((min 2 l.length : Nat) : Int) = min 2 (l.length : Int) by omega] at this
  have e : l.take (min 2 l.length) = l.take 2 := by
    by_cases h : 2 ≤ l.length
    · rw [Nat.min_eq_left h]
    · rw [Nat.min_eq_right (by omega), List.take_length, List.take_of_length_le (by omega)]
  rw [e] at this
  exact this
theorem mark_two (l q : By) (hl : l.length ≤ 9223372036854775806)
    (hsl : ∀ w, (Instr.slice 9 (.string ⟨l.toArray⟩) none (some (.int .i64 (min 2 (l.length : Int)))) none).run Tryz.prog w = .ok (.string ⟨q.toArray⟩) w)
    (hq : q = [60, 61] ∨ q = [62, 61] ∨ q = [61, 61] ∨ q = [33, 61] ∨ q = [38, 38] ∨ q = [124, 124]) (w : World) :
    Calls Tryz.prog 113 #[.string ⟨l.toArray⟩] w fun e w' => e = .returned (.int .i64 2) ∧ w' = w := by
  have hs := str_len l
  rcases hq with rfl | rfl | rfl | rfl | rfl | rfl
  all_goals
    go_enter Tryz.func113, Tryz.ntmps113
    go_wp2
    go_ret
    exact ⟨rfl, rfl⟩
theorem two_eq (a b : UInt8) : two a b = true ↔ ([a, b] = [60, 61] ∨ [a, b] = [62, 61] ∨ [a, b] = [61, 61] ∨ [a, b] = [33, 61] ∨ [a, b] = [38, 38] ∨ [a, b] = [124, 124]) := by
  simp only [two, Bool.or_eq_true, Bool.and_eq_true, beq_iff_eq, List.cons.injEq, and_true]
  constructor
  · rintro ((⟨rfl, ((rfl | rfl) | rfl) | rfl⟩ | ⟨rfl, rfl⟩) | ⟨rfl, rfl⟩) <;> simp
  · rintro (⟨rfl, rfl⟩ | ⟨rfl, rfl⟩ | ⟨rfl, rfl⟩ | ⟨rfl, rfl⟩ | ⟨rfl, rfl⟩ | ⟨rfl, rfl⟩) <;> simp
theorem mark_any (l : By) (r : Nat) (h0 : l ≠ []) (hl : l.length ≤ 9223372036854775806) (hr : mkLen l = r) (w : World) :
    Calls Tryz.prog 113 #[.string ⟨l.toArray⟩] w fun e w' => e = .returned (.int .i64 (r : Int)) ∧ w' = w := by
  subst hr
  match l, h0 with
  | [a], _ =>
    have hx : ∀ w, (Instr.index 9 (.string ⟨([a] : By).toArray⟩) (.int .i64 0)).run Tryz.prog w = .ok (.int .u8 (a.toNat : Int)) w := str_index [a] 0 a rfl
    exact mark_walk [a] [a] a.toNat _ hl (slice_min [a] (by simp)) hx (by simp) (by simp) (by simp) (by simp) (by simp) (by simp) (by show _ = _; rw [one_nat]; rfl) w
  | a :: b :: t, _ =>
    have hx : ∀ w, (Instr.index 9 (.string ⟨(a :: b :: t).toArray⟩) (.int .i64 0)).run Tryz.prog w = .ok (.int .u8 (a.toNat : Int)) w := str_index (a :: b :: t) 0 a rfl
    have hsl := slice_min (a :: b :: t) (by omega)
    have ht := two_eq a b
    cases h2 : two a b
    · have hne : ¬ ([a, b] = [60, 61] ∨ [a, b] = [62, 61] ∨ [a, b] = [61, 61] ∨ [a, b] = [33, 61] ∨ [a, b] = [38, 38] ∨ [a, b] = [124, 124]) := fun h => by rw [ht.2 h] at h2; cases h2
      refine mark_walk (a :: b :: t) [a, b] a.toNat _ hl hsl hx ?_ ?_ ?_ ?_ ?_ ?_ (by show _ = _; rw [one_nat]; simp [mkLen, h2]) w
      all_goals (rw [beq_eq_false_iff_ne]; intro e; exact hne (by simp [e]))
    · have := mark_two (a :: b :: t) [a, b] hl hsl (ht.1 h2) w
      rw [show mkLen (a :: b :: t) = 2 by simp [mkLen, h2]]
      exact this

theorem slice_mid (l : By) (i j : Nat) (h : i ≤ j) (hj : j ≤ l.length) (hl : l.length ≤ 9223372036854775807) (w : World) :
    (Instr.slice 9 (.string ⟨l.toArray⟩) (some (.int .i64 (i : Int))) (some (.int .i64 (j : Int))) none).run Tryz.prog w = .ok (.string ⟨((l.drop i).take (j - i)).toArray⟩) w := by
  have hs : (⟨l.toArray⟩ : ByteArray).size = l.length := by simp [ByteArray.size]
  rw [run_slice_string_if _ _ _ _ _ _ _ Tryz.underlying9]
  have e : (⟨l.toArray⟩ : ByteArray).extract i j = ⟨((l.drop i).take (j - i)).toArray⟩ := by
    apply ByteArray.ext
    apply Array.ext'
    rw [Lib.extract_data]
  rw [if_pos (by rw [hs]; omega), Int.toNat_natCast, Int.toNat_natCast, e, if_pos (by omega)]
end Go.Proofs.YtfkccanjdlajlabGreatDoor
